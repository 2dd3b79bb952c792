package disk

import (
	"bytes"
	"math"
	"slices"
	"testing"

	"reliquary/api"
)

// The calls as chapter 6 lists them: this doesn't build if a signature is another one.
var (
	_ func(int) (*Disk, api.Errno)         = New
	_ func(*Disk) int                      = (*Disk).Size
	_ func(*Disk, int) ([]byte, api.Errno) = (*Disk).Read
	_ func(*Disk, int, []byte) api.Errno   = (*Disk).Write
	_ func(*Disk) api.Errno                = (*Disk).Flush
	_ func(*Disk, int)                     = (*Disk).Stop
	_ func(*Disk, []bool)                  = (*Disk).Crash
	_ func(*Disk) int                      = (*Disk).Pending
	_ func(*Disk, int, []byte) api.Errno   = (*Disk).Tamper
	_ func(*Disk) [][]byte                 = (*Disk).Image
	_ func(*Disk, [][]byte) api.Errno      = (*Disk).Restore
	_ func(*Disk) []Op                     = (*Disk).Ops
	_ struct{ Kind, Slot int }             = Op{}
	_ [1]struct{}                          = [Reads]struct{}{}
	_ [2]struct{}                          = [Writes]struct{}{}
	_ [3]struct{}                          = [Flushes]struct{}{}
)

// lengths are numbers of bytes that no place has.
var lengths = []int{0, 1, 160, 176, api.Slot - 1, api.Slot + 1, 2 * api.Slot}

// some is the bytes of a place, without a rule that a fault could hide in; each seed has others.
func some(seed int) []byte { return long(seed, api.Slot) }

// long is so many such bytes.
func long(seed, n int) []byte {
	out := make([]byte, n)
	x := uint32(seed)*2654435761 + 5
	for i := range out {
		x = x*1664525 + 1013904223
		out[i] = byte(x >> 24)
	}
	return out
}

// noughts is the bytes of a place that nothing was written to.
func noughts() []byte { return make([]byte, api.Slot) }

// fresh is a new disk.
func fresh(t *testing.T, n int) *Disk {
	t.Helper()
	d, e := New(n)
	if d == nil || e != api.OK {
		t.Fatalf("New of %d: %v, error %d", n, d, e)
	}
	return d
}

// down is a disk that stopped, with a write of some(1) to place 0 under way.
func down(t *testing.T, n int) *Disk {
	t.Helper()
	d := fresh(t, n)
	must(t, d.Write(0, some(1)), api.OK)
	d.Stop(0)
	must(t, d.Write(0, some(2)), api.ErrDown)
	return d
}

// must holds an error against the one that is asked for.
func must(t *testing.T, got, want api.Errno) {
	t.Helper()
	if got != want {
		t.Fatalf("error %d, not %d", got, want)
	}
}

// reads holds a place's bytes, as Read tells them, against those that are asked for.
func reads(t *testing.T, d *Disk, i int, want []byte) {
	t.Helper()
	got, e := d.Read(i)
	if e != api.OK || !bytes.Equal(got, want) {
		t.Fatalf("Read of %d: %x, error %d, not %x", i, got, e, want)
	}
}

// refuses holds that a Read tells an error, and nothing beside it.
func refuses(t *testing.T, d *Disk, i int, want api.Errno) {
	t.Helper()
	got, e := d.Read(i)
	if e != want || len(got) != 0 {
		t.Fatalf("Read of %d: %x, error %d, not %d", i, got, e, want)
	}
}

// done holds all places' bytes, as Image tells them, against those that are asked for.
func done(t *testing.T, d *Disk, want ...[]byte) {
	t.Helper()
	if got := d.Image(); !slices.EqualFunc(got, want, bytes.Equal) {
		t.Fatalf("Image: %x, not %x", got, want)
	}
}

// pending holds how many writes are under way against how many are asked for.
func pending(t *testing.T, d *Disk, want int) {
	t.Helper()
	if got := d.Pending(); got != want {
		t.Fatalf("Pending: %d, not %d", got, want)
	}
}

// ops holds the operations against those that are asked for.
func ops(t *testing.T, d *Disk, want ...Op) {
	t.Helper()
	if got := d.Ops(); !slices.Equal(got, want) {
		t.Fatalf("Ops: %v, not %v", got, want)
	}
}

// outside are numbers of no place of a disk of n places.
func outside(n int) []int { return []int{math.MinInt, -n, -1, n, n + 1, api.MaxSlots, math.MaxInt} }

// P6.1

func TestNewHasPlacesOfNoughts(t *testing.T) {
	for _, n := range []int{1, 2, 3, 100, api.MaxSlots - 1, api.MaxSlots} {
		d := fresh(t, n)
		if d.Size() != n {
			t.Errorf("Size: %d, not %d", d.Size(), n)
		}
		pending(t, d, 0)
		ops(t, d)
		for i := range n {
			reads(t, d, i, noughts())
		}
		l := d.Image()
		if len(l) != n {
			t.Fatalf("Image of %d places: %d", n, len(l))
		}
		for i, b := range l {
			if !bytes.Equal(b, noughts()) {
				t.Errorf("place %d of %d: %x", i, n, b)
			}
		}
	}
}

func TestNewIsUpAndNotToldToStop(t *testing.T) {
	d := fresh(t, 2)
	for k := range 100 {
		must(t, d.Write(k%2, some(k)), api.OK)
	}
	must(t, d.Flush(), api.OK)
}

func TestNewRefusesOtherNumbers(t *testing.T) {
	for _, n := range []int{math.MinInt, -api.MaxSlots, -1, 0, api.MaxSlots + 1, 2 * api.MaxSlots, 1 << 32, 1<<32 + 1, math.MaxInt} {
		if d, e := New(n); d != nil || e != api.ErrArg {
			t.Errorf("New of %d: %v, error %d", n, d, e)
		}
	}
}

func TestDisksAreApart(t *testing.T) {
	a, b := fresh(t, 1), fresh(t, 1)
	must(t, a.Write(0, some(1)), api.OK)
	must(t, a.Flush(), api.OK)
	a.Stop(0)
	must(t, a.Write(0, some(1)), api.ErrDown)
	reads(t, b, 0, noughts())
	must(t, b.Write(0, some(2)), api.OK)
	ops(t, b, Op{Reads, 0}, Op{Writes, 0})
}

// P6.2

func TestReadOfWhatIsUnderWay(t *testing.T) {
	d := fresh(t, 3)
	must(t, d.Write(1, some(1)), api.OK)
	must(t, d.Write(2, some(2)), api.OK)
	must(t, d.Write(1, some(3)), api.OK)
	must(t, d.Write(2, some(4)), api.OK)
	must(t, d.Write(1, some(5)), api.OK)
	reads(t, d, 0, noughts())
	reads(t, d, 1, some(5))
	reads(t, d, 2, some(4))
	pending(t, d, 5)
}

func TestReadOfWhatIsDone(t *testing.T) {
	d := fresh(t, 3)
	must(t, d.Write(1, some(1)), api.OK)
	must(t, d.Write(2, some(2)), api.OK)
	must(t, d.Flush(), api.OK)
	must(t, d.Write(2, some(3)), api.OK)
	reads(t, d, 0, noughts())
	reads(t, d, 1, some(1))
	reads(t, d, 2, some(3))
}

func TestReadTellsErrorsInOrder(t *testing.T) {
	for _, n := range []int{1, 4} {
		up, off := fresh(t, n), down(t, n)
		before := off.Ops()
		for _, i := range outside(n) {
			refuses(t, up, i, api.ErrRange)
			refuses(t, off, i, api.ErrDown)
		}
		for i := range n {
			refuses(t, off, i, api.ErrDown)
		}
		ops(t, up)
		ops(t, off, before...)
	}
}

func TestWriteTellsErrorsInOrder(t *testing.T) {
	up, off, told := fresh(t, 3), down(t, 3), fresh(t, 3)
	told.Stop(0)
	for _, i := range outside(3) {
		for _, n := range append(lengths, api.Slot) {
			must(t, up.Write(i, long(i, n)), api.ErrRange)
			must(t, told.Write(i, long(i, n)), api.ErrRange)
			must(t, off.Write(i, long(i, n)), api.ErrDown)
		}
	}
	for i := range 3 {
		for _, n := range lengths {
			must(t, up.Write(i, long(i, n)), api.ErrArg)
			must(t, told.Write(i, long(i, n)), api.ErrArg)
			must(t, off.Write(i, long(i, n)), api.ErrDown)
		}
		must(t, up.Write(i, nil), api.ErrArg)
		must(t, off.Write(i, some(i)), api.ErrDown)
	}
	// What was refused for its own sake neither stopped it nor is anything of it left.
	must(t, told.Flush(), api.OK)
	must(t, told.Write(0, some(1)), api.ErrDown)
	pending(t, up, 0)
	pending(t, told, 0)
	pending(t, off, 1)
	done(t, up, noughts(), noughts(), noughts())
	done(t, off, noughts(), noughts(), noughts())
	ops(t, up)
	ops(t, told, Op{Flushes, 0})
	ops(t, off, Op{Writes, 0})
}

func TestWriteStopsAfterSoMany(t *testing.T) {
	for _, after := range []int{0, 1, 2, 3, 10} {
		d := fresh(t, 2)
		must(t, d.Write(1, some(99)), api.OK)
		d.Stop(after)
		want := []Op{{Writes, 1}}
		for k := range after {
			must(t, d.Write(0, long(0, 1)), api.ErrArg) // isn't counted
			must(t, d.Write(0, some(k)), api.OK)
			want = append(want, Op{Writes, 0})
		}
		// Until it is asked for a write too many, it is up.
		reads(t, d, 1, some(99))
		want = append(want, Op{Reads, 1})
		must(t, d.Write(0, some(100)), api.ErrDown)
		pending(t, d, after+1)
		must(t, d.Write(0, some(100)), api.ErrDown)
		refuses(t, d, 0, api.ErrDown)
		must(t, d.Flush(), api.ErrDown)
		pending(t, d, after+1)
		done(t, d, noughts(), noughts())
		ops(t, d, want...)
	}
}

func TestReadsAndFlushesAreNotCounted(t *testing.T) {
	d := fresh(t, 1)
	d.Stop(1)
	for range 5 {
		reads(t, d, 0, noughts())
		must(t, d.Flush(), api.OK)
	}
	must(t, d.Write(0, some(1)), api.OK)
	for range 5 {
		reads(t, d, 0, some(1))
		must(t, d.Flush(), api.OK)
	}
	done(t, d, some(1))
	must(t, d.Write(0, some(2)), api.ErrDown)
}

func TestFlushDoesAllInOrder(t *testing.T) {
	d := fresh(t, 3)
	must(t, d.Flush(), api.OK)
	done(t, d, noughts(), noughts(), noughts())
	must(t, d.Write(0, some(1)), api.OK)
	must(t, d.Write(2, some(2)), api.OK)
	must(t, d.Write(0, some(3)), api.OK)
	done(t, d, noughts(), noughts(), noughts())
	pending(t, d, 3)
	must(t, d.Flush(), api.OK)
	pending(t, d, 0)
	done(t, d, some(3), noughts(), some(2))
	ops(t, d, Op{Flushes, 0}, Op{Writes, 0}, Op{Writes, 2}, Op{Writes, 0}, Op{Flushes, 0})
}

func TestFlushDown(t *testing.T) {
	d := down(t, 2)
	must(t, d.Flush(), api.ErrDown)
	pending(t, d, 1)
	done(t, d, noughts(), noughts())
	ops(t, d, Op{Writes, 0})
}

// P6.3

func TestStopTakenBack(t *testing.T) {
	for _, after := range []int{-1, -2, math.MinInt} {
		d := fresh(t, 1)
		d.Stop(1)
		must(t, d.Write(0, some(0)), api.OK)
		d.Stop(after)
		for k := range 20 {
			must(t, d.Write(0, some(k)), api.OK)
		}
		pending(t, d, 21)
	}
}

func TestStopToldAnew(t *testing.T) {
	d := fresh(t, 1)
	d.Stop(0)
	d.Stop(2)
	must(t, d.Write(0, some(1)), api.OK)
	d.Stop(2)
	must(t, d.Write(0, some(2)), api.OK)
	must(t, d.Write(0, some(3)), api.OK)
	d.Stop(0)
	must(t, d.Write(0, some(4)), api.ErrDown)
	pending(t, d, 3)
}

func TestStopAfterVeryMany(t *testing.T) {
	d := fresh(t, 1)
	d.Stop(math.MaxInt)
	for k := range 20 {
		must(t, d.Write(0, some(k)), api.OK)
	}
}

func TestStopLetsNothingBeUp(t *testing.T) {
	for _, after := range []int{-1, 0, 1, math.MaxInt} {
		d := down(t, 1)
		d.Stop(after)
		refuses(t, d, 0, api.ErrDown)
		must(t, d.Write(0, some(1)), api.ErrDown)
		must(t, d.Flush(), api.ErrDown)
		pending(t, d, 1)
	}
}

func TestCrashOfNothingKept(t *testing.T) {
	for _, keep := range [][]bool{nil, {}, {false}, {false, false, false, false}} {
		d := fresh(t, 2)
		must(t, d.Write(1, some(1)), api.OK)
		d.Crash(keep)
		pending(t, d, 0)
		reads(t, d, 1, noughts())
		done(t, d, noughts(), noughts())
	}
}

func TestCrashKeepsTheOnesThatAreTrue(t *testing.T) {
	places := []int{0, 1, 0, 2, 1}
	for bits := range 1 << 7 {
		for length := range 8 {
			d := fresh(t, 3)
			must(t, d.Write(2, some(50)), api.OK)
			must(t, d.Flush(), api.OK)
			keep := make([]bool, length)
			for k := range keep {
				keep[k] = bits>>k&1 == 1
			}
			want := [][]byte{noughts(), noughts(), some(50)}
			for k, i := range places {
				must(t, d.Write(i, some(k)), api.OK)
				if k < length && bits>>k&1 == 1 {
					want[i] = some(k)
				}
			}
			before := slices.Clone(keep)
			d.Crash(keep)
			if !slices.Equal(keep, before) {
				t.Fatal("what was handed in is changed")
			}
			pending(t, d, 0)
			done(t, d, want...)
			for i, b := range want {
				reads(t, d, i, b)
			}
		}
	}
}

func TestCrashLetsItBeUp(t *testing.T) {
	d := down(t, 1)
	d.Crash([]bool{true, true})
	reads(t, d, 0, some(1))
	for k := range 20 {
		must(t, d.Write(0, some(k)), api.OK)
	}
	must(t, d.Flush(), api.OK)
	done(t, d, some(19))
}

func TestCrashTakesStopBack(t *testing.T) {
	for after := range 3 {
		d := fresh(t, 1)
		d.Stop(after)
		d.Crash(nil)
		for k := range 20 {
			must(t, d.Write(0, some(k)), api.OK)
		}
	}
}

func TestCrashIsNoOperation(t *testing.T) {
	d := fresh(t, 1)
	must(t, d.Write(0, some(1)), api.OK)
	d.Crash([]bool{true})
	d.Stop(3)
	ops(t, d, Op{Writes, 0})
	must(t, d.Flush(), api.OK)
	ops(t, d, Op{Writes, 0}, Op{Flushes, 0})
}

func TestPending(t *testing.T) {
	d := fresh(t, 2)
	for k := range 10 {
		pending(t, d, k)
		must(t, d.Write(k%2, some(k)), api.OK)
	}
	pending(t, d, 10)
	reads(t, d, 0, some(8))
	pending(t, d, 10)
	must(t, d.Flush(), api.OK)
	pending(t, d, 0)
}

// P6.4

func TestTamperTellsErrorsInOrder(t *testing.T) {
	for _, d := range []*Disk{fresh(t, 3), down(t, 3)} {
		before := d.Pending()
		for _, i := range outside(3) {
			for _, n := range append(lengths, api.Slot) {
				must(t, d.Tamper(i, long(i, n)), api.ErrRange)
			}
		}
		for i := range 3 {
			for _, n := range lengths {
				must(t, d.Tamper(i, long(i, n)), api.ErrArg)
			}
			must(t, d.Tamper(i, nil), api.ErrArg)
		}
		done(t, d, noughts(), noughts(), noughts())
		pending(t, d, before)
	}
}

func TestTamperLeavesOtherPlacesUnderWay(t *testing.T) {
	d := fresh(t, 3)
	for k, i := range []int{0, 1, 0, 2, 1, 1} {
		must(t, d.Write(i, some(k)), api.OK)
	}
	must(t, d.Tamper(1, some(9)), api.OK)
	pending(t, d, 3)
	reads(t, d, 0, some(2))
	reads(t, d, 1, some(9))
	reads(t, d, 2, some(3))
	done(t, d, noughts(), some(9), noughts())
	// Of those that are left, the third one is that to place 2.
	d.Crash([]bool{true, false, true})
	done(t, d, some(0), some(9), some(3))
}

func TestTamperOfWhatIsFlushed(t *testing.T) {
	d := fresh(t, 2)
	must(t, d.Write(0, some(1)), api.OK)
	must(t, d.Write(1, some(2)), api.OK)
	must(t, d.Flush(), api.OK)
	must(t, d.Tamper(0, some(3)), api.OK)
	done(t, d, some(3), some(2))
	must(t, d.Write(0, some(4)), api.OK)
	reads(t, d, 0, some(4))
	done(t, d, some(3), some(2))
}

func TestTamperDown(t *testing.T) {
	d := down(t, 2)
	must(t, d.Tamper(1, some(3)), api.OK)
	pending(t, d, 1)
	done(t, d, noughts(), some(3))
	must(t, d.Tamper(0, some(4)), api.OK)
	pending(t, d, 0)
	refuses(t, d, 0, api.ErrDown)
	d.Crash([]bool{true})
	done(t, d, some(4), some(3))
}

func TestTamperIsNoWrite(t *testing.T) {
	d := fresh(t, 1)
	d.Stop(1)
	for k := range 5 {
		must(t, d.Tamper(0, some(k)), api.OK)
	}
	ops(t, d)
	must(t, d.Write(0, some(1)), api.OK)
	must(t, d.Write(0, some(1)), api.ErrDown)
}

func TestImageShowsWhatIsDoneAlone(t *testing.T) {
	d := fresh(t, 3)
	must(t, d.Write(0, some(1)), api.OK)
	must(t, d.Flush(), api.OK)
	must(t, d.Write(0, some(2)), api.OK)
	must(t, d.Write(2, some(3)), api.OK)
	done(t, d, some(1), noughts(), noughts())
	pending(t, d, 2)
	d.Stop(0)
	must(t, d.Write(1, some(4)), api.ErrDown)
	done(t, d, some(1), noughts(), noughts())
	ops(t, d, Op{Writes, 0}, Op{Flushes, 0}, Op{Writes, 0}, Op{Writes, 2})
}

func TestRestore(t *testing.T) {
	for _, d := range []*Disk{fresh(t, 2), down(t, 2)} {
		before := d.Ops()
		must(t, d.Restore([][]byte{some(7), some(8)}), api.OK)
		pending(t, d, 0)
		done(t, d, some(7), some(8))
		ops(t, d, before...)
		d.Crash([]bool{true})
		done(t, d, some(7), some(8))
	}
}

func TestRestoreLetsNothingBeUnderWay(t *testing.T) {
	d := fresh(t, 2)
	must(t, d.Write(0, some(1)), api.OK)
	must(t, d.Write(1, some(2)), api.OK)
	must(t, d.Restore([][]byte{some(7), some(8)}), api.OK)
	pending(t, d, 0)
	reads(t, d, 0, some(7))
	must(t, d.Flush(), api.OK)
	done(t, d, some(7), some(8))
}

func TestRestoreOfAnEarlierImage(t *testing.T) {
	d := fresh(t, 2)
	must(t, d.Write(0, some(1)), api.OK)
	must(t, d.Flush(), api.OK)
	early := d.Image()
	must(t, d.Write(0, some(2)), api.OK)
	must(t, d.Write(1, some(3)), api.OK)
	must(t, d.Flush(), api.OK)
	must(t, d.Restore(early), api.OK)
	done(t, d, some(1), noughts())
}

func TestRestoreKeepsWhetherItIsDownOrStops(t *testing.T) {
	l := [][]byte{some(7)}
	off := down(t, 1)
	must(t, off.Restore(l), api.OK)
	refuses(t, off, 0, api.ErrDown)
	told := fresh(t, 1)
	told.Stop(1)
	must(t, told.Restore(l), api.OK)
	must(t, told.Write(0, some(1)), api.OK)
	must(t, told.Write(0, some(1)), api.ErrDown)
}

func TestRestoreRefuses(t *testing.T) {
	d := fresh(t, 2)
	must(t, d.Write(0, some(1)), api.OK)
	must(t, d.Flush(), api.OK)
	must(t, d.Write(1, some(2)), api.OK)
	wrong := [][][]byte{nil, {}, {some(7)}, {some(7), some(8), some(9)}, {nil, nil}, {some(7), nil}, {nil, some(7)}}
	for _, n := range lengths {
		wrong = append(wrong, [][]byte{some(7), long(8, n)}, [][]byte{long(7, n), some(8)})
	}
	for _, l := range wrong {
		must(t, d.Restore(l), api.ErrArg)
		pending(t, d, 1)
		done(t, d, some(1), noughts())
		reads(t, d, 1, some(2))
	}
}

func TestOpsInOrder(t *testing.T) {
	d := fresh(t, 3)
	reads(t, d, 2, noughts())
	must(t, d.Write(1, some(1)), api.OK)
	refuses(t, d, 3, api.ErrRange)
	must(t, d.Write(-1, some(1)), api.ErrRange)
	must(t, d.Write(1, nil), api.ErrArg)
	reads(t, d, 1, some(1))
	must(t, d.Flush(), api.OK)
	must(t, d.Flush(), api.OK)
	d.Stop(0)
	must(t, d.Write(0, some(2)), api.ErrDown)
	refuses(t, d, 0, api.ErrDown)
	must(t, d.Flush(), api.ErrDown)
	d.Crash(nil)
	must(t, d.Write(2, some(3)), api.OK)
	reads(t, d, 0, noughts())
	ops(t, d, Op{Reads, 2}, Op{Writes, 1}, Op{Reads, 1}, Op{Flushes, 0}, Op{Flushes, 0}, Op{Writes, 2}, Op{Reads, 0})
}

func TestNil(t *testing.T) {
	var d *Disk
	if d.Size() != 0 || d.Pending() != 0 || len(d.Image()) != 0 || len(d.Ops()) != 0 {
		t.Error("nil has something")
	}
	for _, i := range []int{-1, 0, 1} {
		refuses(t, d, i, api.ErrArg)
		must(t, d.Write(i, some(1)), api.ErrArg)
		must(t, d.Write(i, nil), api.ErrArg)
		must(t, d.Tamper(i, some(1)), api.ErrArg)
		must(t, d.Tamper(i, nil), api.ErrArg)
		d.Stop(i)
	}
	must(t, d.Flush(), api.ErrArg)
	must(t, d.Restore(nil), api.ErrArg)
	must(t, d.Restore([][]byte{}), api.ErrArg)
	must(t, d.Restore([][]byte{some(1)}), api.ErrArg)
	d.Crash(nil)
	d.Crash([]bool{true})
}

// A disk that New didn't make has no place; whatever is asked of it, it answers.
func TestWithoutPlaces(t *testing.T) {
	var d Disk
	refuses(t, &d, 0, api.ErrRange)
	must(t, d.Write(0, some(1)), api.ErrRange)
	must(t, d.Tamper(0, some(1)), api.ErrRange)
	d.Stop(0)
	d.Crash([]bool{true})
	if d.Size() != 0 || d.Pending() != 0 || len(d.Image()) != 0 || len(d.Ops()) != 0 {
		t.Error("it has something")
	}
}

// Bytes in memory of their own (section 'Words')

func TestWhatIsHandedInIsNotKept(t *testing.T) {
	for name, hand := range map[string]func(*Disk, []byte) api.Errno{
		"Write":   func(d *Disk, b []byte) api.Errno { return d.Write(0, b) },
		"Tamper":  func(d *Disk, b []byte) api.Errno { return d.Tamper(0, b) },
		"Restore": func(d *Disk, b []byte) api.Errno { return d.Restore([][]byte{b}) },
	} {
		d, b := fresh(t, 1), some(1)
		must(t, hand(d, b), api.OK)
		if !bytes.Equal(b, some(1)) {
			t.Errorf("%s changes what is handed in", name)
		}
		clear(b)
		reads(t, d, 0, some(1))
		must(t, d.Flush(), api.OK)
		done(t, d, some(1))
		b[0]++
		done(t, d, some(1))
	}
}

func TestOneListHandedInTwice(t *testing.T) {
	d, b := fresh(t, 2), some(1)
	must(t, d.Restore([][]byte{b, b}), api.OK)
	must(t, d.Tamper(0, some(2)), api.OK)
	done(t, d, some(2), some(1))
	must(t, d.Write(0, b), api.OK)
	must(t, d.Write(1, b), api.OK)
	must(t, d.Flush(), api.OK)
	must(t, d.Tamper(1, some(3)), api.OK)
	done(t, d, some(1), some(3))
}

func TestWhatIsToldIsNotKept(t *testing.T) {
	d := fresh(t, 2)
	must(t, d.Write(0, some(1)), api.OK)
	must(t, d.Flush(), api.OK)
	must(t, d.Write(1, some(2)), api.OK)
	for i := range 2 { // one that is done, one that is under way
		b, e := d.Read(i)
		must(t, e, api.OK)
		again, _ := d.Read(i)
		clear(b)
		_ = append(b, 1)
		if !bytes.Equal(again, some(i+1)) {
			t.Errorf("two Reads of %d share memory", i)
		}
		reads(t, d, i, some(i+1))
	}
	l := d.Image()
	for _, b := range l {
		clear(b)
		_ = append(b, 9, 9, 9)
	}
	done(t, d, some(1), noughts())
	clear(l)
	done(t, d, some(1), noughts())
}

func TestImageIsOfThatTime(t *testing.T) {
	d := fresh(t, 2)
	l := d.Image()
	b, _ := d.Read(0)
	must(t, d.Write(0, some(1)), api.OK)
	must(t, d.Flush(), api.OK)
	must(t, d.Tamper(1, some(2)), api.OK)
	if !bytes.Equal(l[0], noughts()) || !bytes.Equal(l[1], noughts()) || !bytes.Equal(b, noughts()) {
		t.Error("what was told changed later")
	}
	_ = append(l[0], some(3)...)
	if !bytes.Equal(l[1], noughts()) {
		t.Error("a place of an image goes on in the next one")
	}
}

func TestOpsAreNotKept(t *testing.T) {
	d := fresh(t, 2)
	reads(t, d, 1, noughts())
	must(t, d.Write(1, some(1)), api.OK)
	l := d.Ops()
	clear(l)
	_ = append(l, Op{9, 9})
	must(t, d.Flush(), api.OK)
	early := d.Ops()
	_ = append(early[:2], Op{9, 9})
	_ = append(early, Op{9, 9})
	must(t, d.Write(0, some(1)), api.OK)
	ops(t, d, Op{Reads, 1}, Op{Writes, 1}, Op{Flushes, 0}, Op{Writes, 0})
	if len(early) != 3 {
		t.Error("what was told changed later")
	}
}

// P6.5

func TestWrittenIsRead(t *testing.T) {
	for _, flushed := range []bool{false, true} {
		d := fresh(t, 5)
		for i := range 5 {
			must(t, d.Write(i, some(i)), api.OK)
		}
		if flushed {
			must(t, d.Flush(), api.OK)
		}
		for i := range 5 {
			reads(t, d, i, some(i))
		}
	}
}

func TestFlushedStaysThroughCrashes(t *testing.T) {
	d := fresh(t, 3)
	for i := range 3 {
		must(t, d.Write(i, some(i)), api.OK)
	}
	must(t, d.Flush(), api.OK)
	for k := range 4 {
		for i := range 3 {
			must(t, d.Write(i, some(10*k+i)), api.OK)
		}
		d.Stop(0)
		must(t, d.Write(0, some(99)), api.ErrDown)
		d.Crash(make([]bool, k))
		for i := range 3 {
			reads(t, d, i, some(i))
		}
	}
}

// told is a disk as the promises' words tell it, with what is under way as a list of steps that are done anew at each question.
type told struct {
	done    map[int]string
	way     []step
	size    int
	isDown  bool
	toStop  bool
	hasLeft int
	ops     []Op
}

type step struct {
	place int
	text  string
}

// place is the bytes of a place behind the first n steps.
func (m *told) place(i, n int) string {
	text, ok := m.done[i]
	if !ok {
		text = string(noughts())
	}
	for _, s := range m.way[:n] {
		if s.place == i {
			text = s.text
		}
	}
	return text
}

func (m *told) wrong(i int, b []byte) api.Errno {
	switch {
	case i < 0 || i > m.size-1:
		return api.ErrRange
	case len(b) != 192:
		return api.ErrArg
	}
	return api.OK
}

func (m *told) read(i int) (string, api.Errno) {
	switch {
	case m.isDown:
		return "", api.ErrDown
	case i < 0 || i > m.size-1:
		return "", api.ErrRange
	}
	m.ops = append(m.ops, Op{1, i})
	return m.place(i, len(m.way)), api.OK
}

func (m *told) write(i int, b []byte) api.Errno {
	if m.isDown {
		return api.ErrDown
	}
	if e := m.wrong(i, b); e != api.OK {
		return e
	}
	if m.toStop && m.hasLeft == 0 {
		m.isDown = true
		return api.ErrDown
	}
	m.hasLeft--
	m.way = append(m.way, step{i, string(b)})
	m.ops = append(m.ops, Op{2, i})
	return api.OK
}

func (m *told) flush() api.Errno {
	if m.isDown {
		return api.ErrDown
	}
	for _, s := range m.way {
		m.done[s.place] = s.text
	}
	m.way = nil
	m.ops = append(m.ops, Op{3, 0})
	return api.OK
}

func (m *told) crash(keep []bool) {
	for k, s := range m.way {
		if k < len(keep) && keep[k] {
			m.done[s.place] = s.text
		}
	}
	m.way, m.isDown, m.toStop = nil, false, false
}

func (m *told) tamper(i int, b []byte) api.Errno {
	if e := m.wrong(i, b); e != api.OK {
		return e
	}
	m.done[i] = string(b)
	var left []step
	for _, s := range m.way {
		if s.place != i {
			left = append(left, s)
		}
	}
	m.way = left
	return api.OK
}

// dice are numbers in a row that is the same each time.
type dice uint32

func (x *dice) below(n int) int {
	*x = *x*1664525 + 1013904223
	return int(uint64(*x>>8) * uint64(n) >> 24)
}

// one does one call on both, and holds the answers against each other.
func one(t *testing.T, x *dice, d *Disk, m *told) {
	t.Helper()
	i, b := x.below(m.size+2)-1, some(x.below(1000))
	if x.below(12) == 0 {
		b = b[:x.below(api.Slot)]
	}
	switch x.below(14) {
	case 0, 1, 2, 3, 4:
		must(t, d.Write(i, b), m.write(i, b))
	case 5, 6, 7, 8:
		got, e := d.Read(i)
		want, wantE := m.read(i)
		if string(got) != want || e != wantE {
			t.Fatalf("Read of %d: %x, error %d, not %x, error %d", i, got, e, want, wantE)
		}
	case 9:
		must(t, d.Flush(), m.flush())
	case 10:
		after := x.below(8) - 2
		d.Stop(after)
		m.toStop, m.hasLeft = after > -1, after
	case 11:
		keep := make([]bool, x.below(len(m.way)+3))
		for k := range keep {
			keep[k] = x.below(2) == 1
		}
		d.Crash(keep)
		m.crash(keep)
	case 12:
		must(t, d.Tamper(i, b), m.tamper(i, b))
	case 13:
		l := make([][]byte, m.size+x.below(2))
		for k := range l {
			l[k] = some(x.below(1000))
		}
		if len(l) != m.size {
			must(t, d.Restore(l), api.ErrArg)
			return
		}
		must(t, d.Restore(l), api.OK)
		m.way = nil
		for k, b := range l {
			m.done[k] = string(b)
		}
	}
}

func TestManyCallsInARow(t *testing.T) {
	for seed := range 40 {
		x, n := dice(seed), 1+seed%5
		d, m := fresh(t, n), &told{done: map[int]string{}, size: n}
		for range 400 {
			one(t, &x, d, m)
			pending(t, d, len(m.way))
			for i, b := range d.Image() {
				if string(b) != m.place(i, 0) {
					t.Fatalf("place %d: %x, not %x", i, b, m.place(i, 0))
				}
			}
		}
		ops(t, d, m.ops...)
	}
}
