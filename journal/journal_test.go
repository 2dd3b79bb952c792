package journal

import (
	"bytes"
	"crypto/sha256"
	"encoding/binary"
	"encoding/hex"
	"math"
	"reflect"
	"slices"
	"testing"

	"reliquary/api"
	"reliquary/disk"
	"reliquary/record"
	"reliquary/seal"
)

// The calls as chapter 13 lists them: this doesn't build if a signature, or a state's fields, are others.
var (
	_ func(*disk.Disk, api.Sum, int, int, State, uint64, uint64) (*Journal, api.Errno) = New
	_ func(api.Sum, uint32, []byte) api.Sum                                            = Link
	_ func(*Journal, []api.Image) (State, api.Errno)                                   = (*Journal).Append
	_ func(*Journal, State, uint64)                                                    = (*Journal).Adopt
	_ func(*Journal) State                                                             = (*Journal).Empty
	_ func(*Journal) uint64                                                            = (*Journal).Room
	_ func(*Journal) (State, uint64)                                                   = (*Journal).State
	_ struct {
		Start, Count uint64
		Tag          api.Sum
	} = State{}
)

// last is the greatest limit; top is the greatest number.
const (
	last = 1<<63 - 1
	top  = math.MaxUint64
)

// key is one of which no two bytes are the same.
var key = api.Sum(counted(0, 32))

// rings are such as stand at the disk's begin, at its end, between, and alone; each is first, size, and the disk's places.
var rings = [][3]int{{0, 1, 1}, {0, 1, 3}, {2, 1, 3}, {0, 3, 3}, {1, 3, 4}, {1, 3, 5}, {7, 8, 20}, {300, 5, 305}, {0, 4096, 4096}, {4095, 1, 4096}}

// some is so many bytes without a rule that a fault could hide in; each seed has others.
func some(seed, n int) []byte {
	out := make([]byte, n)
	x := uint32(seed)*2654435761 + 17
	for i := range out {
		x = x*1664525 + 1013904223
		out[i] = byte(x >> 24)
	}
	return out
}

// counted is so many bytes, each the one ahead and 1, from a byte on.
func counted(from byte, n int) []byte {
	out := make([]byte, n)
	for i := range out {
		out[i] = from + byte(i)
	}
	return out
}

// tag is a chain's digest; each seed has another one.
func tag(seed int) api.Sum { return api.Sum(some(seed+5000, 32)) }

// images are so many blocks; each seed has others.
func images(seed, n int) []api.Image {
	var l []api.Image
	for i := range n {
		l = append(l, api.Image{Block: uint64(seed+i) * 0x9e3779b97f4a7c15, Bytes: some(100*seed+i, 160)})
	}
	return l
}

// must holds an error against the one that is asked for.
func must(t *testing.T, got, want api.Errno) {
	t.Helper()
	if got != want {
		t.Fatalf("error %d, not %d", got, want)
	}
}

// room is a disk of so many places.
func room(t *testing.T, n int) *disk.Disk {
	t.Helper()
	d, e := disk.New(n)
	must(t, e, api.OK)
	return d
}

// over is a journal over a disk.
func over(t *testing.T, d *disk.Disk, first, size int, s State, next, limit uint64) *Journal {
	t.Helper()
	j, e := New(d, key, first, size, s, next, limit)
	must(t, e, api.OK)
	if j == nil {
		t.Fatal("no journal, and no error")
	}
	return j
}

// fresh is an empty journal, and a disk of just as many places as it needs, from place 2 on.
func fresh(t *testing.T, size int) (*Journal, *disk.Disk) {
	t.Helper()
	d := room(t, 2+size)
	return over(t, d, 2, size, State{}, 1, last), d
}

// appends is what Append tells of images that it takes.
func appends(t *testing.T, j *Journal, l []api.Image) State {
	t.Helper()
	s, e := j.Append(l)
	must(t, e, api.OK)
	return s
}

// is holds a journal's state and next version against those that are asked for.
func is(t *testing.T, j *Journal, want State, next uint64) {
	t.Helper()
	if s, n := j.State(); s != want || n != next {
		t.Fatalf("State: %v, %d, not %v, %d", s, n, want, next)
	}
}

// asks holds what a call asks of a disk against writes of these places.
func asks(t *testing.T, d *disk.Disk, written []int, call func()) {
	t.Helper()
	n := len(d.Ops())
	call()
	var want []disk.Op
	for _, i := range written {
		want = append(want, disk.Op{Kind: disk.Writes, Slot: i})
	}
	if got := d.Ops()[n:]; !slices.Equal(got, want) {
		t.Fatalf("the disk was asked %v, not %v", got, want)
	}
}

// refuses holds that Append tells an error, and nothing beside it; that nothing is asked of the disk, and all stays as it was.
func refuses(t *testing.T, j *Journal, d *disk.Disk, l []api.Image, want api.Errno) {
	t.Helper()
	was, next := j.State()
	free := j.Room()
	asks(t, d, nil, func() {
		if s, e := j.Append(l); s != (State{}) || e != want {
			t.Fatalf("Append of %d: %v, error %d, not %d", len(l), s, e, want)
		}
	})
	is(t, j, was, next)
	if j.Room() != free {
		t.Fatalf("Room: %d, not %d", j.Room(), free)
	}
}

// at is what stands at a place.
func at(t *testing.T, d *disk.Disk, place int) []byte {
	t.Helper()
	b, e := d.Read(place)
	must(t, e, api.OK)
	return b
}

// goDown lets a disk be down.
func goDown(t *testing.T, d *disk.Disk) {
	t.Helper()
	d.Stop(0)
	must(t, d.Write(0, make([]byte, 192)), api.ErrDown)
}

// toldLink is a link as the promise's words tell it.
func toldLink(tag api.Sum, place uint32, slot []byte) api.Sum {
	all := slices.Concat([]byte{255}, tag[:], binary.LittleEndian.AppendUint32(nil, place), slot)
	return sha256.Sum256(all)
}

// toldSlot is what a record is written as, as the promise's words tell it.
func toldSlot(t *testing.T, place uint32, version uint64, m api.Image, last bool) []byte {
	t.Helper()
	plain := make([]byte, 16, 176)
	plain[0] = 1
	if last {
		plain[1] = 1
	}
	binary.LittleEndian.PutUint64(plain[8:], m.Block)
	slot, e := seal.Seal(key, place, version, append(plain, m.Bytes...))
	must(t, e, api.OK)
	return slot
}

// told is what an Append of images does, as the promise's words tell it: the places, what stands there, and the state.
func told(t *testing.T, first, size int, s State, next uint64, l []api.Image) ([]int, [][]byte, State) {
	t.Helper()
	var places []int
	var slots [][]byte
	for i, m := range l {
		k := s.Start + s.Count
		for k >= uint64(size) {
			k -= uint64(size)
		}
		place := first + int(k)
		slot := toldSlot(t, uint32(place), next+uint64(i), m, i == len(l)-1)
		places, slots = append(places, place), append(slots, slot)
		s = State{s.Start, s.Count + 1, toldLink(s.Tag, uint32(place), slot)}
	}
	return places, slots, s
}

// chain is the tag of the records of a state, read off the disk, from a tag on.
func chain(t *testing.T, d *disk.Disk, first, size int, s State, from api.Sum) api.Sum {
	t.Helper()
	for i := range s.Count {
		place := first + int((s.Start+i)%uint64(size))
		from = toldLink(from, uint32(place), at(t, d, place))
	}
	return from
}

// opened are the images that stand at the places of a state, from the k-th one on, with their versions, and which are Last.
func opened(t *testing.T, d *disk.Disk, first, size int, s State, k uint64) ([]api.Image, []uint64, []bool) {
	t.Helper()
	var l []api.Image
	var versions []uint64
	var ends []bool
	for ; k < s.Count; k++ {
		place := first + int((s.Start+k)%uint64(size))
		version, plain, e := seal.Open(key, uint32(place), at(t, d, place), 176)
		must(t, e, api.OK)
		r, e := record.Get(plain)
		must(t, e, api.OK)
		l, versions, ends = append(l, r.Image), append(versions, version), append(ends, r.Last)
	}
	return l, versions, ends
}

// P13.1: Link.

// Both were reckoned elsewhere.
func TestKnownLinks(t *testing.T) {
	for _, x := range []struct {
		tag   api.Sum
		place uint32
		slot  []byte
		want  string
	}{
		{api.Sum(counted(100, 32)), 0x04030201, counted(1, 192), "e29ee792391c730bdc15d5dc558e617def4849b16a5bc7e6417f9f45faf1e3f0"},
		{api.Sum{}, 0, nil, "4b7381e7b2a0214ccdb1f7b8993a19351c659a338886872f58fea12c67520ddd"},
	} {
		if got := Link(x.tag, x.place, x.slot); hex.EncodeToString(got[:]) != x.want {
			t.Errorf("Link: %x, not %s", got, x.want)
		}
	}
}

func TestLinkAsThePromiseTellsIt(t *testing.T) {
	places := []uint32{0, 1, 255, 256, 4095, 65536, 0x04030201, 1 << 31, math.MaxUint32}
	for i, place := range places {
		for n := range 300 {
			slot := some(n, n)
			if got, want := Link(tag(i), place, slot), toldLink(tag(i), place, slot); got != want {
				t.Fatalf("Link of place %d and %d bytes: %x, not %x", place, n, got, want)
			}
		}
	}
	if Link(tag(1), 3, nil) != Link(tag(1), 3, []byte{}) {
		t.Error("nil and empty bytes are two")
	}
}

func TestLinkHangsOnEachBit(t *testing.T) {
	slot := some(1, 192)
	seen := map[api.Sum]bool{Link(tag(1), 9, slot): true}
	fresh := func(s api.Sum) {
		t.Helper()
		if seen[s] {
			t.Fatalf("%x is there twice", s)
		}
		seen[s] = true
	}
	for i := range 256 {
		other := tag(1)
		other[i/8] ^= 1 << (i % 8)
		fresh(Link(other, 9, slot))
	}
	for i := range 32 {
		fresh(Link(tag(1), 9^1<<i, slot))
	}
	for i := range 8 * len(slot) {
		other := slices.Clone(slot)
		other[i/8] ^= 1 << (i % 8)
		fresh(Link(tag(1), 9, other))
	}
	for n := range slot {
		fresh(Link(tag(1), 9, slot[:n]))
	}
	fresh(Link(tag(1), 9, append(slot, 0)))
}

func TestLinkChangesNothing(t *testing.T) {
	long := some(1, 400)
	a := Link(tag(1), 9, long[100:292])
	if !bytes.Equal(long, some(1, 400)) {
		t.Error("what is handed in changed")
	}
	clear(long)
	if a != Link(tag(1), 9, some(1, 400)[100:292]) {
		t.Error("the same call has another answer")
	}
}

// P13.1: New.

func noJournal(t *testing.T, d *disk.Disk, first, size int, s State, next, limit uint64) {
	t.Helper()
	if j, e := New(d, key, first, size, s, next, limit); j != nil || e != api.ErrArg {
		t.Errorf("New of %d, %d, %v, %d, %d on %d places: %v, error %d", first, size, s, next, limit, d.Size(), j, e)
	}
}

func TestNewTakesRings(t *testing.T) {
	for _, r := range rings {
		over(t, room(t, r[2]), r[0], r[1], State{}, 1, 1000)
	}
	d := room(t, 6)
	for first := range 9 {
		for size := range 9 {
			if size > 0 && first+size <= 6 {
				over(t, d, first, size, State{}, 1, 1000)
			} else {
				noJournal(t, d, first, size, State{}, 1, 1000)
			}
		}
	}
}

func TestNewRefusesRings(t *testing.T) {
	wrong := []int{-1, -2, -3, -4096, math.MinInt32, math.MinInt, math.MinInt + 1}
	great := []int{4097, math.MaxInt32, 1 << 32, 1<<32 + 1, 1 << 62, math.MaxInt - 1, math.MaxInt}
	for _, n := range []int{1, 3, 4096} {
		d := room(t, n)
		for _, x := range append(wrong, great...) {
			for _, y := range append([]int{0, 1, 2, 3}, append(wrong, great...)...) {
				noJournal(t, d, x, y, State{}, 1, 1000)
				noJournal(t, d, y, x, State{}, 1, 1000)
			}
		}
		noJournal(t, d, 0, 0, State{}, 1, 1000)
		noJournal(t, d, n, 0, State{}, 1, 1000)
		noJournal(t, d, 0, n+1, State{}, 1, 1000)
		noJournal(t, d, 1, n, State{}, 1, 1000)
		noJournal(t, d, n, 1, State{}, 1, 1000)
	}
	for _, d := range []*disk.Disk{nil, {}} {
		for _, size := range []int{-1, 0, 1} {
			noJournal(t, d, 0, size, State{}, 1, 1000)
		}
	}
}

// starts and numbers of records, of a size: such as may be, and such as may not.
func may(size uint64) (starts, counts []uint64) {
	return []uint64{0, size / 2, size - 1}, []uint64{0, 1, size / 2, size - 1, size}
}

func mayNot(size uint64) (starts, counts []uint64) {
	return []uint64{size, size + 1, 2*size + 1, 1 << 32, 1<<32 + size - 1, 1 << 63, 1<<63 + size - 1, top - 1, top},
		[]uint64{size + 1, size + 2, 2*size + 1, 1 << 32, 1<<32 + size, 1 << 63, 1<<63 + size, top - size, top}
}

func TestNewRefusesStates(t *testing.T) {
	for _, r := range rings {
		d, first, size := room(t, r[2]), r[0], r[1]
		starts, counts := may(uint64(size))
		wrongStarts, wrongCounts := mayNot(uint64(size))
		for i, start := range starts {
			for _, count := range counts {
				s := State{start, count, tag(i)}
				j := over(t, d, first, size, s, 7, 1000)
				is(t, j, s, 7)
				if j.Room() != uint64(size)-count {
					t.Errorf("Room: %d", j.Room())
				}
				for _, wrong := range wrongStarts {
					noJournal(t, d, first, size, State{wrong, count, s.Tag}, 7, 1000)
				}
				for _, wrong := range wrongCounts {
					noJournal(t, d, first, size, State{start, wrong, s.Tag}, 7, 1000)
				}
			}
		}
		noJournal(t, d, first, size, State{wrongStarts[0], wrongCounts[0], api.Sum{}}, 7, 1000)
	}
}

func TestNewRefusesVersionsAndLimits(t *testing.T) {
	d := room(t, 3)
	for _, next := range []uint64{1, 2, 1 << 32, last - 1, last, last + 1, top} {
		for _, limit := range []uint64{0, 1, 2, 1 << 32, last - 1, last} {
			is(t, over(t, d, 1, 2, State{1, 1, tag(1)}, next, limit), State{1, 1, tag(1)}, next)
			noJournal(t, d, 1, 2, State{}, 0, limit)
		}
		for _, limit := range []uint64{last + 1, last + 2, top - 1, top} {
			noJournal(t, d, 1, 2, State{}, next, limit)
			noJournal(t, d, 1, 2, State{}, 0, limit)
		}
	}
}

func TestNewAsksNothingOfTheDisk(t *testing.T) {
	d := room(t, 5)
	asks(t, d, nil, func() {
		over(t, d, 1, 3, State{1, 2, tag(1)}, 1, 1000)
		noJournal(t, d, 3, 3, State{}, 1, 1000)
	})
	goDown(t, d)
	over(t, d, 1, 3, State{1, 2, tag(1)}, 1, 1000)
}

// P13.2

// The slots and the tag were reckoned elsewhere: the ring's places 2 and 3 are the disk's places 3 and 1.
func TestKnownAppend(t *testing.T) {
	const version = 0x0102030405060708
	d := room(t, 4)
	j := over(t, d, 1, 3, State{Start: 2, Tag: api.Sum(counted(100, 32))}, version, last)
	s := appends(t, j, []api.Image{{Block: 0x8877665544332211, Bytes: counted(1, 160)}, {Block: 7, Bytes: counted(9, 160)}})
	if s.Start != 2 || s.Count != 2 || hex.EncodeToString(s.Tag[:]) != "3f92927167b5a485f78be219e232511560e231c444a01284a66b836fff626a59" {
		t.Errorf("Append: %d, %d, %x", s.Start, s.Count, s.Tag)
	}
	for place, want := range map[int]string{
		3: "080706050403020140fde9fc7b7872065a3fd6cdf1699db2fba6a2b74b78731ddc9598f275e00b58c0106152207ab7cd1fe7e9209d0524bd19643093c1a980582cf436b6585c64a795b0bc17165915c7d70fde420a559b1ffe9f98425fcba97e30989100afbce3c13deb1b05cf3dbd17ac0fe64502224724da7a030c8095269707ce3ec4cdcfd10b6e51bc616b9a4b671c65974f3372fb0ffbd570831a389a6a8e2998166632065681291afcb20a2f5677eb67e7d88214d40000000000000000",
		1: "09070605040302018b43f6204ce9846d99793342c85733d6d8ae7d8b1d1761b99099c7e690c4cbf121bdf308dadacfea5a32f9e9fe7c881355ec25dd7f0fd74cf7e86d4f69d76fce869ccb61cef0ce223ed7fa793eb60c1804bd946b6564758cbb6d688c41ecf2fa957447dadfd5740d026769f806fcaabb4b5e60fcff3a1980177f8c26d83eba0f18306883462aa1b5e3d693b055b401fb78c421dba51a18256683d5842a9039cdbd167a883b2733c8d5be3298d427bf370000000000000000",
	} {
		if got := hex.EncodeToString(at(t, d, place)); got != want {
			t.Errorf("place %d: %s, not %s", place, got, want)
		}
	}
	is(t, j, State{Start: 2, Tag: api.Sum(counted(100, 32))}, version+2)
}

// The chapter's example.
func TestAppendOfThreeToTwoPlaces(t *testing.T) {
	j, d := fresh(t, 2)
	refuses(t, j, d, images(1, 3), api.ErrFull)
	if s := appends(t, j, images(1, 2)); s.Count != 2 {
		t.Errorf("Append: %v", s)
	}
}

func TestAppendAsThePromiseTellsIt(t *testing.T) {
	for size := 1; size <= 6; size++ {
		for start := range size {
			for count := range size {
				for n := 1; n <= size-count; n++ {
					d := room(t, size+5)
					was := State{uint64(start), uint64(count), tag(start)}
					j := over(t, d, 3, size, was, 40, last)
					l := images(n, n)
					places, slots, want := told(t, 3, size, was, 40, l)
					asks(t, d, places, func() {
						if s := appends(t, j, l); s != want {
							t.Fatalf("Append of %d to %d, %d of %d: %v, not %v", n, start, count, size, s, want)
						}
					})
					for i, place := range places {
						if !bytes.Equal(at(t, d, place), slots[i]) {
							t.Fatalf("place %d isn't what it should be", place)
						}
					}
					is(t, j, was, 40+uint64(n))
					if j.Room() != uint64(size-count) {
						t.Fatalf("Room: %d", j.Room())
					}
				}
			}
		}
	}
}

func TestAppendInRings(t *testing.T) {
	for _, r := range rings {
		d, first, size := room(t, r[2]), r[0], r[1]
		was := State{Start: uint64(size - 1), Tag: tag(size)}
		j := over(t, d, first, size, was, 9, last)
		l := images(first, size)
		places, slots, want := told(t, first, size, was, 9, l)
		asks(t, d, places, func() {
			if s := appends(t, j, l); s != want {
				t.Errorf("Append in %v: %v, not %v", r, s, want)
			}
		})
		for i, place := range places {
			if place < first || place >= first+size {
				t.Fatalf("place %d isn't of the ring %v", place, r)
			}
			if !bytes.Equal(at(t, d, place), slots[i]) {
				t.Fatalf("place %d isn't what it should be", place)
			}
		}
	}
}

func TestAppendHangsOnTheKey(t *testing.T) {
	seen := map[string]bool{}
	for i := range 32 {
		d := room(t, 1)
		k := key
		k[i] ^= 128
		j, e := New(d, k, 0, 1, State{}, 1, last)
		must(t, e, api.OK)
		appends(t, j, images(1, 1))
		slot := at(t, d, 0)
		if seen[string(slot)] {
			t.Errorf("byte %d of the key doesn't count", i)
		}
		seen[string(slot)] = true
		plain, e := record.Put(record.Record{Image: images(1, 1)[0], Last: true})
		must(t, e, api.OK)
		if _, b, e := seal.Open(k, 0, slot, 176); e != api.OK || !bytes.Equal(b, plain) {
			t.Errorf("what was sealed isn't opened: error %d", e)
		}
	}
}

// A block's number is just noted: none is refused, nor is one that is there twice.
func TestAppendTakesAnyNumbers(t *testing.T) {
	j, d := fresh(t, 6)
	var l []api.Image
	for i, n := range []uint64{0, top, 1 << 63, 5, 5, 0} {
		l = append(l, api.Image{Block: n, Bytes: some(i, 160)})
	}
	s := appends(t, j, l)
	got, versions, ends := opened(t, d, 2, 6, s, 0)
	if !reflect.DeepEqual(got, l) || !slices.Equal(versions, []uint64{1, 2, 3, 4, 5, 6}) || !slices.Equal(ends, []bool{false, false, false, false, false, true}) {
		t.Errorf("%v, %v, %v", got, versions, ends)
	}
}

// wrongChanges are such as record.Of refuses, of so many images.
func wrongChanges(n int) [][]api.Image {
	out := [][]api.Image{nil, {}}
	for i := range n {
		for _, size := range []int{0, 1, 159, 161, 176, 192, 320} {
			l := images(1, n)
			l[i].Bytes = some(1, size)
			out = append(out, l)
		}
	}
	return out
}

func TestAppendRefusesWhatNoChangeIs(t *testing.T) {
	for _, n := range []int{1, 2, 3} {
		j, d := fresh(t, 3)
		for _, l := range wrongChanges(n) {
			refuses(t, j, d, l, api.ErrArg)
		}
		appends(t, j, images(1, n))
	}
}

// The first error in the promise's order is told: record.Of's, ErrFull, ErrWorn, the disk's.
func TestAppendTellsTheFirstError(t *testing.T) {
	for _, x := range []struct {
		count uint64 // of 3
		limit uint64 // versions are from 5 on
		down  bool
		l     []api.Image
		want  api.Errno
	}{
		{3, 0, true, nil, api.ErrArg},
		{3, 0, true, wrongChanges(2)[2], api.ErrArg},
		{0, 100, true, wrongChanges(2)[3], api.ErrArg},
		{0, 0, false, wrongChanges(2)[4], api.ErrArg},
		{3, 100, false, wrongChanges(1)[2], api.ErrArg},
		{3, 0, true, images(1, 1), api.ErrFull},
		{2, 0, false, images(1, 2), api.ErrFull},
		{0, 100, true, images(1, 4), api.ErrFull},
		{2, 0, true, images(1, 1), api.ErrWorn},
		{0, 7, true, images(1, 3), api.ErrWorn},
		{0, 8, true, images(1, 3), api.ErrDown},
	} {
		d := room(t, 5)
		j := over(t, d, 1, 3, State{1, x.count, tag(1)}, 5, x.limit)
		if x.down {
			goDown(t, d)
		}
		if x.want != api.ErrDown {
			refuses(t, j, d, x.l, x.want)
		} else if s, e := j.Append(x.l); s != (State{}) || e != x.want {
			t.Errorf("Append: %v, error %d, not %d", s, e, x.want)
		}
	}
}

func TestAppendOfMoreThanRoom(t *testing.T) {
	for size := 1; size <= 5; size++ {
		for start := range size {
			for count := 0; count <= size; count++ {
				d := room(t, size)
				j := over(t, d, 0, size, State{uint64(start), uint64(count), tag(1)}, 1, last)
				for n := 1; n <= size+3; n++ {
					if n > size-count {
						refuses(t, j, d, images(1, n), api.ErrFull)
					} else if s := appends(t, j, images(1, n)); s.Count != uint64(count+n) {
						t.Errorf("Append of %d: %v", n, s)
					}
				}
			}
		}
	}
}

func TestAppendWithTooFewVersions(t *testing.T) {
	for n := uint64(1); n <= 4; n++ {
		for _, limit := range []uint64{n + 1, n + 2, 100, 1 << 32, last - 1, last} {
			// The next version and how many there are may just be the limit.
			d := room(t, 4)
			j := over(t, d, 0, 4, State{}, limit-n, limit)
			appends(t, j, images(1, int(n)))
			is(t, j, State{}, limit)
			refuses(t, j, d, images(1, 1), api.ErrWorn)
			j = over(t, d, 0, 4, State{}, limit-n+1, limit)
			refuses(t, j, d, images(1, int(n)), api.ErrWorn)
			if n > 1 {
				appends(t, j, images(1, int(n)-1))
			}
		}
		for _, next := range []uint64{last, last + 1, 1<<63 + 5, top - n - 1, top - n, top - n + 1, top - 1, top} {
			for _, limit := range []uint64{0, 1, n, 100, last} {
				d := room(t, 4)
				refuses(t, over(t, d, 0, 4, State{}, next, limit), d, images(1, int(n)), api.ErrWorn)
			}
		}
		for _, limit := range []uint64{0, 1, n} {
			d := room(t, 4)
			refuses(t, over(t, d, 0, 4, State{}, 1, limit), d, images(1, int(n)), api.ErrWorn)
		}
	}
}

func TestAppendWhenTheDiskStops(t *testing.T) {
	for after := range 5 {
		d := room(t, 6)
		was := State{3, 1, tag(1)}
		j := over(t, d, 1, 5, was, 10, last)
		l := images(after, 4)
		places, slots, want := told(t, 1, 5, was, 10, l)
		d.Stop(after)
		if after == 4 {
			if s := appends(t, j, l); s != want {
				t.Errorf("Append: %v, not %v", s, want)
			}
			is(t, j, was, 14)
			continue
		}
		asks(t, d, places[:after], func() {
			if s, e := j.Append(l); s != (State{}) || e != api.ErrDown {
				t.Errorf("stopped after %d: %v, error %d", after, s, e)
			}
		})
		// The version of the write that it didn't take is used, too.
		is(t, j, was, 10+uint64(after)+1)
		if d.Pending() != after || j.Room() != 4 {
			t.Errorf("stopped after %d: %d under way, Room %d", after, d.Pending(), j.Room())
		}
		d.Crash([]bool{true, true, true, true})
		for i, place := range places[:after] {
			if !bytes.Equal(at(t, d, place), slots[i]) {
				t.Errorf("place %d isn't what it should be", place)
			}
		}
		// It is done anew, with versions that weren't used.
		_, _, want = told(t, 1, 5, was, 11+uint64(after), l)
		if s := appends(t, j, l); s != want {
			t.Errorf("Append anew: %v, not %v", s, want)
		}
	}
}

func TestAppendDoesNotFlush(t *testing.T) {
	j, d := fresh(t, 4)
	appends(t, j, images(1, 3))
	if d.Pending() != 3 {
		t.Errorf("%d are under way", d.Pending())
	}
	d.Crash(nil)
	for place := range 6 {
		if !bytes.Equal(at(t, d, place), make([]byte, 192)) {
			t.Errorf("place %d was written", place)
		}
	}
}

// P13.3

func TestAdoptLetsTheStateBe(t *testing.T) {
	for _, r := range rings {
		d, first, size := room(t, r[2]), r[0], r[1]
		j := over(t, d, first, size, State{}, 5, 1000)
		starts, counts := may(uint64(size))
		asks(t, d, nil, func() {
			for i, start := range starts {
				for k, count := range counts {
					s := State{start, count, tag(10*i + k)}
					j.Adopt(s, 1000)
					is(t, j, s, 5)
					if j.Room() != uint64(size)-count {
						t.Errorf("Room of %v: %d", s, j.Room())
					}
					if want := (State{Start: (start + count) % uint64(size)}); j.Empty() != want {
						t.Errorf("Empty of %v: %v, not %v", s, j.Empty(), want)
					}
					is(t, j, s, 5)
				}
			}
		})
	}
}

// With a state that may not be, the limit isn't taken either.
func TestAdoptRefusesStates(t *testing.T) {
	for _, r := range rings[:8] {
		d, first, size := room(t, r[2]), r[0], r[1]
		was := State{uint64(size - 1), 0, tag(1)}
		starts, counts := may(uint64(size))
		wrongStarts, wrongCounts := mayNot(uint64(size))
		try := func(s State) {
			t.Helper()
			j := over(t, d, first, size, was, 5, 7)
			j.Adopt(s, last)
			is(t, j, was, 5)
			j.Adopt(s, 0)
			is(t, j, was, 5)
			appends(t, j, images(1, 1))
			appends(t, j, images(1, 1))
			refuses(t, j, d, images(1, 1), api.ErrWorn)
		}
		for _, wrong := range wrongStarts {
			for _, count := range counts {
				try(State{wrong, count, tag(2)})
			}
		}
		for _, wrong := range wrongCounts {
			for _, start := range starts {
				try(State{start, wrong, tag(2)})
			}
		}
		try(State{wrongStarts[0], wrongCounts[0], tag(2)})
	}
}

func TestAdoptTakesTheLimit(t *testing.T) {
	d := room(t, 4)
	j := over(t, d, 0, 4, State{}, 5, 5)
	refuses(t, j, d, images(1, 1), api.ErrWorn)
	j.Adopt(State{}, 6)
	appends(t, j, images(1, 1))
	refuses(t, j, d, images(1, 1), api.ErrWorn)
	j.Adopt(State{}, 1000)
	appends(t, j, images(1, 4))
	is(t, j, State{}, 10)
	// A lesser one, too.
	j.Adopt(State{}, 12)
	refuses(t, j, d, images(1, 3), api.ErrWorn)
	appends(t, j, images(1, 2))
	j.Adopt(State{}, 0)
	refuses(t, j, d, images(1, 1), api.ErrWorn)
	is(t, j, State{}, 12)
}

func TestAdoptOfAGreatLimit(t *testing.T) {
	d := room(t, 4)
	for _, limit := range []uint64{last, last + 1, last + 2, 1<<63 + 100, top - 1, top} {
		j := over(t, d, 0, 4, State{}, last-2, 0)
		j.Adopt(State{}, limit)
		refuses(t, j, d, images(1, 3), api.ErrWorn)
		appends(t, j, images(1, 2))
		is(t, j, State{}, last)
		refuses(t, j, d, images(1, 1), api.ErrWorn)
		j = over(t, d, 0, 4, State{}, top, 0)
		j.Adopt(State{}, limit)
		refuses(t, j, d, images(1, 1), api.ErrWorn)
	}
	j := over(t, d, 0, 4, State{}, last-2, 0)
	j.Adopt(State{}, last-1)
	refuses(t, j, d, images(1, 2), api.ErrWorn)
	appends(t, j, images(1, 1))
}

func TestEmptyStandsBehindTheRecords(t *testing.T) {
	d := room(t, 9)
	for size := 1; size <= 7; size++ {
		for start := range size {
			behind := start
			for count := 0; count <= size; count++ {
				j := over(t, d, 2, size, State{uint64(start), uint64(count), tag(3)}, 5, 9)
				asks(t, d, nil, func() {
					if s := j.Empty(); s != (State{Start: uint64(behind)}) {
						t.Errorf("Empty of %d, %d of %d: %v", start, count, size, s)
					}
				})
				is(t, j, State{uint64(start), uint64(count), tag(3)}, 5)
				if behind++; behind == size {
					behind = 0
				}
			}
		}
	}
}

func TestOfNil(t *testing.T) {
	var j *Journal
	for _, l := range [][]api.Image{nil, images(1, 1), images(1, 5), wrongChanges(1)[2]} {
		if s, e := j.Append(l); s != (State{}) || e != api.ErrArg {
			t.Errorf("Append: %v, error %d", s, e)
		}
	}
	j.Adopt(State{}, 5)
	j.Adopt(State{1, 2, tag(1)}, top)
	if s := j.Empty(); s != (State{}) {
		t.Errorf("Empty: %v", s)
	}
	if n := j.Room(); n != 0 {
		t.Errorf("Room: %d", n)
	}
	is(t, j, State{}, 0)
}

// One that New didn't make has no places; what it answers is free, but it mustn't panic.
func TestAJournalOfNoughts(t *testing.T) {
	j := &Journal{}
	for _, l := range [][]api.Image{nil, images(1, 1), wrongChanges(1)[2]} {
		if s, e := j.Append(l); s != (State{}) || e == api.OK {
			t.Errorf("Append: %v, error %d", s, e)
		}
	}
	for _, s := range []State{{}, {Count: 1}, {Start: 1}} {
		j.Adopt(s, top)
		_ = j.Empty()
		_ = j.Room()
		_, _ = j.State()
	}
}

// P13.4

func TestWhatIsNotAdoptedDoesNotCount(t *testing.T) {
	j, d := fresh(t, 5)
	first := appends(t, j, images(1, 2))
	j.Adopt(first, last)
	a := appends(t, j, images(2, 3))
	is(t, j, first, 6)
	// Another one is written over it, behind the same records.
	places, _, want := told(t, 2, 5, first, 6, images(3, 2))
	asks(t, d, places, func() {
		if b := appends(t, j, images(3, 2)); b != want || a == b {
			t.Errorf("Append: %v, not %v", b, want)
		}
	})
	if !slices.Equal(places, []int{4, 5}) {
		t.Errorf("places %v", places)
	}
	if chain(t, d, 2, 5, first, api.Sum{}) != first.Tag {
		t.Error("what counts was written over")
	}
	if chain(t, d, 2, 5, a, api.Sum{}) == a.Tag {
		t.Error("what was appended first is there still")
	}
}

func TestWhatIsAdoptedIsThere(t *testing.T) {
	for _, r := range rings[:8] {
		d, first, size := room(t, r[2]), r[0], r[1]
		j := over(t, d, first, size, State{Start: uint64(size) / 2}, 1, last)
		var all []api.Image
		for n := 1; uint64(n) <= j.Room(); n++ {
			l := images(n, n)
			before := uint64(len(all))
			s := appends(t, j, l)
			j.Adopt(s, last)
			all = append(all, l...)
			got, versions, ends := opened(t, d, first, size, s, 0)
			if !reflect.DeepEqual(got, all) || chain(t, d, first, size, s, api.Sum{}) != s.Tag {
				t.Fatalf("what was adopted isn't there")
			}
			for i, v := range versions {
				if v != uint64(i)+1 {
					t.Errorf("record %d has version %d", i, v)
				}
			}
			if slices.Contains(ends[before:s.Count-1], true) || !ends[s.Count-1] {
				t.Errorf("a change of %d ends at %v", n, ends[before:])
			}
		}
	}
}

// Emptied and filled on and on, it goes round the ring.
func TestRoundTheRing(t *testing.T) {
	j, d := fresh(t, 5)
	next, place := uint64(1), 0
	for round := range 40 {
		n := 1 + round%5
		var places []int
		for range n {
			places = append(places, 2+place%5)
			place++
		}
		asks(t, d, places, func() { j.Adopt(appends(t, j, images(round, n)), last) })
		next += uint64(n)
		s, v := j.State()
		if v != next || s.Count != uint64(n) || chain(t, d, 2, 5, s, api.Sum{}) != s.Tag {
			t.Fatalf("round %d: %v, %d", round, s, v)
		}
		empty := j.Empty()
		j.Adopt(empty, last)
		is(t, j, State{Start: uint64(place % 5)}, next)
		if j.Room() != 5 {
			t.Fatalf("Room: %d", j.Room())
		}
	}
}

// A change that is written in two appends hangs on the same chain as one that isn't cut, but for who is Last.
func TestTheChainGoesOn(t *testing.T) {
	j, d := fresh(t, 7)
	a := appends(t, j, images(1, 3))
	j.Adopt(a, last)
	b := appends(t, j, images(5, 4))
	l, _, ends := opened(t, d, 2, 7, b, 0)
	if !reflect.DeepEqual(l, append(images(1, 3), images(5, 4)...)) || !slices.Equal(ends, []bool{false, false, true, false, false, false, true}) {
		t.Error("not the records that were appended")
	}
	if chain(t, d, 2, 7, b, api.Sum{}) != b.Tag {
		t.Error("the tag isn't that of both")
	}
	rest := State{Start: 3, Count: 4}
	if chain(t, d, 2, 7, rest, a.Tag) != b.Tag {
		t.Error("the second change doesn't hang on the first one")
	}
}

// Whenever the disk stops, and whatever it keeps, what counts stays as it was; no place is sealed twice with one version (T4).
func TestJournalOnADiskThatStops(t *testing.T) {
	const first, size = 3, 6
	d := room(t, 12)
	j := over(t, d, first, size, State{Start: 4}, 1, last)
	var held []api.Image
	bound := map[[2]uint64][]byte{}
	for round := range 400 {
		draw := some(round, 8)
		was, next := j.State()
		if draw[0]%3 == 0 {
			d.Stop(int(draw[1]) % 5)
		}
		l := images(round, 1+int(draw[2])%3)
		s, e := j.Append(l)
		_, then := j.State()
		is(t, j, was, then)
		switch {
		case len(l) > size-len(held):
			must(t, e, api.ErrFull)
			j.Adopt(j.Empty(), last)
			held = nil
		case e == api.OK:
			if then != next+uint64(len(l)) {
				t.Fatalf("round %d: next is %d, was %d", round, then, next)
			}
			must(t, d.Flush(), api.OK)
			if draw[3]%2 == 0 {
				j.Adopt(s, last)
				held = append(held, l...)
			}
		default:
			must(t, e, api.ErrDown)
			if then != next+uint64(d.Pending())+1 {
				t.Fatalf("round %d: next is %d, was %d, with %d under way", round, then, next, d.Pending())
			}
			keep := make([]bool, d.Pending())
			for k := range keep {
				keep[k] = draw[4]>>k&1 == 1
			}
			d.Crash(keep)
		}
		d.Stop(-1)
		now, _ := j.State()
		if got, _, _ := opened(t, d, first, size, now, 0); !reflect.DeepEqual(got, held) {
			t.Fatalf("round %d: what counts isn't there", round)
		}
		if chain(t, d, first, size, now, api.Sum{}) != now.Tag {
			t.Fatalf("round %d: the chain is broken", round)
		}
		for place, slot := range d.Image() {
			version := binary.LittleEndian.Uint64(slot)
			if ring := place >= first && place < first+size; !ring && version != 0 {
				t.Fatalf("round %d: place %d was written", round, place)
			}
			at := [2]uint64{uint64(place), version}
			if b, ok := bound[at]; ok && !bytes.Equal(b, slot) {
				t.Fatalf("round %d: place %d has other bytes of version %d", round, place, version)
			}
			bound[at] = slot
		}
	}
}

// A journal is made anew from its state and next version, as behind a mount.
func TestJournalMadeAnew(t *testing.T) {
	j, d := fresh(t, 8)
	for n := range 4 {
		j.Adopt(appends(t, j, images(n, 2)), last)
		must(t, d.Flush(), api.OK)
		d.Crash(nil)
		s, next := j.State()
		j = over(t, d, 2, 8, s, next, last)
		is(t, j, s, uint64(2*n+3))
		if chain(t, d, 2, 8, s, api.Sum{}) != s.Tag {
			t.Error("the chain is broken")
		}
	}
}

func TestJournalLeavesOtherPlacesAlone(t *testing.T) {
	d := room(t, 20)
	for place := range 20 {
		must(t, d.Tamper(place, some(place, 192)), api.OK)
	}
	j := over(t, d, 7, 5, State{Start: 3}, 1, last)
	for round := range 8 {
		j.Adopt(appends(t, j, images(round, 5)), last)
		j.Adopt(j.Empty(), last)
	}
	for place := range 20 {
		if ring := place >= 7 && place < 12; bytes.Equal(at(t, d, place), some(place, 192)) == ring {
			t.Errorf("place %d: written is %v", place, !ring)
		}
	}
}

// What is asked of the disk doesn't hang on what stands in blocks (T4).
func TestWhatIsAskedHangsOnHowManyAlone(t *testing.T) {
	var ops [][]disk.Op
	for seed := range 4 {
		j, d := fresh(t, 5)
		for n := 1; n <= 3; n++ {
			j.Adopt(appends(t, j, images(seed*n, n)), last)
			if n == 2 {
				j.Adopt(j.Empty(), last)
			}
		}
		ops = append(ops, d.Ops())
	}
	for _, l := range ops[1:] {
		if !slices.Equal(l, ops[0]) {
			t.Errorf("the disk was asked %v, not %v", l, ops[0])
		}
	}
}

// Memory of their own (rules 3 and 4)

func TestAppendKeepsAndChangesNothing(t *testing.T) {
	j, d := fresh(t, 5)
	long := some(9, 400)
	l := append(make([]api.Image, 0, 9), images(1, 2)...)
	l = append(l, api.Image{Block: 2, Bytes: long[100:260]})
	was := append(images(1, 2), api.Image{Block: 2, Bytes: some(9, 400)[100:260]})
	s := appends(t, j, l)
	if !reflect.DeepEqual(l, was) || !bytes.Equal(long, some(9, 400)) || !reflect.DeepEqual(l[3:9], make([]api.Image, 6)) {
		t.Fatal("what is handed in changed")
	}
	for _, m := range l {
		clear(m.Bytes)
	}
	clear(l)
	j.Adopt(s, last)
	must(t, d.Flush(), api.OK)
	if got, _, _ := opened(t, d, 2, 5, s, 0); !reflect.DeepEqual(got, was) {
		t.Error("what was handed in is kept")
	}
	// With an error, too.
	for _, l := range append(wrongChanges(3)[2:], images(1, 4)) {
		was := slices.Clone(l)
		if _, e := j.Append(l); e == api.OK {
			t.Error("no error")
		}
		if !reflect.DeepEqual(l, was) {
			t.Error("what is handed in changed")
		}
	}
}

func TestTwoJournalsShareNothing(t *testing.T) {
	j, d := fresh(t, 5)
	j.Adopt(appends(t, j, images(1, 2)), last)
	s, next := j.State()
	other := over(t, d, 2, 5, s, next, last)
	other.Adopt(appends(t, other, images(2, 3)), 5)
	is(t, j, s, next)
	if j.Room() != 3 || other.Room() != 0 {
		t.Errorf("Room: %d, %d", j.Room(), other.Room())
	}
	appends(t, j, images(3, 3))
}

func TestTheSameCallsHaveTheSameAnswers(t *testing.T) {
	var all [][][]byte
	var states []State
	for range 3 {
		j, d := fresh(t, 6)
		for round := range 10 {
			if s, e := j.Append(images(round, 1+round%4)); e == api.OK {
				j.Adopt(s, last)
			} else {
				must(t, e, api.ErrFull)
				j.Adopt(j.Empty(), last)
			}
		}
		must(t, d.Flush(), api.OK)
		s, _ := j.State()
		all, states = append(all, d.Image()), append(states, s)
	}
	if states[0] != states[1] || states[0] != states[2] || !reflect.DeepEqual(all[0], all[1]) || !reflect.DeepEqual(all[0], all[2]) {
		t.Error("the same calls have other answers")
	}
}
