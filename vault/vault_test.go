package vault

import (
	"bytes"
	"encoding/binary"
	"math"
	"reflect"
	"slices"
	"testing"

	"reliquary/api"
	"reliquary/disk"
	"reliquary/seal"
	"reliquary/tree"
)

// The calls as chapter 11 lists them: this doesn't build if a signature is another one.
var (
	_ func(*disk.Disk, api.Sum, int, tree.Ref, uint64, uint64) (*Vault, api.Errno) = New
	_ func(int) (int, api.Errno)                                                   = Places
	_ func(*Vault, uint64) ([]byte, api.Errno)                                     = (*Vault).Read
	_ func(*Vault, []api.Image) (tree.Ref, api.Errno)                              = (*Vault).Update
	_ func(*Vault, tree.Ref, uint64)                                               = (*Vault).Adopt
	_ func(*Vault) (tree.Ref, uint64)                                              = (*Vault).Top
)

// last is the greatest limit.
const last = 1<<63 - 1

// key is one of which no two bytes are the same.
var key = api.Sum(some(77, 32))

// counts are numbers of leaves: one level more or less, full levels, and such as aren't.
var counts = []int{1, 2, 3, 4, 5, 8, 15, 16, 17, 21, 64, 65}

// some is so many bytes, without a rule that a fault could hide in; each seed has others.
func some(seed, n int) []byte {
	out := make([]byte, n)
	x := uint32(seed)*2654435761 + 5
	for i := range out {
		x = x*1664525 + 1013904223
		out[i] = byte(x >> 24)
	}
	return out
}

// block is an image of some bytes.
func block(i uint64, seed int) api.Image { return api.Image{Block: i, Bytes: some(seed, 160)} }

// noughts is the bytes of a block that was never written.
func noughts() []byte { return make([]byte, 160) }

// must holds an error against the one that is asked for.
func must(t *testing.T, got, want api.Errno) {
	t.Helper()
	if got != want {
		t.Fatalf("error %d, not %d", got, want)
	}
}

// room is a disk of so many places.
func room(t *testing.T, n int) *disk.Disk {
	t.Helper()
	d, e := disk.New(n)
	must(t, e, api.OK)
	return d
}

// over is a vault over a disk, of a top.
func over(t *testing.T, d *disk.Disk, leaves int, top tree.Ref, next, limit uint64) *Vault {
	t.Helper()
	v, e := New(d, key, leaves, top, next, limit)
	must(t, e, api.OK)
	if v == nil {
		t.Fatal("no vault, and no error")
	}
	return v
}

// fresh is a new vault, with a disk of just as many places as it needs.
func fresh(t *testing.T, leaves int) (*Vault, *disk.Disk) {
	t.Helper()
	n, e := Places(leaves)
	must(t, e, api.OK)
	d := room(t, n)
	return over(t, d, leaves, tree.Ref{}, 1, last), d
}

// write updates blocks, and adopts that.
func write(t *testing.T, v *Vault, l ...api.Image) tree.Ref {
	t.Helper()
	r, e := v.Update(l)
	must(t, e, api.OK)
	v.Adopt(r, last)
	return r
}

// full is a vault of which each block was written once, flushed: block i is some(i, 160).
func full(t *testing.T, leaves int) (*Vault, *disk.Disk) {
	t.Helper()
	v, d := fresh(t, leaves)
	var l []api.Image
	for i := range leaves {
		l = append(l, block(uint64(i), i))
	}
	write(t, v, l...)
	must(t, d.Flush(), api.OK)
	return v, d
}

// reads holds a block's bytes against those that are asked for.
func reads(t *testing.T, v *Vault, i uint64, want []byte) {
	t.Helper()
	got, e := v.Read(i)
	if e != api.OK || !bytes.Equal(got, want) {
		t.Fatalf("Read of %d: %x, error %d, not %x", i, got, e, want)
	}
}

// refuses holds that Read tells an error, and nothing beside it.
func refuses(t *testing.T, v *Vault, i uint64, want api.Errno) {
	t.Helper()
	if b, e := v.Read(i); len(b) != 0 || e != want {
		t.Fatalf("Read of %d: %x, error %d, not %d", i, b, e, want)
	}
}

// fails holds that Update tells an error, and nothing beside it; and that the top stays.
func fails(t *testing.T, v *Vault, l []api.Image, want api.Errno) {
	t.Helper()
	top, _ := v.Top()
	if r, e := v.Update(l); r != (tree.Ref{}) || e != want {
		t.Fatalf("Update: %v, error %d, not %d", r, e, want)
	}
	if now, _ := v.Top(); now != top {
		t.Fatalf("the top is %v, no more %v", now, top)
	}
}

// nextIs holds the next version against the one that is asked for.
func nextIs(t *testing.T, v *Vault, want uint64) {
	t.Helper()
	if _, next := v.Top(); next != want {
		t.Fatalf("the next version is %d, not %d", next, want)
	}
}

// asked are the operations that a call asks of a disk.
func asked(d *disk.Disk, call func()) []disk.Op {
	n := len(d.Ops())
	call()
	return d.Ops()[n:]
}

// did are reads of places, then writes of others.
func did(read, written []int) []disk.Op {
	var l []disk.Op
	for _, i := range read {
		l = append(l, disk.Op{Kind: disk.Reads, Slot: i})
	}
	for _, i := range written {
		l = append(l, disk.Op{Kind: disk.Writes, Slot: i})
	}
	return l
}

// asks holds what a call asks of a disk against what it should.
func asks(t *testing.T, d *disk.Disk, want []disk.Op, call func()) {
	t.Helper()
	if got := asked(d, call); !slices.Equal(got, want) {
		t.Fatalf("the disk was asked %v, not %v", got, want)
	}
}

// lies lays bytes at a place, behind everyone's back.
func lies(t *testing.T, d *disk.Disk, place int, slot []byte) {
	t.Helper()
	must(t, d.Tamper(place, slot), api.OK)
}

// at is what stands at a place.
func at(t *testing.T, d *disk.Disk, place int) []byte {
	t.Helper()
	b, e := d.Read(place)
	must(t, e, api.OK)
	return b
}

// sealed is what a place holds, with what should be known of it.
func sealed(t *testing.T, level, place int, version uint64, plain []byte) ([]byte, tree.Ref) {
	t.Helper()
	slot, e := seal.Seal(key, uint32(place), version, plain)
	must(t, e, api.OK)
	return slot, tree.Ref{Sum: tree.Digest(level, uint32(place), slot), Stamp: 2*version + uint64(place%2)}
}

// P11.1

func TestKnownPlaces(t *testing.T) {
	for _, x := range [][2]int{{1, 4}, {2, 6}, {3, 8}, {4, 10}, {5, 16}, {8, 22}, {16, 42}, {17, 50}, {64, 170}, {65, 180}, {1023, 2728}, {1024, 2730}} {
		if n, e := Places(x[0]); n != x[1] || e != api.OK {
			t.Errorf("Places of %d: %d, error %d, not %d", x[0], n, e, x[1])
		}
	}
}

func TestPlacesOfAllLeaves(t *testing.T) {
	for leaves := 1; leaves <= 1024; leaves++ {
		items, width := leaves, leaves
		for {
			width = (width + 3) / 4
			items += width
			if width == 1 {
				break
			}
		}
		if n, e := Places(leaves); n != 2*items || e != api.OK {
			t.Errorf("Places of %d: %d, error %d, not %d", leaves, n, e, 2*items)
		}
	}
}

var wrongLeaves = []int{0, -1, -5, 1025, 1026, 4096, math.MaxInt32, math.MinInt, math.MaxInt}

func TestPlacesRefusesLeaves(t *testing.T) {
	for _, leaves := range wrongLeaves {
		if n, e := Places(leaves); n != 0 || e != api.ErrArg {
			t.Errorf("Places of %d: %d, error %d", leaves, n, e)
		}
	}
}

func noVault(t *testing.T, d *disk.Disk, leaves int, next, limit uint64) {
	t.Helper()
	if v, e := New(d, key, leaves, tree.Ref{}, next, limit); v != nil || e != api.ErrArg {
		t.Errorf("New of %d, %d, %d on %d places: %v, error %d", leaves, next, limit, d.Size(), v, e)
	}
}

func TestNewRefusesLeaves(t *testing.T) {
	d := room(t, api.MaxSlots)
	for _, leaves := range wrongLeaves {
		noVault(t, d, leaves, 1, 1000)
	}
}

func TestNewAsksForPlaces(t *testing.T) {
	for _, leaves := range append([]int{1024}, counts...) {
		n, e := Places(leaves)
		must(t, e, api.OK)
		over(t, room(t, n), leaves, tree.Ref{}, 1, 1000)
		over(t, room(t, n+1), leaves, tree.Ref{}, 1, 1000)
		over(t, room(t, api.MaxSlots), leaves, tree.Ref{}, 1, 1000)
		noVault(t, room(t, n-1), leaves, 1, 1000)
		noVault(t, room(t, 1), leaves, 1, 1000)
		noVault(t, nil, leaves, 1, 1000)
	}
}

func TestNewRefusesVersionsAndLimits(t *testing.T) {
	d := room(t, 4)
	for _, next := range []uint64{1, 2, 1 << 32, last, last + 1, math.MaxUint64} {
		for _, limit := range []uint64{0, 1, 2, 1 << 32, last - 1, last} {
			over(t, d, 1, tree.Ref{}, next, limit)
			noVault(t, d, 1, 0, limit)
		}
		for _, limit := range []uint64{last + 1, last + 2, math.MaxUint64} {
			noVault(t, d, 1, next, limit)
			noVault(t, d, 1, 0, limit)
		}
	}
}

func TestNewIsOfTheTop(t *testing.T) {
	d := room(t, 16)
	for _, top := range []tree.Ref{{}, {Sum: api.Sum{9}}, {Stamp: 1}, {Sum: api.Sum{1}, Stamp: math.MaxUint64}} {
		for _, next := range []uint64{1, 5, math.MaxUint64} {
			v := over(t, d, 5, top, next, 1000)
			if r, n := v.Top(); r != top || n != next {
				t.Errorf("Top: %v, %d, not %v, %d", r, n, top, next)
			}
		}
	}
}

func TestNewAsksNothingOfTheDisk(t *testing.T) {
	d := room(t, 16)
	asks(t, d, nil, func() {
		over(t, d, 5, tree.Ref{Sum: api.Sum{1}, Stamp: 7}, 1, 1000)
		noVault(t, d, 6, 1, 1000)
		_, _ = Places(5)
	})
	d.Stop(0)
	must(t, d.Write(0, make([]byte, 192)), api.ErrDown)
	over(t, d, 5, tree.Ref{Sum: api.Sum{1}, Stamp: 7}, 1, 1000)
}

// P11.2

func TestReadOfANewVault(t *testing.T) {
	for _, leaves := range append([]int{1024}, counts...) {
		v, d := fresh(t, leaves)
		asks(t, d, nil, func() {
			for i := range leaves {
				reads(t, v, uint64(i), noughts())
			}
		})
		nextIs(t, v, 1)
	}
}

// Stamp 0 alone says that it was never written, whatever the Sum is, and whatever the disk holds.
func TestReadOfATopOfStamp0(t *testing.T) {
	_, d := full(t, 5)
	v := over(t, d, 5, tree.Ref{Sum: api.Sum(some(1, 32))}, 1, 1000)
	d.Stop(0)
	must(t, d.Write(0, make([]byte, 192)), api.ErrDown)
	for i := range uint64(5) {
		reads(t, v, i, noughts())
	}
}

func TestReadOfBlocksThatThereArent(t *testing.T) {
	for _, leaves := range append([]int{1024}, counts...) {
		empty, d := fresh(t, leaves)
		written, e := fresh(t, leaves)
		write(t, written, block(0, 1))
		n := uint64(leaves)
		for _, v := range []*Vault{empty, written} {
			for _, i := range []uint64{n, n + 1, n + 3, 4*n + 9, 1025, 1 << 16, 1 << 32, 1<<32 + n - 1, 1 << 63, 1<<63 + n - 1, math.MaxUint64, math.MaxUint64 - n + 1} {
				asks(t, d, nil, func() {
					asks(t, e, nil, func() { refuses(t, v, i, api.ErrRange) })
				})
			}
		}
	}
}

func TestReadOfOneBesideThoseThatWereNotWritten(t *testing.T) {
	for _, leaves := range counts {
		for one := range leaves {
			v, _ := fresh(t, leaves)
			write(t, v, block(uint64(one), one+1))
			for i := range leaves {
				if i == one {
					reads(t, v, uint64(i), some(one+1, 160))
				} else {
					reads(t, v, uint64(i), noughts())
				}
			}
		}
	}
}

// A block that was written to be noughts is asked of the disk, one that never was is not.
func TestReadAsksFromTheTopDown(t *testing.T) {
	v, d := fresh(t, 21)
	// 21 leaves, 6 nodes above them (items 21 to 26), 2 above these (27, 28), and the top (29).
	write(t, v, block(4, 1), api.Image{Block: 6, Bytes: noughts()})
	for _, x := range []struct {
		block uint64
		read  []int
		want  []byte
	}{
		{4, []int{58, 54, 44, 8}, some(1, 160)},
		{6, []int{58, 54, 44, 12}, noughts()},
		{5, []int{58, 54, 44}, noughts()},
		{7, []int{58, 54, 44}, noughts()},
		{0, []int{58, 54}, noughts()},
		{15, []int{58, 54}, noughts()},
		{16, []int{58}, noughts()},
		{20, []int{58}, noughts()},
	} {
		asks(t, d, did(x.read, nil), func() { reads(t, v, x.block, x.want) })
	}
	write(t, v, block(4, 2))
	asks(t, d, did([]int{59, 55, 45, 9}, nil), func() { reads(t, v, 4, some(2, 160)) })
	asks(t, d, did([]int{59, 55, 45, 12}, nil), func() { reads(t, v, 6, noughts()) })
	// Nothing is kept near: the disk is asked each time.
	asks(t, d, did([]int{59, 55, 45, 9, 59, 55, 45, 9}, nil), func() {
		reads(t, v, 4, some(2, 160))
		reads(t, v, 4, some(2, 160))
	})
}

func TestReadOfFullVaults(t *testing.T) {
	for _, leaves := range append([]int{256, 1024}, counts...) {
		v, _ := full(t, leaves)
		for i := range leaves {
			reads(t, v, uint64(i), some(i, 160))
		}
	}
}

// Of 5 leaves block 4 stands at places 8, 12, 14; block 0 at 0, 10, 14.
func TestReadWithAByteTurned(t *testing.T) {
	v, d := full(t, 5)
	for _, place := range []int{8, 12, 14} {
		good := at(t, d, place)
		for i := range good {
			for _, bit := range []byte{1, 128} {
				bad := slices.Clone(good)
				bad[i] ^= bit
				lies(t, d, place, bad)
				refuses(t, v, 4, api.ErrIntegrity)
				if place == 14 {
					refuses(t, v, 0, api.ErrIntegrity)
				} else {
					reads(t, v, 0, some(0, 160))
				}
			}
		}
		lies(t, d, place, make([]byte, 192))
		refuses(t, v, 4, api.ErrIntegrity)
		lies(t, d, place, good)
		reads(t, v, 4, some(4, 160))
	}
	// What stands where nothing counts isn't seen.
	for place := 1; place < 16; place += 2 {
		lies(t, d, place, some(place, 192))
	}
	for i := range 5 {
		reads(t, v, uint64(i), some(i, 160))
	}
}

func TestReadStopsAtTheFirstThatIsWrong(t *testing.T) {
	v, d := full(t, 5)
	for _, place := range []int{8, 12, 14} {
		lies(t, d, place, some(place, 192))
	}
	asks(t, d, did([]int{14}, nil), func() { refuses(t, v, 4, api.ErrIntegrity) })
	v, d = full(t, 5)
	lies(t, d, 8, some(1, 192))
	asks(t, d, did([]int{14, 12, 8}, nil), func() { refuses(t, v, 4, api.ErrIntegrity) })
	lies(t, d, 12, some(1, 192))
	asks(t, d, did([]int{14, 12}, nil), func() { refuses(t, v, 4, api.ErrIntegrity) })
}

func TestReadWithTheBytesOfAnotherPlace(t *testing.T) {
	v, d := full(t, 5)
	image := d.Image()
	for _, place := range []int{8, 12, 14} {
		for other, slot := range image {
			lies(t, d, place, slot)
			if other == place {
				reads(t, v, 4, some(4, 160))
			} else {
				refuses(t, v, 4, api.ErrIntegrity)
			}
		}
		lies(t, d, place, image[place])
	}
	// Two leaves of the same bytes, that stand at one another's place.
	v, d = fresh(t, 5)
	write(t, v, block(0, 1), block(1, 1))
	a, b := at(t, d, 0), at(t, d, 2)
	lies(t, d, 0, b)
	lies(t, d, 2, a)
	refuses(t, v, 0, api.ErrIntegrity)
	refuses(t, v, 1, api.ErrIntegrity)
}

// The same block is written three times: the third stands where the first one stood.
func TestReadWithAnOlderSidesBytes(t *testing.T) {
	v, d := fresh(t, 5)
	write(t, v, block(4, 1))
	must(t, d.Flush(), api.OK)
	first := d.Image()
	write(t, v, block(4, 2))
	write(t, v, block(4, 3))
	must(t, d.Flush(), api.OK)
	third := d.Image()
	for _, place := range []int{8, 12, 14} {
		lies(t, d, place, first[place])
		refuses(t, v, 4, api.ErrIntegrity)
		lies(t, d, place, third[place+1])
		refuses(t, v, 4, api.ErrIntegrity)
		lies(t, d, place, third[place])
		reads(t, v, 4, some(3, 160))
	}
	// All of the disk laid back.
	must(t, d.Restore(first), api.OK)
	refuses(t, v, 4, api.ErrIntegrity)
	refuses(t, v, 0, api.ErrIntegrity)
	must(t, d.Restore(third), api.OK)
	reads(t, v, 4, some(3, 160))
}

func TestReadByARefOfAnotherStamp(t *testing.T) {
	v, d := full(t, 5)
	top, _ := v.Top()
	for _, stamp := range []uint64{1, 2, 3, top.Stamp - 2, top.Stamp - 1, top.Stamp + 1, top.Stamp + 2, top.Stamp ^ 1<<63, math.MaxUint64, math.MaxUint64 - 1} {
		w := over(t, d, 5, tree.Ref{Sum: top.Sum, Stamp: stamp}, 1, 1000)
		refuses(t, w, 4, api.ErrIntegrity)
		// The side's place is what is asked for.
		asks(t, d, did([]int{14 + int(stamp%2)}, nil), func() { refuses(t, w, 0, api.ErrIntegrity) })
	}
	for i := range 256 {
		sum := top.Sum
		sum[i/8] ^= 1 << (i % 8)
		refuses(t, over(t, d, 5, tree.Ref{Sum: sum, Stamp: top.Stamp}, 1, 1000), 4, api.ErrIntegrity)
	}
	reads(t, over(t, d, 5, top, 1, 1000), 4, some(4, 160))
}

// A leaf's Ref in a node of which all is right but the stamp.
func TestReadByANodesRefOfAnotherStamp(t *testing.T) {
	d := room(t, 4)
	for _, x := range []struct {
		stamp uint64
		want  api.Errno
	}{{6, api.OK}, {4, api.ErrIntegrity}, {8, api.ErrIntegrity}, {7, api.ErrIntegrity}, {1, api.ErrIntegrity}} {
		leaf, r := sealed(t, 0, 0, 3, some(1, 160))
		r.Stamp = x.stamp
		node, top := sealed(t, 1, 2, 4, tree.Put(tree.Node{r}))
		lies(t, d, 0, leaf)
		lies(t, d, 2, node)
		v := over(t, d, 1, top, 5, 1000)
		if x.want == api.OK {
			reads(t, v, 0, some(1, 160))
		} else {
			refuses(t, v, 0, x.want)
		}
	}
}

// Bytes whose digest is right, but that seal doesn't open.
func TestReadOfWhatIsNotSealed(t *testing.T) {
	good, _ := sealed(t, 1, 2, 4, noughts())
	for _, x := range []struct {
		change func([]byte)
		stamp  uint64
	}{
		{func(b []byte) { b[168] = 1 }, 8},
		{func(b []byte) { b[191] = 128 }, 8},
		{func(b []byte) { binary.LittleEndian.PutUint64(b, 0) }, 8},
		{func(b []byte) { binary.LittleEndian.PutUint64(b, math.MaxUint64) }, 8},
		{func(b []byte) { binary.LittleEndian.PutUint64(b, math.MaxUint64) }, math.MaxUint64 - 1},
		{func(b []byte) { binary.LittleEndian.PutUint64(b, 5) }, 8},
		{func(b []byte) { binary.LittleEndian.PutUint64(b, 1<<63+4) }, 8},
	} {
		d := room(t, 4)
		bad := slices.Clone(good)
		x.change(bad)
		lies(t, d, 2, bad)
		v := over(t, d, 1, tree.Ref{Sum: tree.Digest(1, 2, bad), Stamp: x.stamp}, 5, 1000)
		refuses(t, v, 0, api.ErrIntegrity)
	}
}

// Version 0 at side 1 has a stamp that isn't 0: it is got, and isn't taken.
func TestReadByAStampOf1(t *testing.T) {
	d := room(t, 4)
	bad := make([]byte, 192)
	v := over(t, d, 1, tree.Ref{Sum: tree.Digest(1, 3, bad), Stamp: 1}, 5, 1000)
	asks(t, d, did([]int{3}, nil), func() { refuses(t, v, 0, api.ErrIntegrity) })
	// A leaf's likewise.
	node, top := sealed(t, 1, 2, 4, tree.Put(tree.Node{{Sum: tree.Digest(0, 1, bad), Stamp: 1}}))
	lies(t, d, 2, node)
	v = over(t, d, 1, top, 5, 1000)
	asks(t, d, did([]int{2, 1}, nil), func() { refuses(t, v, 0, api.ErrIntegrity) })
}

// The digest of another level, with all else right.
func TestReadOfAnotherLevelsDigest(t *testing.T) {
	for level, want := range []api.Errno{api.ErrIntegrity, api.OK, api.ErrIntegrity} {
		d := room(t, 4)
		node, top := sealed(t, level, 2, 4, tree.Put(tree.Node{}))
		lies(t, d, 2, node)
		v := over(t, d, 1, top, 5, 1000)
		if b, e := v.Read(0); e != want || (e == api.OK) != bytes.Equal(b, noughts()) {
			t.Errorf("level %d: %x, error %d, not %d", level, b, e, want)
		}
	}
}

func TestReadByAnotherKey(t *testing.T) {
	for _, leaves := range []int{1, 5, 17} {
		v, d := full(t, leaves)
		top, _ := v.Top()
		other := key
		other[31] ^= 1
		w, e := New(d, other, leaves, top, 100, 1000)
		must(t, e, api.OK)
		for i := range leaves {
			refuses(t, w, uint64(i), api.ErrIntegrity)
		}
	}
}

// Only the stamp says that a node below was never written: nothing of it, nor below it, is asked for.
func TestReadBelowANodeOfStamp0(t *testing.T) {
	_, d := full(t, 5)
	node, top := sealed(t, 2, 14, 50, tree.Put(tree.Node{{Sum: api.Sum{9}}, {Sum: api.Sum{8}}}))
	lies(t, d, 14, node)
	v := over(t, d, 5, top, 100, 1000)
	for i := range uint64(5) {
		asks(t, d, did([]int{14}, nil), func() { reads(t, v, i, noughts()) })
	}
}

func TestReadWithADiskThatStopped(t *testing.T) {
	v, d := full(t, 5)
	d.Stop(0)
	must(t, d.Write(0, make([]byte, 192)), api.ErrDown)
	for i := range uint64(5) {
		refuses(t, v, i, api.ErrDown)
	}
	refuses(t, v, 5, api.ErrRange)
	d.Crash(nil)
	for i := range 5 {
		reads(t, v, uint64(i), some(i, 160))
	}
}

// P11.3: what it doesn't take.

func TestUpdateOfNothing(t *testing.T) {
	v, d := fresh(t, 5)
	for _, l := range [][]api.Image{nil, {}} {
		asks(t, d, nil, func() {
			if r, e := v.Update(l); r != (tree.Ref{}) || e != api.OK {
				t.Errorf("Update of nothing: %v, error %d", r, e)
			}
		})
		nextIs(t, v, 1)
	}
	top := write(t, v, block(4, 1))
	// Neither a disk that is down, nor versions that are worn, nor a tampered top are in its way.
	d.Stop(0)
	must(t, d.Write(0, make([]byte, 192)), api.ErrDown)
	lies(t, d, 14, some(1, 192))
	v.Adopt(top, 0)
	for _, l := range [][]api.Image{nil, {}} {
		if r, e := v.Update(l); r != top || e != api.OK {
			t.Errorf("Update of nothing: %v, error %d, not %v", r, e, top)
		}
	}
	nextIs(t, v, 4)
	odd := tree.Ref{Sum: api.Sum{3}}
	v.Adopt(odd, 0)
	if r, e := v.Update(nil); r != odd || e != api.OK {
		t.Errorf("Update of nothing: %v, error %d, not %v", r, e, odd)
	}
}

func TestUpdateRefusesBytesThatArentABlock(t *testing.T) {
	v, d := full(t, 5)
	_, next := v.Top()
	asks(t, d, nil, func() {
		for _, n := range []int{0, 1, 32, 159, 161, 176, 192, 320} {
			bad := api.Image{Block: 4, Bytes: some(1, n)}
			far := api.Image{Block: 5, Bytes: some(1, n)}
			fails(t, v, []api.Image{bad}, api.ErrArg)
			fails(t, v, []api.Image{far}, api.ErrArg)
			fails(t, v, []api.Image{block(1, 1), bad}, api.ErrArg)
			fails(t, v, []api.Image{bad, block(4, 1)}, api.ErrArg)
			fails(t, v, []api.Image{block(5, 1), bad}, api.ErrArg)
			fails(t, v, []api.Image{bad, block(5, 1)}, api.ErrArg)
		}
		// The capacity goes on behind the end: only the length may count.
		fails(t, v, []api.Image{{Block: 4, Bytes: some(1, 400)[:159]}}, api.ErrArg)
		fails(t, v, []api.Image{{Block: 4}}, api.ErrArg)
	})
	nextIs(t, v, next)
}

func TestUpdateRefusesBlocksThatThereArent(t *testing.T) {
	for _, leaves := range counts {
		v, d := full(t, leaves)
		_, next := v.Top()
		n := uint64(leaves)
		asks(t, d, nil, func() {
			for _, i := range []uint64{n, n + 1, 1 << 32, 1<<32 + n - 1, 1 << 63, 1<<63 + n - 1, math.MaxUint64} {
				fails(t, v, []api.Image{block(i, 1)}, api.ErrRange)
				fails(t, v, []api.Image{block(0, 1), block(i, 1)}, api.ErrRange)
				fails(t, v, []api.Image{block(i, 1), block(0, 1)}, api.ErrRange)
			}
		})
		nextIs(t, v, next)
	}
}

// What is handed in counts ahead of a worn vault, a disk that is down, and bytes that aren't right.
func TestUpdateTellsWhatIsHandedInFirst(t *testing.T) {
	v, d := full(t, 5)
	top, _ := v.Top()
	v.Adopt(top, 0)
	lies(t, d, 14, some(1, 192))
	d.Stop(0)
	must(t, d.Write(0, make([]byte, 192)), api.ErrDown)
	fails(t, v, []api.Image{block(5, 1), {Block: 1}}, api.ErrArg)
	fails(t, v, []api.Image{block(5, 1)}, api.ErrRange)
	fails(t, v, []api.Image{block(4, 1)}, api.ErrDown)
	d.Crash(nil)
	fails(t, v, []api.Image{block(4, 1)}, api.ErrIntegrity)
}

// P11.3: what it writes.

func TestUpdateOfOneBlock(t *testing.T) {
	v, d := fresh(t, 5)
	leaf, a := sealed(t, 0, 8, 1, some(1, 160))
	node, b := sealed(t, 1, 12, 2, tree.Put(tree.Node{a}))
	top, c := sealed(t, 2, 14, 3, tree.Put(tree.Node{{}, b}))
	asks(t, d, did(nil, []int{8, 12, 14}), func() {
		if r, e := v.Update([]api.Image{block(4, 1)}); r != c || e != api.OK {
			t.Fatalf("Update: %v, error %d, not %v", r, e, c)
		}
	})
	for place, want := range map[int][]byte{8: leaf, 12: node, 14: top} {
		if !bytes.Equal(at(t, d, place), want) {
			t.Errorf("place %d isn't what it should be", place)
		}
	}
	nextIs(t, v, 4)
	if d.Pending() != 3 {
		t.Errorf("%d writes are under way, not 3: it may not flush", d.Pending())
	}
	v.Adopt(c, 1000)
	// Now to the other sides, but for what was never written.
	low, z := sealed(t, 0, 2, 4, some(3, 160))
	leaf, a = sealed(t, 0, 9, 5, some(2, 160))
	first, y := sealed(t, 1, 10, 6, tree.Put(tree.Node{{}, z}))
	node, b = sealed(t, 1, 13, 7, tree.Put(tree.Node{a}))
	top, c = sealed(t, 2, 15, 8, tree.Put(tree.Node{y, b}))
	asks(t, d, did([]int{14, 12}, []int{2, 9, 10, 13, 15}), func() {
		if r, e := v.Update([]api.Image{block(4, 2), block(1, 3)}); r != c || e != api.OK {
			t.Fatalf("Update: %v, error %d, not %v", r, e, c)
		}
	})
	for place, want := range map[int][]byte{2: low, 9: leaf, 10: first, 13: node, 15: top} {
		if !bytes.Equal(at(t, d, place), want) {
			t.Errorf("place %d isn't what it should be", place)
		}
	}
	nextIs(t, v, 9)
}

func TestUpdateOfOneLeaf(t *testing.T) {
	v, d := fresh(t, 1)
	for k := range 6 {
		var read []int
		if k > 0 {
			read = []int{2 + (k+1)%2}
		}
		asks(t, d, did(read, []int{k % 2, 2 + k%2}), func() { write(t, v, block(0, k)) })
		reads(t, v, 0, some(k, 160))
		nextIs(t, v, uint64(3+2*k))
		if top, _ := v.Top(); top.Stamp != 2*uint64(2+2*k)+uint64(k%2) {
			t.Errorf("the top's stamp is %d", top.Stamp)
		}
	}
}

func TestUpdateOfOneBlockTwice(t *testing.T) {
	v, d := fresh(t, 5)
	l := []api.Image{block(4, 1), block(0, 2), block(4, 3), block(0, 4), block(4, 5)}
	asks(t, d, did(nil, []int{0, 8, 10, 12, 14}), func() { write(t, v, l...) })
	reads(t, v, 4, some(5, 160))
	reads(t, v, 0, some(4, 160))
	nextIs(t, v, 6)
	w, _ := fresh(t, 5)
	top, _ := v.Top()
	if r := write(t, w, block(0, 4), block(4, 5)); r != top {
		t.Error("what doesn't count is seen in the top")
	}
	asks(t, d, did([]int{14, 12}, []int{9, 13, 15}), func() { write(t, v, block(4, 6), block(4, 6), block(4, 7)) })
	reads(t, v, 4, some(7, 160))
}

func TestUpdateInAnyOrder(t *testing.T) {
	sorted := []api.Image{block(0, 1), block(3, 2), block(4, 3), block(15, 4), block(16, 5), block(20, 6)}
	orders := [][]int{{5, 4, 3, 2, 1, 0}, {3, 0, 5, 1, 4, 2}, {1, 0, 2, 3, 5, 4}}
	v, d := fresh(t, 21)
	want := write(t, v, sorted...)
	must(t, d.Flush(), api.OK)
	for _, order := range orders {
		var l []api.Image
		for _, k := range order {
			l = append(l, sorted[k])
		}
		w, other := fresh(t, 21)
		if r := write(t, w, l...); r != want {
			t.Errorf("order %v: another top", order)
		}
		must(t, other.Flush(), api.OK)
		if !slices.Equal(other.Ops(), d.Ops()) {
			t.Errorf("order %v: %v, not %v", order, other.Ops(), d.Ops())
		}
		if !reflect.DeepEqual(other.Image(), d.Image()) {
			t.Errorf("order %v: other bytes on the disk", order)
		}
	}
}

// 21 leaves; nodes are items 21 to 26 (level 1), 27 and 28 (level 2), 29 (the top).
func TestUpdateGetsLevelByLevel(t *testing.T) {
	v, d := fresh(t, 21)
	write(t, v, block(0, 1), block(5, 1), block(20, 1))
	asks(t, d, did([]int{58, 54, 56, 42, 44, 52}, []int{1, 11, 41, 43, 45, 53, 55, 57, 59}), func() {
		write(t, v, block(20, 2), block(5, 2), block(0, 2))
	})
	// Items 23 and 25 were never written: they aren't got, and go to side 0, as their leaves do.
	asks(t, d, did([]int{59, 55, 57, 43}, []int{2, 16, 32, 42, 46, 50, 54, 56, 58}), func() {
		write(t, v, block(16, 3), block(8, 3), block(1, 3))
	})
	for i := range uint64(21) {
		switch i {
		case 0, 5, 20:
			reads(t, v, i, some(2, 160))
		case 1, 8, 16:
			reads(t, v, i, some(3, 160))
		default:
			reads(t, v, i, noughts())
		}
	}
}

// Leaves aren't got, and neither are nodes that aren't above what is written.
func TestUpdateGetsNoMoreThanItNeeds(t *testing.T) {
	v, d := full(t, 5)
	lies(t, d, 8, some(1, 192))
	lies(t, d, 10, some(2, 192))
	refuses(t, v, 4, api.ErrIntegrity)
	refuses(t, v, 0, api.ErrIntegrity)
	write(t, v, block(4, 9))
	reads(t, v, 4, some(9, 160))
	refuses(t, v, 0, api.ErrIntegrity)
}

// Of all that is got the first that is wrong is told, and nothing is written.
func TestUpdateWithBytesThatArentThose(t *testing.T) {
	nodes := []int{58, 54, 56, 42, 44, 52}
	l := []api.Image{block(0, 50), block(5, 51), block(20, 52)}
	for k, place := range nodes {
		v, d := full(t, 21)
		_, next := v.Top()
		good := at(t, d, place)
		bad := slices.Clone(good)
		bad[k*31] ^= 4
		lies(t, d, place, bad)
		asks(t, d, did(nodes[:k+1], nil), func() { fails(t, v, l, api.ErrIntegrity) })
		nextIs(t, v, next)
		lies(t, d, place, good)
		for i := range 21 {
			reads(t, v, uint64(i), some(i, 160))
		}
		asks(t, d, did(nodes, []int{1, 11, 41, 43, 45, 53, 55, 57, 59}), func() { write(t, v, l...) })
	}
}

// The Refs of a node whose items there aren't stay as they are; so does the Sum of one that was never written.
func TestUpdateLeavesOtherRefsAsTheyAre(t *testing.T) {
	d := room(t, 6)
	odd := tree.Node{{Sum: api.Sum{1}}, {Sum: api.Sum{2}}, {Sum: api.Sum{3}, Stamp: 9}, {Sum: api.Sum{4}, Stamp: math.MaxUint64}}
	node, top := sealed(t, 1, 5, 7, tree.Put(odd))
	lies(t, d, 5, node)
	v := over(t, d, 2, top, 8, 1000)
	leaf, r := sealed(t, 0, 2, 8, some(1, 160))
	odd[1] = r
	node, top = sealed(t, 1, 4, 9, tree.Put(odd))
	asks(t, d, did([]int{5}, []int{2, 4}), func() {
		if r := write(t, v, block(1, 1)); r != top {
			t.Errorf("the top is %v, not %v", r, top)
		}
	})
	if !bytes.Equal(at(t, d, 2), leaf) || !bytes.Equal(at(t, d, 4), node) {
		t.Error("other bytes were written")
	}
	reads(t, v, 0, noughts())
	reads(t, v, 1, some(1, 160))
}

// P11.3: versions.

func TestUpdateOfAWornVault(t *testing.T) {
	// Of 5 leaves: one block is 3 items, two blocks below one node 4, blocks 0 and 4 are 5, all of them 8.
	all := []api.Image{block(0, 1), block(1, 1), block(2, 1), block(3, 1), block(4, 1)}
	for _, x := range []struct {
		l     []api.Image
		items uint64
	}{{all[4:], 3}, {all[:2], 4}, {[]api.Image{all[0], all[4]}, 5}, {all, 8}, {[]api.Image{all[4], all[4], all[4]}, 3}} {
		for _, next := range []uint64{1, 2, 1000, 1 << 40, last - 8} {
			d := room(t, 16)
			v := over(t, d, 5, tree.Ref{}, next, next+x.items-1)
			asks(t, d, nil, func() { fails(t, v, x.l, api.ErrWorn) })
			nextIs(t, v, next)
			reads(t, v, x.l[0].Block, noughts())
			v = over(t, d, 5, tree.Ref{}, next, next+x.items)
			write(t, v, x.l...)
			nextIs(t, v, next+x.items)
			reads(t, v, x.l[0].Block, some(1, 160))
			top, _ := v.Top()
			if top.Stamp != 2*(next+x.items-1) {
				t.Errorf("the top's stamp is %d", top.Stamp)
			}
			v.Adopt(top, next+x.items)
			fails(t, v, x.l, api.ErrWorn)
		}
	}
}

// Next and the items to write would go over.
func TestUpdateWithVersionsAtTheEnd(t *testing.T) {
	d := room(t, 16)
	for _, next := range []uint64{last - 2, last - 1, last, last + 1, math.MaxUint64 - 3, math.MaxUint64 - 2, math.MaxUint64 - 1, math.MaxUint64} {
		for _, limit := range []uint64{0, 1, 2, 3, 1000, last} {
			v := over(t, d, 5, tree.Ref{}, next, limit)
			asks(t, d, nil, func() { fails(t, v, []api.Image{block(4, 1)}, api.ErrWorn) })
			nextIs(t, v, next)
		}
	}
	for limit := range uint64(4) {
		fails(t, over(t, d, 5, tree.Ref{}, 1, limit), []api.Image{block(4, 1)}, api.ErrWorn)
	}
	v := over(t, d, 5, tree.Ref{}, last-3, last)
	write(t, v, block(4, 1))
	reads(t, v, 4, some(1, 160))
	nextIs(t, v, last)
}

// All is got ahead of it: what is got is asked for, and its errors come first.
func TestUpdateOfAWornVaultGetsFirst(t *testing.T) {
	v, d := full(t, 5)
	top, next := v.Top()
	v.Adopt(top, next+2)
	asks(t, d, did([]int{14, 12}, nil), func() { fails(t, v, []api.Image{block(4, 9)}, api.ErrWorn) })
	nextIs(t, v, next)
	lies(t, d, 12, some(1, 192))
	fails(t, v, []api.Image{block(4, 9)}, api.ErrIntegrity)
	fails(t, v, []api.Image{block(0, 9)}, api.ErrWorn)
	v.Adopt(top, next+3)
	write(t, v, block(0, 9))
	nextIs(t, v, next+3)
}

// Versions that were sealed with stay used, that of the write which the disk didn't take, too.
func TestUpdateWithADiskThatStopsInTheMidst(t *testing.T) {
	l := []api.Image{block(0, 90), block(4, 91)}
	for after := range 5 {
		v, d := full(t, 5)
		_, next := v.Top()
		d.Stop(after)
		asks(t, d, did([]int{14, 10, 12}, []int{1, 9, 11, 13, 15}[:after]), func() { fails(t, v, l, api.ErrDown) })
		nextIs(t, v, next+uint64(after)+1)
		refuses(t, v, 0, api.ErrDown)
		fails(t, v, l, api.ErrDown)
		nextIs(t, v, next+uint64(after)+1)
		d.Crash(slices.Repeat([]bool{true}, after))
		for i := range 5 {
			reads(t, v, uint64(i), some(i, 160))
		}
		write(t, v, l...)
		nextIs(t, v, next+uint64(after)+6)
		reads(t, v, 0, some(90, 160))
		reads(t, v, 1, some(1, 160))
		reads(t, v, 4, some(91, 160))
		if version := binary.LittleEndian.Uint64(at(t, d, 1)); version != next+uint64(after)+1 {
			t.Errorf("the first leaf's version is %d", version)
		}
	}
	// Just as many writes as it needs.
	v, d := full(t, 5)
	d.Stop(5)
	write(t, v, l...)
	reads(t, v, 4, some(91, 160))
}

// P11.3, P11.5: what is known stays, until Adopt.

func TestUpdateIsNotSeenUntilAdopt(t *testing.T) {
	for _, leaves := range counts {
		v, d := full(t, leaves)
		top, next := v.Top()
		var l []api.Image
		for i := 0; i < leaves; i += 3 {
			l = append(l, block(uint64(i), 100+i))
		}
		r, e := v.Update(l)
		must(t, e, api.OK)
		now, later := v.Top()
		if now != top || later <= next || r == top {
			t.Fatalf("Top: %v, %d behind Update", now, later)
		}
		for i := range leaves {
			reads(t, v, uint64(i), some(i, 160))
		}
		must(t, d.Flush(), api.OK)
		for i := range leaves {
			reads(t, v, uint64(i), some(i, 160))
		}
		v.Adopt(r, last)
		for i := range leaves {
			if i%3 == 0 {
				reads(t, v, uint64(i), some(100+i, 160))
			} else {
				reads(t, v, uint64(i), some(i, 160))
			}
		}
	}
}

// Each part of what was written may be there, or not.
func TestTheOldOnesAreReadWhateverIsThere(t *testing.T) {
	l := []api.Image{block(0, 90), block(4, 91)}
	for part := range 1 << 5 {
		v, d := full(t, 5)
		r, e := v.Update(l)
		must(t, e, api.OK)
		keep := make([]bool, 5)
		for k := range keep {
			keep[k] = part>>k&1 == 1
		}
		d.Crash(keep)
		for i := range 5 {
			reads(t, v, uint64(i), some(i, 160))
		}
		top, next := v.Top()
		w := over(t, d, 5, r, next, last)
		if part == 1<<5-1 {
			reads(t, w, 0, some(90, 160))
			reads(t, w, 4, some(91, 160))
		} else {
			_, a := w.Read(0)
			_, b := w.Read(4)
			if a != api.ErrIntegrity && b != api.ErrIntegrity {
				t.Errorf("part %d: what isn't all there is read", part)
			}
		}
		// It goes on from there.
		w = over(t, d, 5, top, next, last)
		write(t, w, block(1, 92))
		reads(t, w, 0, some(0, 160))
		reads(t, w, 1, some(92, 160))
	}
}

// Without Adopt the next Update begins where the first one did, with other versions.
func TestUpdateTwiceWithoutAdopt(t *testing.T) {
	v, d := full(t, 5)
	_, next := v.Top()
	asks(t, d, did([]int{14, 12}, []int{9, 13, 15}), func() { _, _ = v.Update([]api.Image{block(4, 50)}) })
	first := at(t, d, 9)
	var r tree.Ref
	asks(t, d, did([]int{14, 10}, []int{1, 11, 15}), func() { r, _ = v.Update([]api.Image{block(0, 51)}) })
	nextIs(t, v, next+6)
	v.Adopt(r, last)
	reads(t, v, 0, some(51, 160))
	reads(t, v, 4, some(4, 160))
	asks(t, d, did([]int{15, 12}, []int{9, 13, 14}), func() { r, _ = v.Update([]api.Image{block(4, 50)}) })
	if bytes.Equal(at(t, d, 9), first) {
		t.Error("the same bytes were sealed with the same version")
	}
}

// P11.4

func TestAdoptKeepsTheLimitBelow(t *testing.T) {
	for _, limit := range []uint64{last, last + 1, last + 2, math.MaxUint64} {
		d := room(t, 4)
		v := over(t, d, 1, tree.Ref{}, last-2, 0)
		fails(t, v, []api.Image{block(0, 1)}, api.ErrWorn)
		v.Adopt(tree.Ref{}, limit)
		r, e := v.Update([]api.Image{block(0, 1)})
		must(t, e, api.OK)
		v.Adopt(r, limit)
		reads(t, v, 0, some(1, 160))
		nextIs(t, v, last)
		asks(t, d, did([]int{2}, nil), func() { fails(t, v, []api.Image{block(0, 2)}, api.ErrWorn) })
		nextIs(t, v, last)
		v = over(t, d, 1, tree.Ref{}, last-1, 0)
		v.Adopt(tree.Ref{}, limit)
		fails(t, v, []api.Image{block(0, 1)}, api.ErrWorn)
	}
}

func TestAdoptLetsTheLimitBeThat(t *testing.T) {
	v, d := fresh(t, 1)
	for _, limit := range []uint64{0, 1, 2} {
		v.Adopt(tree.Ref{}, limit)
		asks(t, d, nil, func() { fails(t, v, []api.Image{block(0, 1)}, api.ErrWorn) })
	}
	v.Adopt(tree.Ref{}, 3)
	_, e := v.Update([]api.Image{block(0, 1)})
	must(t, e, api.OK)
	fails(t, v, []api.Image{block(0, 1)}, api.ErrWorn)
	nextIs(t, v, 3)
}

func TestAdoptOfAnyTop(t *testing.T) {
	v, d := full(t, 5)
	top, next := v.Top()
	asks(t, d, nil, func() {
		for _, r := range []tree.Ref{{}, {Sum: api.Sum{1}}, {Stamp: 1}, {Sum: api.Sum{1}, Stamp: math.MaxUint64}, top} {
			v.Adopt(r, 1000)
			if now, n := v.Top(); now != r || n != next {
				t.Errorf("Top: %v, %d, not %v, %d", now, n, r, next)
			}
		}
	})
	v.Adopt(tree.Ref{}, 1000)
	reads(t, v, 4, noughts())
	v.Adopt(tree.Ref{Sum: top.Sum, Stamp: top.Stamp + 2}, 1000)
	refuses(t, v, 4, api.ErrIntegrity)
	v.Adopt(top, 1000)
	reads(t, v, 4, some(4, 160))
}

// The older top is still there as long as nothing was written over it.
func TestAdoptOfAnOlderTop(t *testing.T) {
	v, _ := full(t, 5)
	old, _ := v.Top()
	write(t, v, block(4, 50))
	v.Adopt(old, last)
	for i := range 5 {
		reads(t, v, uint64(i), some(i, 160))
	}
	write(t, v, block(3, 51))
	reads(t, v, 3, some(51, 160))
	reads(t, v, 4, some(4, 160))
}

func TestTopAheadAndBehind(t *testing.T) {
	v, _ := fresh(t, 5)
	if r, next := v.Top(); r != (tree.Ref{}) || next != 1 {
		t.Errorf("Top of a new one: %v, %d", r, next)
	}
	r, e := v.Update([]api.Image{block(4, 1)})
	must(t, e, api.OK)
	if now, next := v.Top(); now != (tree.Ref{}) || next != 4 {
		t.Errorf("Top behind Update: %v, %d", now, next)
	}
	v.Adopt(r, 1000)
	if now, next := v.Top(); now != r || next != 4 || r.Stamp != 6 {
		t.Errorf("Top behind Adopt: %v, %d", now, next)
	}
}

func TestAllCallsOnNil(t *testing.T) {
	var v *Vault
	for _, i := range []uint64{0, 1, math.MaxUint64} {
		refuses(t, v, i, api.ErrArg)
	}
	for _, l := range [][]api.Image{nil, {}, {block(0, 1)}, {{Block: 9}}} {
		if r, e := v.Update(l); r != (tree.Ref{}) || e != api.ErrArg {
			t.Errorf("Update: %v, error %d", r, e)
		}
	}
	v.Adopt(tree.Ref{Stamp: 7}, 5)
	if r, next := v.Top(); r != (tree.Ref{}) || next != 0 {
		t.Errorf("Top: %v, %d", r, next)
	}
}

// One that New didn't make has no blocks, and doesn't panic.
func TestAllCallsOnAnEmptyOne(t *testing.T) {
	v := &Vault{}
	refuses(t, v, 0, api.ErrRange)
	_, e := v.Update([]api.Image{block(0, 1)})
	must(t, e, api.ErrRange)
	_, e = v.Update(nil)
	must(t, e, api.OK)
	v.Adopt(tree.Ref{Stamp: 7}, 5)
	v.Top()
}

// P11.5: a model of it all, as the promises tell it, by levels and places in them rather than by items.

type model struct {
	leaves int
	widths []int
	slots  map[int][]byte
	top    tree.Ref
	next   uint64
}

func newModel(leaves int) *model {
	m := &model{leaves: leaves, widths: []int{leaves}, slots: map[int][]byte{}, next: 1}
	for len(m.widths) == 1 || m.widths[len(m.widths)-1] > 1 {
		m.widths = append(m.widths, (m.widths[len(m.widths)-1]+3)/4)
	}
	return m
}

// place is that of a side of the i-th item of a level.
func (m *model) place(level, i, side int) int {
	for _, w := range m.widths[:level] {
		i += w
	}
	return 2*i + side
}

// ref is what is known of the i-th item of a level.
func (m *model) ref(level, i int) tree.Ref {
	if level == len(m.widths)-1 {
		return m.top
	}
	b := m.plain(level+1, i/4)[i%4*40:]
	return tree.Ref{Sum: api.Sum(b[:32]), Stamp: binary.LittleEndian.Uint64(b[32:])}
}

// plain is what stands in the i-th item of a level.
func (m *model) plain(level, i int) []byte {
	r := m.ref(level, i)
	if r.Stamp == 0 {
		return noughts()
	}
	place := m.place(level, i, int(r.Stamp%2))
	_, b, _ := seal.Open(key, uint32(place), m.slots[place], 160)
	return b
}

// update is what is asked of the disk, what it is to hold, and the top's Ref.
func (m *model) update(l map[int][]byte) ([]disk.Op, tree.Ref) {
	var read, written []int
	holds := map[int][]byte{}
	refs := map[[2]int]tree.Ref{}
	top := len(m.widths) - 1
	for level := top; level > 0; level-- {
		for i := range m.widths[level] {
			if r := m.ref(level, i); m.above(l, level, i) && r.Stamp != 0 {
				read = append(read, m.place(level, i, int(r.Stamp%2)))
			}
		}
	}
	for level := range m.widths {
		for i := range m.widths[level] {
			if !m.above(l, level, i) {
				continue
			}
			b := l[i]
			if level > 0 {
				b = slices.Clone(m.plain(level, i))
				for k := range 4 {
					if r, ok := refs[[2]int{level - 1, 4*i + k}]; ok {
						copy(b[40*k:], r.Sum[:])
						binary.LittleEndian.PutUint64(b[40*k+32:], r.Stamp)
					}
				}
			}
			place := m.place(level, i, 0)
			if r := m.ref(level, i); r.Stamp != 0 && r.Stamp%2 == 0 {
				place++
			}
			slot, _ := seal.Seal(key, uint32(place), m.next, b)
			refs[[2]int{level, i}] = tree.Ref{Sum: tree.Digest(level, uint32(place), slot), Stamp: 2*m.next + uint64(place%2)}
			m.next++
			written = append(written, place)
			holds[place] = slot
		}
	}
	for place, slot := range holds {
		m.slots[place] = slot
	}
	return did(read, written), refs[[2]int{top, 0}]
}

// above tells whether an item stands above one of the blocks, or is one.
func (m *model) above(l map[int][]byte, level, i int) bool {
	for b := range l {
		if b>>(2*level) == i {
			return true
		}
	}
	return false
}

func TestVaultAsThePromisesTellIt(t *testing.T) {
	for _, leaves := range counts {
		v, d := fresh(t, leaves)
		m := newModel(leaves)
		blocks := make([][]byte, leaves)
		for i := range blocks {
			blocks[i] = noughts()
		}
		for round := range 25 {
			draw := some(1000*leaves+round, 2*leaves+4)
			var l []api.Image
			count := map[int][]byte{}
			for k := range 1 + int(draw[0])%min(2*leaves, 9) {
				i := int(draw[k+1]) % leaves
				l = append(l, block(uint64(i), 100*round+k))
				count[i] = l[len(l)-1].Bytes
			}
			ops, want := m.update(count)
			asks(t, d, ops, func() {
				if r, e := v.Update(l); r != want || e != api.OK {
					t.Fatalf("%d leaves, round %d: %v, error %d, not %v", leaves, round, r, e, want)
				}
			})
			nextIs(t, v, m.next)
			for place, slot := range m.slots {
				if !bytes.Equal(at(t, d, place), slot) {
					t.Fatalf("%d leaves, round %d: place %d isn't what it should be", leaves, round, place)
				}
			}
			for i := range blocks {
				reads(t, v, uint64(i), blocks[i])
			}
			if draw[len(draw)-1]%3 > 0 {
				v.Adopt(want, last)
				m.top = want
				for i, b := range count {
					blocks[i] = b
				}
			}
			if draw[len(draw)-2]%4 == 0 {
				must(t, d.Flush(), api.OK)
			}
			for i := range blocks {
				reads(t, v, uint64(i), blocks[i])
			}
		}
	}
}

// Whatever a disk does, what is read is what was written, or ErrIntegrity.
func TestVaultOnADiskThatOneMustNotTrust(t *testing.T) {
	v, d := fresh(t, 17)
	blocks := make([][]byte, 17)
	for i := range blocks {
		blocks[i] = noughts()
	}
	var images [][][]byte
	for round := range 120 {
		draw := some(round, 16)
		var l []api.Image
		for k := range 1 + int(draw[0])%5 {
			l = append(l, block(uint64(draw[k+1]%17), 100*round+k))
		}
		if draw[7]%3 == 0 {
			d.Stop(int(draw[8]) % 8)
		}
		if r, e := v.Update(l); e == api.OK {
			must(t, d.Flush(), api.OK)
			v.Adopt(r, last)
			for _, m := range l {
				blocks[m.Block] = m.Bytes
			}
			images = append(images, d.Image())
		} else {
			must(t, e, api.ErrDown)
			keep := make([]bool, d.Pending())
			for k := range keep {
				keep[k] = draw[9]>>(k%8)&1 == 1
			}
			d.Crash(keep)
		}
		d.Stop(-1)
		for i := range blocks {
			reads(t, v, uint64(i), blocks[i])
		}
		// An older disk, laid back for a while.
		now := d.Image()
		for _, old := range images[max(0, len(images)-3):] {
			must(t, d.Restore(old), api.OK)
			for i := range blocks {
				if b, e := v.Read(uint64(i)); e != api.ErrIntegrity && (e != api.OK || !bytes.Equal(b, blocks[i])) {
					t.Fatalf("round %d: Read of %d: %x, error %d", round, i, b, e)
				}
			}
		}
		must(t, d.Restore(now), api.OK)
	}
}

// No version is used twice, whenever the disk stops (T4); the one of a write that it didn't take neither.
func TestVersionsAreUsedOnce(t *testing.T) {
	v, d := fresh(t, 17)
	used := uint64(0)
	for round := range 100 {
		d.Stop(round % 7)
		before, first := len(d.Ops()), used
		r, e := v.Update([]api.Image{block(uint64(round%17), round)})
		_, next := v.Top()
		for _, op := range d.Ops()[before:] {
			if op.Kind == disk.Writes {
				used++
			}
		}
		if e != api.OK {
			used++
		}
		if next != used+1 {
			t.Fatalf("round %d: the next version is %d, not %d", round, next, used+1)
		}
		d.Crash(slices.Repeat([]bool{true}, 10))
		for place, slot := range d.Image() {
			version := binary.LittleEndian.Uint64(slot)
			if version > used || version > first && place/2 < 17 && version != first+1 {
				t.Fatalf("round %d: version %d is at place %d", round, version, place)
			}
		}
		if e == api.OK {
			v.Adopt(r, last)
		}
	}
}

// A vault is made anew from its top and next version, as behind a mount.
func TestVaultMadeAnew(t *testing.T) {
	v, d := full(t, 17)
	for round := range 10 {
		write(t, v, block(uint64(round), 200+round))
		must(t, d.Flush(), api.OK)
		d.Crash(nil)
		top, next := v.Top()
		v = over(t, d, 17, top, next, last)
		for i := range 17 {
			if i <= round {
				reads(t, v, uint64(i), some(200+i, 160))
			} else {
				reads(t, v, uint64(i), some(i, 160))
			}
		}
	}
}

// Places beyond the vault's belong to others.
func TestVaultLeavesOtherPlacesAlone(t *testing.T) {
	d := room(t, 40)
	for place := 16; place < 40; place++ {
		lies(t, d, place, some(place, 192))
	}
	v := over(t, d, 5, tree.Ref{}, 1, last)
	for round := range 6 {
		for i := range uint64(5) {
			write(t, v, block(i, 10*round+int(i)))
		}
	}
	for place := 16; place < 40; place++ {
		if !bytes.Equal(at(t, d, place), some(place, 192)) {
			t.Errorf("place %d was written", place)
		}
	}
}

// Memory of their own (section 'Words')

func TestReadTellsNewMemory(t *testing.T) {
	v, _ := fresh(t, 5)
	write(t, v, block(4, 1))
	for i, want := range map[uint64][]byte{4: some(1, 160), 0: noughts()} {
		a, e := v.Read(i)
		must(t, e, api.OK)
		b, e := v.Read(i)
		must(t, e, api.OK)
		for k := range a {
			a[k] ^= 255
		}
		_ = append(a, 9, 9, 9)
		if !bytes.Equal(b, want) {
			t.Error("two answers share memory")
		}
		reads(t, v, i, want)
	}
}

func TestUpdateKeepsAndChangesNothing(t *testing.T) {
	v, d := fresh(t, 5)
	room := some(9, 400)
	l := []api.Image{block(4, 1), {Block: 2, Bytes: room[100:260]}, block(0, 3), block(4, 4)}
	was := []api.Image{block(4, 1), {Block: 2, Bytes: some(9, 400)[100:260]}, block(0, 3), block(4, 4)}
	r, e := v.Update(l)
	must(t, e, api.OK)
	if !reflect.DeepEqual(l, was) || !bytes.Equal(room, some(9, 400)) {
		t.Fatal("what is handed in changed")
	}
	for _, m := range l {
		clear(m.Bytes)
	}
	clear(l)
	v.Adopt(r, last)
	must(t, d.Flush(), api.OK)
	reads(t, v, 4, some(4, 160))
	reads(t, v, 2, some(9, 400)[100:260])
	reads(t, v, 0, some(3, 160))
	// With an error, too.
	l = []api.Image{block(4, 1), block(9, 2), {Block: 0}}
	fails(t, v, l, api.ErrArg)
	if !reflect.DeepEqual(l, []api.Image{block(4, 1), block(9, 2), {Block: 0}}) {
		t.Error("what is handed in changed")
	}
}

func TestTwoVaultsShareNothing(t *testing.T) {
	v, d := full(t, 5)
	top, next := v.Top()
	w := over(t, d, 5, top, next, last)
	r, e := w.Update([]api.Image{block(4, 50)})
	must(t, e, api.OK)
	w.Adopt(r, 5)
	if now, n := v.Top(); now != top || n != next {
		t.Error("one vault's calls are seen in the other one")
	}
	reads(t, v, 4, some(4, 160))
	reads(t, w, 4, some(50, 160))
}

func TestTheSameCallsHaveTheSameAnswers(t *testing.T) {
	var images [][][]byte
	var tops []tree.Ref
	for range 3 {
		v, d := fresh(t, 21)
		for round := range 10 {
			var l []api.Image
			for k := range 7 {
				l = append(l, block(uint64(some(round, 8)[k]%21), 10*round+k))
			}
			write(t, v, l...)
		}
		must(t, d.Flush(), api.OK)
		top, _ := v.Top()
		images, tops = append(images, d.Image()), append(tops, top)
	}
	if tops[0] != tops[1] || tops[0] != tops[2] || !reflect.DeepEqual(images[0], images[1]) || !reflect.DeepEqual(images[0], images[2]) {
		t.Error("the same calls have other answers")
	}
}
