package blocks

import (
	"bytes"
	"encoding/binary"
	"math"
	"slices"
	"testing"

	"reliquary/api"
	"reliquary/cell"
	"reliquary/change"
	"reliquary/disk"
	"reliquary/inode"
	"reliquary/layout"
)

// The calls as chapter 20 lists them: this doesn't build if a signature is another one.
var (
	_ func(*change.Change, layout.Layout) *Access                   = New
	_ func(*Access) api.Errno                                       = (*Access).Make
	_ func(*Access, int) ([]byte, api.Errno)                        = (*Access).Read
	_ func(*Access, int, []byte) api.Errno                          = (*Access).Write
	_ func(*Access) (int, api.Errno)                                = (*Access).Alloc
	_ func(*Access, int) api.Errno                                  = (*Access).Release
	_ func(*Access) (int, int, api.Errno)                           = (*Access).Left
	_ func(*Access, int) (inode.Inode, api.Errno)                   = (*Access).Inode
	_ func(*Access, int, inode.Inode) api.Errno                     = (*Access).SetInode
	_ func(*Access, inode.Inode) (int, api.Errno)                   = (*Access).NewInode
	_ func(*Access, int) api.Errno                                  = (*Access).Forget
	_ func(*Access, inode.Inode, int) (int, api.Errno)              = (*Access).Find
	_ func(*Access, inode.Inode, int) (inode.Inode, int, api.Errno) = (*Access).Grow
	_ func(*Access, inode.Inode, int) (inode.Inode, api.Errno)      = (*Access).Shrink
)

// far are numbers of nothing that is there.
var far = []int{
	math.MinInt, math.MinInt + 1, math.MinInt + 5, math.MinInt64 / 2, math.MinInt32 - 1, math.MinInt32, -1280, -1024, -160, -32, -6, -5, -3, -2, -1,
	1025, 1280, 6483, 1 << 16, 1<<16 + 5, math.MaxInt32, math.MaxInt32 + 1, math.MaxUint32, 1 << 32, 1<<32 + 5, 1 << 62, math.MaxInt - 4, math.MaxInt - 1, math.MaxInt,
}

// sizes are numbers of blocks and inodes of layouts.
var sizes = [][2]int{{8, 2}, {8, 5}, {8, 6}, {8, 20}, {9, 25}, {20, 6}, {20, 10}, {30, 8}, {64, 31}, {104, 500}, {256, 256}, {1024, 2}, {1024, 500}}

// some is a block's bytes without a rule that a fault could hide in; each seed has others.
func some(seed int) []byte {
	out := make([]byte, 160)
	x := uint32(seed)*2654435761 + 20
	for i := range out {
		x = x*1664525 + 1013904223
		out[i] = byte(x >> 24)
	}
	return out
}

// blank is a block that nothing stands in.
func blank() []byte { return make([]byte, 160) }

// must holds an error against the one that is asked for.
func must(t *testing.T, got, want api.Errno) {
	t.Helper()
	if got != want {
		t.Fatalf("error %d, not %d", got, want)
	}
}

// begun is a change of so many blocks of noughts, which may write so many.
func begun(t *testing.T, count, limit int) *change.Change {
	t.Helper()
	c := change.Config{Master: make([]byte, 32), Blocks: count, Journal: max(count, limit), Limit: limit, Cache: 4}
	places, e := change.Places(c)
	must(t, e, api.OK)
	d, e := disk.New(places)
	must(t, e, api.OK)
	k := cell.New()
	must(t, change.Format(d, k, c), api.OK)
	s, e := change.Mount(d, k, c)
	must(t, e, api.OK)
	x, e := s.Begin()
	must(t, e, api.OK)
	return x
}

// plan is the layout of so many blocks and inodes.
func plan(t *testing.T, count, inodes int) layout.Layout {
	t.Helper()
	l, e := layout.New(count, inodes)
	must(t, e, api.OK)
	return l
}

// made is a file system with nothing in it, and its change.
func made(t *testing.T, count, inodes int) (*Access, *change.Change) {
	t.Helper()
	x := begun(t, count, count)
	a := New(x, plan(t, count, inodes))
	must(t, a.Make(), api.OK)
	return a, x
}

// over is a file system whose change is over.
func over(t *testing.T) *Access {
	t.Helper()
	a, x := made(t, 20, 6)
	must(t, x.Abort(), api.OK)
	return a
}

// limited is a file system whose change may write so many blocks only, of which none is written yet: what was made was committed by another one.
func limited(t *testing.T, count, inodes, limit int, fill func(a *Access)) (*Access, *change.Change) {
	t.Helper()
	c := change.Config{Master: make([]byte, 32), Blocks: count, Journal: count, Limit: count, Cache: 4}
	places, _ := change.Places(c)
	d, _ := disk.New(places)
	k := cell.New()
	must(t, change.Format(d, k, c), api.OK)
	s, e := change.Mount(d, k, c)
	must(t, e, api.OK)
	x, e := s.Begin()
	must(t, e, api.OK)
	l := plan(t, count, inodes)
	a := New(x, l)
	must(t, a.Make(), api.OK)
	fill(a)
	must(t, x.Commit(), api.OK)
	c.Limit = limit
	s, e = change.Mount(d, k, c)
	must(t, e, api.OK)
	x, e = s.Begin()
	must(t, e, api.OK)
	return New(x, l), x
}

// raw are a block's bytes, told by the change itself.
func raw(t *testing.T, x *change.Change, block int) []byte {
	t.Helper()
	b, e := x.Read(uint64(block))
	must(t, e, api.OK)
	return b
}

// lay lets a block have these bytes, by the change itself.
func lay(t *testing.T, x *change.Change, block int, b []byte) {
	t.Helper()
	must(t, x.Write(uint64(block), b), api.OK)
}

// all are the bytes of all blocks.
func all(t *testing.T, x *change.Change, count int) [][]byte {
	t.Helper()
	var out [][]byte
	for i := range count {
		out = append(out, raw(t, x, i))
	}
	return out
}

// differ are the blocks of which two rows have other bytes.
func differ(a, b [][]byte) []int {
	var out []int
	for i := range a {
		if !bytes.Equal(a[i], b[i]) {
			out = append(out, i)
		}
	}
	return out
}

// bitsOf are the bits of a block that are set.
func bitsOf(b []byte) []int {
	var out []int
	for i := range 8 * len(b) {
		if b[i/8]>>(i%8)%2 == 1 {
			out = append(out, i)
		}
	}
	return out
}

// withBits are the bytes of a block of which just these bits are set.
func withBits(bits ...int) []byte {
	out := blank()
	for _, i := range bits {
		out[i/8] |= 1 << (i % 8)
	}
	return out
}

// clearBit clears a bit of a block, by the change itself.
func clearBit(t *testing.T, x *change.Change, block, i int) {
	t.Helper()
	b := raw(t, x, block)
	b[i/8] &^= 1 << (i % 8)
	lay(t, x, block, b)
}

// row is one number behind the other, from one on, below another one.
func row(from, to int) []int {
	var out []int
	for i := from; i < to; i++ {
		out = append(out, i)
	}
	return out
}

// withNumbers is a block of numbers that has these at their places.
func withNumbers(m map[int]int) []byte {
	out := blank()
	for place, x := range m {
		binary.LittleEndian.PutUint16(out[2*place:], uint16(x))
	}
	return out
}

// left holds how many blocks and inodes are free.
func left(t *testing.T, a *Access, blocks, inodes int) {
	t.Helper()
	if n, m, e := a.Left(); n != blocks || m != inodes || e != api.OK {
		t.Fatalf("Left: %d, %d, error %d, not %d, %d", n, m, e, blocks, inodes)
	}
}

// alloc holds which block is taken.
func alloc(t *testing.T, a *Access, want int) {
	t.Helper()
	if n, e := a.Alloc(); n != want || e != api.OK {
		t.Fatalf("Alloc: %d, error %d, not %d", n, e, want)
	}
}

// noAlloc holds that no block is taken.
func noAlloc(t *testing.T, a *Access, want api.Errno) {
	t.Helper()
	if n, e := a.Alloc(); n != 0 || e != want {
		t.Fatalf("Alloc: %d, error %d, not error %d", n, e, want)
	}
}

// newInode holds which inode is taken.
func newInode(t *testing.T, a *Access, x inode.Inode, want int) {
	t.Helper()
	if n, e := a.NewInode(x); n != want || e != api.OK {
		t.Fatalf("NewInode: %d, error %d, not %d", n, e, want)
	}
}

// noNewInode holds that no inode is taken.
func noNewInode(t *testing.T, a *Access, want api.Errno) {
	t.Helper()
	if n, e := a.NewInode(full); n != 0 || e != want {
		t.Fatalf("NewInode: %d, error %d, not error %d", n, e, want)
	}
}

// isInode holds an inode.
func isInode(t *testing.T, a *Access, n int, want inode.Inode) {
	t.Helper()
	if x, e := a.Inode(n); x != want || e != api.OK {
		t.Fatalf("Inode of %d: %v, error %d, not %v", n, x, e, want)
	}
}

// noInode holds that an inode isn't told.
func noInode(t *testing.T, a *Access, n int, want api.Errno) {
	t.Helper()
	if x, e := a.Inode(n); x != (inode.Inode{}) || e != want {
		t.Fatalf("Inode of %d: %v, error %d, not error %d", n, x, e, want)
	}
}

// finds holds a file's block.
func finds(t *testing.T, a *Access, x inode.Inode, i, want int) {
	t.Helper()
	if n, e := a.Find(x, i); n != want || e != api.OK {
		t.Fatalf("Find of %d: %d, error %d, not %d", i, n, e, want)
	}
}

// noFind holds that a file's block isn't told.
func noFind(t *testing.T, a *Access, x inode.Inode, i int, want api.Errno) {
	t.Helper()
	if n, e := a.Find(x, i); n != 0 || e != want {
		t.Fatalf("Find of %d: %d, error %d, not error %d", i, n, e, want)
	}
}

// noBlocks are numbers of no block that any file has.
func noBlocks() []int {
	return append(slices.DeleteFunc(slices.Clone(far), func(i int) bool { return i >= 0 && i < 6483 }), 6484)
}

// grow is an inode whose block is taken, if it isn't there.
func grow(t *testing.T, a *Access, x inode.Inode, i int) (inode.Inode, int) {
	t.Helper()
	y, n, e := a.Grow(x, i)
	must(t, e, api.OK)
	return y, n
}

// grown is a file of these blocks.
func grown(t *testing.T, a *Access, l ...int) inode.Inode {
	t.Helper()
	x := inode.Inode{Kind: inode.File, Links: 7, Size: 12345}
	for _, i := range l {
		x, _ = grow(t, a, x, i)
	}
	return x
}

// noGrow holds that a file's block isn't taken.
func noGrow(t *testing.T, a *Access, x inode.Inode, i int, want api.Errno) {
	t.Helper()
	if y, n, e := a.Grow(x, i); y != (inode.Inode{}) || n != 0 || e != want {
		t.Fatalf("Grow of %d: %v, %d, error %d, not error %d", i, y, n, e, want)
	}
}

// shrink holds which inode there is then.
func shrink(t *testing.T, a *Access, x inode.Inode, i int, want inode.Inode) {
	t.Helper()
	if y, e := a.Shrink(x, i); y != want || e != api.OK {
		t.Fatalf("Shrink to %d: %v, error %d, not %v", i, y, e, want)
	}
}

// noShrink holds that a file isn't shrunk.
func noShrink(t *testing.T, a *Access, x inode.Inode, i int, want api.Errno) {
	t.Helper()
	if y, e := a.Shrink(x, i); y != (inode.Inode{}) || e != want {
		t.Fatalf("Shrink to %d: %v, error %d, not error %d", i, y, e, want)
	}
}

// full is an inode of which no number is 0.
var full = inode.Inode{Kind: 3, Links: 0x0201, Size: 0x06050403, Blocks: [3]uint16{0x0807, 0x0a09, 0x0c0b}, Single: 0x0e0d, Double: 0x100f}

// The chapter's example

func TestExample(t *testing.T) {
	for _, s := range sizes {
		a, _ := made(t, s[0], s[1])
		alloc(t, a, plan(t, s[0], s[1]).Data)
	}
}

// P20.1

func TestReadAndWrite(t *testing.T) {
	x := begun(t, 20, 20)
	a := New(x, plan(t, 20, 6))
	for i := range 20 {
		if b, e := a.Read(i); e != api.OK || !bytes.Equal(b, blank()) {
			t.Fatalf("Read of %d: %x, error %d", i, b, e)
		}
	}
	for i := range 20 {
		b := some(i)
		must(t, a.Write(i, b), api.OK)
		clear(b)
		if !bytes.Equal(raw(t, x, i), some(i)) {
			t.Fatalf("block %d isn't what was written", i)
		}
		lay(t, x, i, some(100+i))
		b, e := a.Read(i)
		if e != api.OK || !bytes.Equal(b, some(100+i)) {
			t.Fatalf("Read of %d: %x, error %d", i, b, e)
		}
		b = b[:cap(b)]
		clear(b)
		if !bytes.Equal(raw(t, x, i), some(100+i)) {
			t.Fatalf("block %d is shared", i)
		}
	}
}

func TestBlocksThatThereArent(t *testing.T) {
	a, x := made(t, 20, 6)
	was := all(t, x, 20)
	for _, i := range append([]int{20, 21, 84}, far...) {
		if b, e := a.Read(i); len(b) != 0 || e != api.ErrRange {
			t.Errorf("Read of %d: %x, error %d", i, b, e)
		}
		must(t, a.Write(i, some(1)), api.ErrRange)
		must(t, a.Write(i, nil), api.ErrRange)
	}
	for _, n := range []int{0, 1, 32, 159, 161, 320} {
		must(t, a.Write(7, make([]byte, n)), api.ErrArg)
	}
	if l := differ(was, all(t, x, 20)); len(l) > 0 {
		t.Errorf("blocks %v were written", l)
	}
}

func TestErrorsOfTheChange(t *testing.T) {
	a := over(t)
	if b, e := a.Read(1); len(b) != 0 || e != api.ErrState {
		t.Errorf("Read: %x, error %d", b, e)
	}
	must(t, a.Write(1, some(1)), api.ErrState)
	must(t, a.Make(), api.ErrState)
	noAlloc(t, a, api.ErrState)
	must(t, a.Release(8), api.ErrState)
	if n, m, e := a.Left(); n != 0 || m != 0 || e != api.ErrState {
		t.Errorf("Left: %d, %d, error %d", n, m, e)
	}
	noInode(t, a, 1, api.ErrState)
	must(t, a.SetInode(1, full), api.ErrState)
	noNewInode(t, a, api.ErrState)
	must(t, a.Forget(1), api.ErrState)
	noFind(t, a, full, 3, api.ErrState)
	noFind(t, a, full, 83, api.ErrState)
	noGrow(t, a, full, 3, api.ErrState)
	noGrow(t, a, inode.Inode{}, 0, api.ErrState)
	noShrink(t, a, inode.Inode{Single: 9}, 9999, api.ErrState)
	noShrink(t, a, inode.Inode{Blocks: [3]uint16{9}}, 0, api.ErrState)
	// What is told ahead of asking the change is told still.
	must(t, a.Release(4), api.ErrRange)
	noInode(t, a, 6, api.ErrRange)
	must(t, a.SetInode(0, full), api.ErrRange)
	must(t, a.Forget(-1), api.ErrRange)
	noFind(t, a, full, 6483, api.ErrBig)
	noGrow(t, a, full, -1, api.ErrBig)
	noShrink(t, a, full, -1, api.ErrRange)
	// What needs no block asks for none.
	finds(t, a, full, 1, 0x0a09)
	shrink(t, a, inode.Inode{Kind: 1, Blocks: [3]uint16{9}}, 1, inode.Inode{Kind: 1, Blocks: [3]uint16{9}})
}

// first are the bytes of what Make writes, laid down as the promise's words tell it.
func first(l layout.Layout) [][]byte {
	super := blank()
	copy(super, "RLQ1")
	binary.LittleEndian.PutUint32(super[4:], uint32(l.Blocks))
	binary.LittleEndian.PutUint32(super[8:], uint32(l.Inodes))
	out := [][]byte{super, withBits(row(0, l.Data)...), withBits(0, 1)}
	for range l.Data - 3 {
		out = append(out, blank())
	}
	copy(out[3][32:], []byte{2, 0, 2})
	return out
}

func TestMake(t *testing.T) {
	for _, s := range sizes {
		x := begun(t, s[0], s[0])
		l := plan(t, s[0], s[1])
		for i := range s[0] {
			lay(t, x, i, some(i))
		}
		want := all(t, x, s[0])
		copy(want, first(l))
		a := New(x, l)
		must(t, a.Make(), api.OK)
		if l := differ(want, all(t, x, s[0])); len(l) > 0 {
			t.Errorf("%v: blocks %v are others", s, l)
		}
		isInode(t, a, 1, inode.Inode{Kind: inode.Dir, Links: 2})
		left(t, a, s[0]-l.Data, s[1]-2)
		// Once more: as it was at first.
		alloc(t, a, l.Data)
		must(t, a.SetInode(1, full), api.OK)
		must(t, a.Make(), api.OK)
		if b := all(t, x, s[0])[:l.Data]; len(differ(first(l), b)) > 0 {
			t.Errorf("%v: made anew it is another one", s)
		}
	}
}

// A change that may write too few blocks has those that were written so far.
func TestMakeOfTooFew(t *testing.T) {
	l := plan(t, 20, 12)
	want := first(l)
	// The inode 1 comes behind all of the blocks of inodes.
	bare := slices.Clone(want)
	bare[3] = blank()
	for limit := 1; limit < l.Data; limit++ {
		x := begun(t, 20, limit)
		must(t, New(x, l).Make(), api.ErrFull)
		if !slices.EqualFunc(all(t, x, limit), bare[:limit], bytes.Equal) {
			t.Errorf("limit %d: other blocks", limit)
		}
	}
	x := begun(t, 20, l.Data)
	must(t, New(x, l).Make(), api.OK)
	if !slices.EqualFunc(all(t, x, l.Data), want, bytes.Equal) {
		t.Error("other blocks")
	}
}

// Fewer blocks than the layout has.
func TestMakeOfALayoutThatIsTooGreat(t *testing.T) {
	for count := 1; count < 6; count++ {
		x := begun(t, count, count)
		must(t, New(x, plan(t, 20, 12)).Make(), api.ErrRange)
	}
}

// P20.2

func TestAlloc(t *testing.T) {
	for _, s := range sizes {
		a, x := made(t, s[0], s[1])
		l := plan(t, s[0], s[1])
		for i := l.Data; i < s[0]; i++ {
			lay(t, x, i, some(i))
		}
		for i := l.Data; i < s[0]; i++ {
			left(t, a, s[0]-i, s[1]-2)
			if i > l.Data+10 && i < s[0]-10 {
				alloc(t, a, i)
				continue
			}
			was := all(t, x, s[0])
			was[1], was[i] = withBits(row(0, i+1)...), blank()
			alloc(t, a, i)
			if l := differ(was, all(t, x, s[0])); len(l) > 0 {
				t.Fatalf("%v: with %d the blocks %v are others", s, i, l)
			}
		}
		was := all(t, x, s[0])
		noAlloc(t, a, api.ErrSpace)
		left(t, a, 0, s[1]-2)
		if l := differ(was, all(t, x, s[0])); len(l) > 0 {
			t.Errorf("%v: blocks %v were written", s, l)
		}
	}
}

func TestAllocIsTheLowest(t *testing.T) {
	a, x := made(t, 40, 6)
	for range 35 {
		a.Alloc()
	}
	noAlloc(t, a, api.ErrSpace)
	for _, i := range []int{39, 5, 17, 16, 23} {
		must(t, a.Release(i), api.OK)
	}
	lay(t, x, 16, some(3))
	for _, i := range []int{5, 16, 17, 23, 39} {
		alloc(t, a, i)
	}
	if !bytes.Equal(raw(t, x, 16), blank()) {
		t.Error("16 isn't noughts")
	}
	noAlloc(t, a, api.ErrSpace)
}

// Bits of blocks ahead of Data, and of those that there aren't, don't count.
func TestBitsThatDontCount(t *testing.T) {
	a, x := made(t, 20, 6)
	for _, b := range [][]byte{blank(), withBits(row(0, 5)...), withBits(row(20, 1280)...), withBits(append(row(0, 5), row(20, 1280)...)...)} {
		lay(t, x, 1, b)
		left(t, a, 15, 4)
		alloc(t, a, 5)
		left(t, a, 14, 4)
		if want := slices.Sorted(slices.Values(append(bitsOf(b), 5))); !slices.Equal(bitsOf(raw(t, x, 1)), want) {
			t.Errorf("the bits are %v, not %v", bitsOf(raw(t, x, 1)), want)
		}
	}
	lay(t, x, 1, withBits(row(5, 20)...))
	noAlloc(t, a, api.ErrSpace)
	left(t, a, 0, 4)
	for _, b := range [][]byte{blank(), withBits(0), withBits(row(6, 1280)...)} {
		lay(t, x, 2, b)
		left(t, a, 0, 5)
		newInode(t, a, full, 1)
		left(t, a, 0, 4)
	}
	lay(t, x, 2, withBits(row(1, 6)...))
	noNewInode(t, a, api.ErrSpace)
	left(t, a, 0, 0)
}

func TestRelease(t *testing.T) {
	a, x := made(t, 20, 6)
	for i := 5; i < 20; i++ {
		alloc(t, a, i)
		lay(t, x, i, some(i))
	}
	was := all(t, x, 20)
	for _, i := range append([]int{0, 1, 2, 3, 4, 20, 21, 24}, far...) {
		must(t, a.Release(i), api.ErrRange)
	}
	if l := differ(was, all(t, x, 20)); len(l) > 0 {
		t.Fatalf("blocks %v were written", l)
	}
	var gone []int
	for n, i := range []int{19, 5, 12, 7, 8, 15, 16} {
		must(t, a.Release(i), api.OK)
		gone = append(gone, i)
		left(t, a, n+1, 4)
		// The block's bytes stay as they are.
		if l := differ(was, all(t, x, 20)); !slices.Equal(l, []int{1}) {
			t.Fatalf("blocks %v were written", l)
		}
		if l := bitsOf(raw(t, x, 1)); !slices.Equal(l, slices.DeleteFunc(row(0, 20), func(i int) bool { return slices.Contains(gone, i) })) {
			t.Fatalf("behind %d the bits are %v", i, l)
		}
		must(t, a.Release(i), api.ErrArg)
	}
	left(t, a, 7, 4)
}

func TestReleaseOfWhatWasNeverTaken(t *testing.T) {
	a, x := made(t, 20, 6)
	was := all(t, x, 20)
	for i := 5; i < 20; i++ {
		must(t, a.Release(i), api.ErrArg)
	}
	if l := differ(was, all(t, x, 20)); len(l) > 0 {
		t.Fatalf("blocks %v were written", l)
	}
	// Bits of blocks that there aren't don't make them ones.
	lay(t, x, 1, withBits(row(0, 1280)...))
	for _, i := range []int{0, 4, 20, 21, 1279} {
		must(t, a.Release(i), api.ErrRange)
	}
}

func TestAllocOfTooFew(t *testing.T) {
	a, x := limited(t, 20, 6, 1, func(a *Access) {})
	noAlloc(t, a, api.ErrFull)
	if l := bitsOf(raw(t, x, 1)); !slices.Equal(l, row(0, 6)) {
		t.Errorf("the bits are %v", l)
	}
	a, x = limited(t, 20, 6, 1, func(a *Access) {})
	lay(t, x, 9, some(9))
	noAlloc(t, a, api.ErrFull)
	must(t, a.Forget(1), api.ErrFull)
	noNewInode(t, a, api.ErrFull)
	if l := bitsOf(raw(t, x, 1)); !slices.Equal(l, row(0, 5)) {
		t.Errorf("the bits are %v", l)
	}
	if l := bitsOf(raw(t, x, 2)); !slices.Equal(l, row(0, 2)) {
		t.Errorf("the bits are %v", l)
	}
	a, _ = limited(t, 20, 6, 1, func(a *Access) { a.Alloc() })
	must(t, a.Release(5), api.OK)
	must(t, a.SetInode(1, full), api.ErrFull)
}

// P20.3

// laid are an inode's bytes as chapter 19's words tell them.
func laid(n inode.Inode) []byte {
	out := []byte{n.Kind, 0}
	out = binary.LittleEndian.AppendUint16(out, n.Links)
	out = binary.LittleEndian.AppendUint32(out, n.Size)
	for _, x := range []uint16{n.Blocks[0], n.Blocks[1], n.Blocks[2], n.Single, n.Double} {
		out = binary.LittleEndian.AppendUint16(out, x)
	}
	return append(out, make([]byte, 14)...)
}

// numbered is an inode of its own for each number.
func numbered(n int) inode.Inode {
	x := full
	x.Kind, x.Links, x.Size, x.Double = byte(n%4), uint16(n), uint32(n)<<20+1, uint16(n)*77
	return x
}

func TestInodes(t *testing.T) {
	for _, s := range sizes {
		a, x := made(t, s[0], s[1])
		l := plan(t, s[0], s[1])
		for i := 3; i < l.Data; i++ {
			lay(t, x, i, some(i))
		}
		table := bytes.Join(all(t, x, l.Data)[3:], nil)
		for n := 1; n < s[1]; n++ {
			must(t, a.SetInode(n, numbered(n)), api.OK)
			isInode(t, a, n, numbered(n))
			copy(table[32*n:], laid(numbered(n)))
			if n < 12 || n > s[1]-6 {
				if b := bytes.Join(all(t, x, l.Data)[3:], nil); !bytes.Equal(b, table) {
					t.Fatalf("%v: SetInode of %d: other bytes", s, n)
				}
			}
		}
		for n := 1; n < s[1]; n++ {
			isInode(t, a, n, numbered(n))
		}
		if b := bytes.Join(all(t, x, l.Data)[3:], nil); !bytes.Equal(b, table) {
			t.Fatalf("%v: other bytes", s)
		}
		// Neither one asks for bits, or sets some.
		if !bytes.Equal(raw(t, x, 2), withBits(0, 1)) {
			t.Errorf("%v: the bits are others", s)
		}
	}
}

func TestInodesThatThereArent(t *testing.T) {
	a, x := made(t, 20, 8)
	was := all(t, x, 20)
	for _, n := range append([]int{0, 8, 9, 10}, far...) {
		noInode(t, a, n, api.ErrRange)
		must(t, a.SetInode(n, full), api.ErrRange)
		must(t, a.Forget(n), api.ErrRange)
	}
	if l := differ(was, all(t, x, 20)); len(l) > 0 {
		t.Fatalf("blocks %v were written", l)
	}
}

func TestInodesThatMayNotBe(t *testing.T) {
	a, x := made(t, 20, 8)
	for n := 1; n < 8; n++ {
		must(t, a.SetInode(n, numbered(n)), api.OK)
	}
	for _, at := range []int{1, 18, 19, 30, 31} {
		was := raw(t, x, 3)
		b := slices.Clone(was)
		b[2*32+at] = 1
		lay(t, x, 3, b)
		noInode(t, a, 2, api.ErrForm)
		isInode(t, a, 1, numbered(1))
		isInode(t, a, 3, numbered(3))
		lay(t, x, 3, was)
	}
	for _, kind := range []byte{4, 5, 128, 255} {
		b := raw(t, x, 4)
		b[32] = kind
		lay(t, x, 4, b)
		noInode(t, a, 6, api.ErrForm)
		isInode(t, a, 5, numbered(5))
		isInode(t, a, 7, numbered(7))
	}
	// It is put anew, whatever stood there.
	must(t, a.SetInode(6, full), api.OK)
	isInode(t, a, 6, full)
}

func TestNewInode(t *testing.T) {
	for _, s := range sizes {
		a, x := made(t, s[0], s[1])
		l := plan(t, s[0], s[1])
		table := bytes.Join(all(t, x, l.Data)[3:], nil)
		for n := 2; n < s[1]; n++ {
			left(t, a, s[0]-l.Data, s[1]-n)
			newInode(t, a, numbered(n), n)
			copy(table[32*n:], laid(numbered(n)))
			if l := bitsOf(raw(t, x, 2)); !slices.Equal(l, row(0, n+1)) {
				t.Fatalf("%v: behind %d the bits are %v", s, n, l)
			}
		}
		if b := bytes.Join(all(t, x, l.Data)[3:], nil); !bytes.Equal(b, table) {
			t.Errorf("%v: other bytes", s)
		}
		was := all(t, x, s[0])
		noNewInode(t, a, api.ErrSpace)
		left(t, a, s[0]-l.Data, 0)
		if l := differ(was, all(t, x, s[0])); len(l) > 0 {
			t.Errorf("%v: blocks %v were written", s, l)
		}
	}
}

func TestForget(t *testing.T) {
	a, x := made(t, 20, 12)
	for n := 2; n < 12; n++ {
		newInode(t, a, numbered(n), n)
	}
	table := bytes.Join(all(t, x, 6)[3:], nil)
	for i, n := range []int{11, 2, 5, 4, 9, 1} {
		must(t, a.Forget(n), api.OK)
		left(t, a, 14, i+1)
		isInode(t, a, n, inode.Inode{})
		copy(table[32*n:], make([]byte, 32))
		if b := bytes.Join(all(t, x, 6)[3:], nil); !bytes.Equal(b, table) {
			t.Fatalf("Forget of %d: other bytes", n)
		}
		// What is forgotten can't be forgotten once more, whatever stands there.
		must(t, a.SetInode(n, full), api.OK)
		must(t, a.Forget(n), api.ErrArg)
		isInode(t, a, n, full)
		must(t, a.SetInode(n, inode.Inode{}), api.OK)
	}
	if l := bitsOf(raw(t, x, 2)); !slices.Equal(l, []int{0, 3, 6, 7, 8, 10}) {
		t.Errorf("the bits are %v", l)
	}
	for _, n := range []int{1, 2, 4, 5, 9, 11} {
		newInode(t, a, numbered(n+1), n)
		isInode(t, a, n, numbered(n+1))
	}
	noNewInode(t, a, api.ErrSpace)
}

func TestForgetOfWhatWasNeverTaken(t *testing.T) {
	a, x := made(t, 20, 12)
	was := all(t, x, 20)
	for n := 2; n < 12; n++ {
		must(t, a.Forget(n), api.ErrArg)
	}
	if l := differ(was, all(t, x, 20)); len(l) > 0 {
		t.Fatalf("blocks %v were written", l)
	}
	must(t, a.Forget(1), api.OK)
	left(t, a, 14, 11)
}

// With an error what was written so far stays.
func TestInodesOfTooFew(t *testing.T) {
	a, x := limited(t, 20, 6, 1, func(a *Access) {})
	noNewInode(t, a, api.ErrFull)
	if l := bitsOf(raw(t, x, 2)); !slices.Equal(l, row(0, 3)) {
		t.Errorf("the bits are %v", l)
	}
	isInode(t, a, 2, inode.Inode{})
	a, x = limited(t, 20, 6, 1, func(a *Access) {})
	must(t, a.Forget(1), api.ErrFull)
	if l := bitsOf(raw(t, x, 2)); !slices.Equal(l, row(0, 1)) {
		t.Errorf("the bits are %v", l)
	}
	isInode(t, a, 1, inode.Inode{Kind: inode.Dir, Links: 2})
}

// P20.4

// atop is a file whose blocks of numbers are laid down by hand: Single's is 10; Double's is 11, with 12 at its place 0, 13 at 5, and 14 at 79.
func atop(t *testing.T, x *change.Change) (inode.Inode, map[int]int) {
	t.Helper()
	lay(t, x, 10, withNumbers(map[int]int{0: 20, 1: 300, 41: 0x0102, 79: 65535}))
	lay(t, x, 11, withNumbers(map[int]int{0: 12, 5: 13, 79: 14}))
	lay(t, x, 12, withNumbers(map[int]int{0: 30, 79: 31}))
	lay(t, x, 13, withNumbers(map[int]int{7: 32}))
	lay(t, x, 14, withNumbers(map[int]int{0: 33, 78: 34, 79: 1}))
	n := inode.Inode{Kind: inode.File, Blocks: [3]uint16{7, 0, 65534}, Single: 10, Double: 11}
	return n, map[int]int{
		0: 7, 2: 65534,
		3: 20, 4: 300, 44: 0x0102, 82: 65535,
		83: 30, 162: 31, 83 + 5*80 + 7: 32, 83 + 79*80: 33, 6481: 34, 6482: 1,
	}
}

func TestFind(t *testing.T) {
	a, x := made(t, 40, 6)
	n, want := atop(t, x)
	was := all(t, x, 40)
	for i := range 6483 {
		finds(t, a, n, i, want[i])
	}
	for i := range 6483 {
		finds(t, a, inode.Inode{Kind: inode.File, Links: 1, Size: math.MaxUint32}, i, 0)
	}
	for _, i := range noBlocks() {
		noFind(t, a, n, i, api.ErrBig)
	}
	if l := differ(was, all(t, x, 40)); len(l) > 0 {
		t.Errorf("blocks %v were written", l)
	}
}

func TestFindOfBlocksThatThereArent(t *testing.T) {
	a, x := made(t, 40, 6)
	lay(t, x, 11, withNumbers(map[int]int{0: 40, 1: 65535, 2: 39}))
	n := inode.Inode{Blocks: [3]uint16{40, 65535}, Single: 40, Double: 11}
	finds(t, a, n, 0, 40)
	finds(t, a, n, 1, 65535)
	noFind(t, a, n, 3, api.ErrRange)
	noFind(t, a, n, 82, api.ErrRange)
	noFind(t, a, n, 83, api.ErrRange)
	noFind(t, a, n, 163+7, api.ErrRange)
	finds(t, a, n, 243, 0)
	n.Double = 65535
	noFind(t, a, n, 6482, api.ErrRange)
}

func TestGrowByHand(t *testing.T) {
	a, x := made(t, 20, 6)
	for i := 5; i < 20; i++ {
		lay(t, x, i, some(i))
	}
	n := inode.Inode{Kind: inode.Link, Links: 9, Size: 77}
	want := n
	// Each step is a block of the file, the block that is told, and what is there then.
	for _, s := range []struct {
		i, told int
		then    func()
		numbers map[int]map[int]int
	}{
		{1, 5, func() { want.Blocks[1] = 5 }, map[int]map[int]int{5: {}}},
		{0, 6, func() { want.Blocks[0] = 6 }, map[int]map[int]int{6: {}}},
		{2, 7, func() { want.Blocks[2] = 7 }, map[int]map[int]int{7: {}}},
		{4, 9, func() { want.Single = 8 }, map[int]map[int]int{8: {1: 9}, 9: {}}},
		{82, 10, func() {}, map[int]map[int]int{8: {1: 9, 79: 10}, 10: {}}},
		{83 + 80*3 + 2, 13, func() { want.Double = 11 }, map[int]map[int]int{11: {3: 12}, 12: {2: 13}, 13: {}}},
		{83 + 80*3, 14, func() {}, map[int]map[int]int{11: {3: 12}, 12: {0: 14, 2: 13}, 14: {}}},
		{6482, 16, func() {}, map[int]map[int]int{11: {3: 12, 79: 15}, 15: {79: 16}, 16: {}}},
	} {
		blocks := all(t, x, 20)
		y, b := grow(t, a, n, s.i)
		s.then()
		if y != want || b != s.told {
			t.Fatalf("Grow of %d: %v, %d, not %v, %d", s.i, y, b, want, s.told)
		}
		blocks[1] = withBits(row(0, b+1)...)
		for k, m := range s.numbers {
			blocks[k] = withNumbers(m)
		}
		if l := differ(blocks, all(t, x, 20)); len(l) > 0 {
			t.Fatalf("Grow of %d: blocks %v are others", s.i, l)
		}
		// Once more: there already, and nothing is written.
		if z, c, e := a.Grow(y, s.i); z != y || c != b || e != api.OK {
			t.Fatalf("Grow of %d once more: %v, %d, error %d", s.i, z, c, e)
		}
		if l := differ(blocks, all(t, x, 20)); len(l) > 0 {
			t.Fatalf("Grow of %d once more: blocks %v are others", s.i, l)
		}
		n = y
	}
	left(t, a, 3, 4)
}

// What is there is told, whatever number it has, and nothing is taken.
func TestGrowOfWhatIsThere(t *testing.T) {
	a, x := made(t, 40, 6)
	n, want := atop(t, x)
	was := all(t, x, 40)
	for i, b := range want {
		if y, c, e := a.Grow(n, i); y != n || c != b || e != api.OK {
			t.Fatalf("Grow of %d: %v, %d, error %d", i, y, c, e)
		}
	}
	for _, i := range noBlocks() {
		noGrow(t, a, n, i, api.ErrBig)
	}
	noGrow(t, a, inode.Inode{Single: 40}, 3, api.ErrRange)
	noGrow(t, a, inode.Inode{Double: 65535}, 83, api.ErrRange)
	if l := differ(was, all(t, x, 40)); len(l) > 0 {
		t.Errorf("blocks %v were written", l)
	}
}

// Blocks that are used up in the midst: what was taken so far stays.
func TestGrowWithoutSpace(t *testing.T) {
	for _, s := range []struct{ i, needs int }{{0, 1}, {2, 1}, {3, 2}, {82, 2}, {83, 3}, {6482, 3}} {
		for free := range s.needs {
			a, x := made(t, 20, 6)
			lay(t, x, 1, withBits(row(0, 20-free)...))
			noGrow(t, a, inode.Inode{Kind: inode.File}, s.i, api.ErrSpace)
			left(t, a, 0, 4)
			if free == 2 {
				if want := withNumbers(map[int]int{(s.i - 83) / 80: 19}); !bytes.Equal(raw(t, x, 18), want) {
					t.Errorf("%d: the number isn't there", s.i)
				}
			}
		}
		a, x := made(t, 20, 6)
		lay(t, x, 1, withBits(row(0, 20-s.needs)...))
		grow(t, a, inode.Inode{Kind: inode.File}, s.i)
		left(t, a, 0, 4)
	}
}

// A change that may write too few: the bits, then the block, then what is in it.
func TestGrowOfTooFew(t *testing.T) {
	for limit := 1; limit < 4; limit++ {
		a, x := limited(t, 20, 6, limit, func(a *Access) {})
		noGrow(t, a, inode.Inode{}, 83, api.ErrFull)
		if l := bitsOf(raw(t, x, 1)); !slices.Equal(l, row(0, 5+limit)) {
			t.Errorf("limit %d: the bits are %v", limit, l)
		}
	}
	a, _ := limited(t, 20, 6, 4, func(a *Access) {})
	grow(t, a, inode.Inode{}, 83)
	// What is there already writes nothing.
	var n inode.Inode
	a, _ = limited(t, 20, 6, 1, func(a *Access) { n = grown(t, a, 83, 6482) })
	must(t, a.Write(19, some(1)), api.OK)
	grow(t, a, n, 83)
	grow(t, a, n, 6482)
	noGrow(t, a, n, 84, api.ErrFull)
	finds(t, a, n, 84, 0)
}

// sample are a file's blocks that reach all kinds of numbers; taken in this order, from 5 on, they are: 0: 5, 2: 6, Single: 7, 3: 8, 5: 9, 82: 10, Double: 11, its place 0: 12, 83: 13, 84: 14, 162: 15, its place 1: 16, 163: 17, its place 79: 18, 6482: 19.
var sample = []int{0, 2, 3, 5, 82, 83, 84, 162, 163, 6482}

// released are the blocks of the sample in the order in which Shrink releases them, each with the block of the file that it stands for; a block of numbers stands for the first one of its places that is there.
var released = []struct{ block, stands int }{
	{5, 0}, {6, 2}, {8, 3}, {9, 5}, {10, 82}, {7, 3}, {13, 83}, {14, 84}, {15, 162}, {12, 83}, {17, 163}, {16, 163}, {19, 6482}, {18, 6482}, {11, 83},
}

// cutOf are the blocks that Shrink to i releases, in its order.
func cutOf(i int) []int {
	var out []int
	for _, r := range released {
		if r.stands >= i {
			out = append(out, r.block)
		}
	}
	return out
}

// without are the numbers 0 to count less 1 but these.
func without(count int, gone []int) []int {
	return slices.DeleteFunc(row(0, count), func(i int) bool { return slices.Contains(gone, i) })
}

// names are the sample's inode, and its blocks of numbers, if these are gone.
func names(gone []int) (inode.Inode, map[int][]byte) {
	x := inode.Inode{Kind: inode.File, Links: 7, Size: 12345}
	has := func(b int) int {
		if slices.Contains(gone, b) {
			return 0
		}
		return b
	}
	x.Blocks = [3]uint16{uint16(has(5)), 0, uint16(has(6))}
	x.Single, x.Double = uint16(has(7)), uint16(has(11))
	return x, map[int][]byte{
		7:  withNumbers(map[int]int{0: has(8), 2: has(9), 79: has(10)}),
		11: withNumbers(map[int]int{0: has(12), 1: has(16), 79: has(18)}),
		12: withNumbers(map[int]int{0: has(13), 1: has(14), 79: has(15)}),
		16: withNumbers(map[int]int{0: has(17)}),
		18: withNumbers(map[int]int{79: has(19)}),
	}
}

// after are all blocks of the sample, if these are gone.
func after(was [][]byte, gone []int) [][]byte {
	out := slices.Clone(was)
	out[1] = withBits(without(20, gone)...)
	_, numbers := names(gone)
	for block, b := range numbers {
		out[block] = b
	}
	return out
}

func TestShrink(t *testing.T) {
	cuts := []int{0, 1, 2, 3, 4, 5, 6, 7, 40, 81, 82, 83, 84, 85, 86, 161, 162, 163, 164, 242, 243, 244, 1000, 6400, 6402, 6403, 6404, 6481, 6482, 6483, 6484, 10000, 1 << 32, math.MaxInt - 1, math.MaxInt}
	for _, i := range cuts {
		a, x := made(t, 20, 6)
		n := grown(t, a, sample...)
		for _, b := range []int{5, 6, 8, 9, 10, 13, 14, 15, 17, 19} {
			lay(t, x, b, some(b))
		}
		if want, _ := names(nil); n != want {
			t.Fatalf("the sample is %v, not %v", n, want)
		}
		left(t, a, 0, 4)
		was := all(t, x, 20)
		if len(differ(was, after(was, nil))) > 0 {
			t.Fatal("the sample's blocks are others")
		}
		gone := cutOf(i)
		want, _ := names(gone)
		shrink(t, a, n, i, want)
		left(t, a, len(gone), 4)
		// Numbers of what is released are 0 where they stood, even in blocks that were released themselves; all other bytes are as they were.
		if l := differ(after(was, gone), all(t, x, 20)); len(l) > 0 {
			t.Fatalf("Shrink to %d: blocks %v are others", i, l)
		}
		for k, j := range sample {
			at := []int{5, 6, 8, 9, 10, 13, 14, 15, 17, 19}[k]
			if j >= i {
				at = 0
			}
			finds(t, a, want, j, at)
		}
	}
}

func TestShrinkBelow0(t *testing.T) {
	a, x := made(t, 20, 6)
	n := grown(t, a, sample...)
	was := all(t, x, 20)
	for _, i := range far {
		if i < 0 {
			noShrink(t, a, n, i, api.ErrRange)
			noShrink(t, a, inode.Inode{}, i, api.ErrRange)
		}
	}
	if l := differ(was, all(t, x, 20)); len(l) > 0 {
		t.Errorf("blocks %v were written", l)
	}
}

// One block after the other can't be released: those ahead of it are, and their numbers are 0; those behind it aren't.
func TestShrinkGoesOneByOne(t *testing.T) {
	for _, i := range []int{0, 3, 4, 83, 84, 163, 6482} {
		gone := cutOf(i)
		for k, b := range gone {
			a, x := made(t, 20, 6)
			n := grown(t, a, sample...)
			was := all(t, x, 20)
			clearBit(t, x, 1, b)
			noShrink(t, a, n, i, api.ErrArg)
			want := after(was, gone[:k])
			want[1] = withBits(without(20, gone[:k+1])...)
			if l := differ(want, all(t, x, 20)); len(l) > 0 {
				t.Errorf("Shrink to %d, without %d: blocks %v are others", i, b, l)
			}
		}
	}
}

// A change that may write too few: the bits, and then the blocks of numbers, in the order in which theirs are released.
func TestShrinkOfTooFew(t *testing.T) {
	order := []int{1, 7, 12, 11, 16, 18}
	for limit := 1; limit <= len(order); limit++ {
		var n inode.Inode
		a, x := limited(t, 20, 6, limit, func(a *Access) { n = grown(t, a, sample...) })
		was := all(t, x, 20)
		if limit == len(order) {
			want, _ := names(cutOf(0))
			shrink(t, a, n, 0, want)
		} else {
			noShrink(t, a, n, 0, api.ErrFull)
		}
		l := slices.Sorted(slices.Values(order[:limit]))
		if got := differ(was, all(t, x, 20)); !slices.Equal(got, l) {
			t.Errorf("limit %d: blocks %v were written, not %v", limit, got, l)
		}
	}
	// What stays writes nothing.
	var n inode.Inode
	a, x := limited(t, 20, 6, 1, func(a *Access) { n = grown(t, a, sample...) })
	lay(t, x, 19, some(1))
	shrink(t, a, n, 6483, n)
}

// Blocks of numbers of which all are 0 already are released, wherever they stand; others stay.
func TestShrinkOfEmptyOnes(t *testing.T) {
	for _, i := range []int{0, 1, 3, 83, 200, 6483, math.MaxInt} {
		a, x := made(t, 20, 6)
		for b := 5; b < 9; b++ {
			alloc(t, a, b)
		}
		lay(t, x, 6, withNumbers(map[int]int{0: 7, 79: 8}))
		shrink(t, a, inode.Inode{Kind: inode.Dir, Size: 5, Single: 5, Double: 6}, i, inode.Inode{Kind: inode.Dir, Size: 5})
		left(t, a, 15, 4)
		if !bytes.Equal(raw(t, x, 6), blank()) {
			t.Error("its numbers aren't 0")
		}
	}
	// One of Double's is left: so are both, and the other one isn't.
	a, x := made(t, 20, 6)
	n := grown(t, a, 83+80, 83+160)
	lay(t, x, int(n.Double), withNumbers(map[int]int{1: 6, 2: 8, 3: 10}))
	alloc(t, a, 10)
	left(t, a, 9, 4)
	shrink(t, a, n, 6483, n)
	left(t, a, 10, 4)
	if want := withNumbers(map[int]int{1: 6, 2: 8}); !bytes.Equal(raw(t, x, 5), want) {
		t.Error("Double's numbers are others")
	}
	shrink(t, a, n, 83+160, n)
	left(t, a, 12, 4)
	if want := withNumbers(map[int]int{1: 6}); !bytes.Equal(raw(t, x, 5), want) {
		t.Error("Double's numbers are others")
	}
	want := n
	want.Double = 0
	shrink(t, a, n, 84, want)
	left(t, a, 15, 4)
}

// Numbers of blocks that can't be released, or aren't there.
func TestShrinkOfBlocksThatThereArent(t *testing.T) {
	a, x := made(t, 20, 6)
	for _, b := range []uint16{1, 4, 20, 1024, 65535} {
		noShrink(t, a, inode.Inode{Blocks: [3]uint16{b}}, 0, api.ErrRange)
		shrink(t, a, inode.Inode{Blocks: [3]uint16{b}}, 1, inode.Inode{Blocks: [3]uint16{b}})
	}
	noShrink(t, a, inode.Inode{Blocks: [3]uint16{5}}, 0, api.ErrArg)
	noShrink(t, a, inode.Inode{Single: 20}, 500, api.ErrRange)
	noShrink(t, a, inode.Inode{Double: 65535}, 7000, api.ErrRange)
	noShrink(t, a, inode.Inode{Single: 5}, 500, api.ErrArg)
	alloc(t, a, 5)
	lay(t, x, 5, withNumbers(map[int]int{3: 20}))
	noShrink(t, a, inode.Inode{Single: 5}, 0, api.ErrRange)
	noShrink(t, a, inode.Inode{Double: 5}, 7000, api.ErrRange)
	left(t, a, 14, 4)
	// A block of numbers that stands in itself comes to an end.
	lay(t, x, 5, withNumbers(map[int]int{0: 5, 1: 5}))
	noShrink(t, a, inode.Inode{Single: 5, Double: 5}, 0, api.ErrArg)
}

// P20.5

// draws are numbers by chance, the same ones each time.
type draws struct{ x uint64 }

func (r *draws) below(n int) int {
	r.x = r.x*6364136223846793005 + 1442695040888963407
	return int(r.x>>33) % n
}

// place is a block of a file, near the edges as often as not.
func (r *draws) place() int {
	edges := []int{0, 1, 2, 3, 4, 81, 82, 83, 84, 162, 163, 164, 242, 243, 6402, 6403, 6481, 6482}
	if r.below(2) == 0 {
		return edges[r.below(len(edges))]
	}
	return r.below(6483)
}

// file is a file as the promises tell it: where its blocks are, and its blocks of numbers by what they stand for, -1 being Single's, -2 Double's, and else Double's places.
type file struct {
	inode   inode.Inode
	data    map[int]int
	numbers map[int]int
}

// above are the blocks of numbers on the way to a file's block.
func above(i int) []int {
	switch {
	case i < 3:
		return nil
	case i < 83:
		return []int{-1}
	}
	return []int{-2, (i - 83) / 80}
}

// grow takes what isn't there, the lowest free ones; false: there weren't enough.
func (f file) grow(used []bool, from, i int) (inode.Inode, bool) {
	take := func(m map[int]int, k int) bool {
		if _, ok := m[k]; ok {
			return true
		}
		for b := from; b < len(used); b++ {
			if !used[b] {
				used[b], m[k] = true, b
				return true
			}
		}
		return false
	}
	for _, k := range above(i) {
		if !take(f.numbers, k) {
			return inode.Inode{}, false
		}
	}
	ok := take(f.data, i)
	return f.told(), ok
}

// shrink gives back all from i on, and blocks of numbers that nothing needs any more.
func (f file) shrink(used []bool, i int) inode.Inode {
	for j, b := range f.data {
		if j >= i {
			used[b] = false
			delete(f.data, j)
		}
	}
	needed := map[int]int{}
	for j := range f.data {
		for _, k := range above(j) {
			needed[k]++
		}
	}
	for k, b := range f.numbers {
		if needed[k] == 0 {
			used[b] = false
			delete(f.numbers, k)
		}
	}
	return f.told()
}

// told is the inode.
func (f file) told() inode.Inode {
	x := f.inode
	x.Blocks = [3]uint16{uint16(f.data[0]), uint16(f.data[1]), uint16(f.data[2])}
	x.Single, x.Double = uint16(f.numbers[-1]), uint16(f.numbers[-2])
	return x
}

// A few files grow and shrink by chance: each block is found where it was taken, none is taken twice, and as many are free as there should be.
func TestFilesByChance(t *testing.T) {
	for seed := range 12 {
		r := &draws{uint64(seed)}
		count := 24 + 30*seed
		a, _ := made(t, count, 6)
		used := make([]bool, count)
		var files []file
		var now []inode.Inode
		for k := range 4 {
			x := inode.Inode{Kind: byte(k), Links: uint16(k), Size: uint32(seed)}
			files, now = append(files, file{x, map[int]int{}, map[int]int{}}), append(now, x)
		}
		for step := range 250 {
			k, i := r.below(4), r.place()
			if r.below(12) == 0 {
				want := files[k].shrink(used, i)
				shrink(t, a, now[k], i, want)
				now[k] = want
			} else if want, ok := files[k].grow(used, 5, i); ok {
				y, b := grow(t, a, now[k], i)
				if y != want || b != files[k].data[i] {
					t.Fatalf("seed %d, step %d: Grow of %d: %v, %d, not %v, %d", seed, step, i, y, b, want, files[k].data[i])
				}
				now[k] = want
			} else {
				// What was taken in the midst is lost to the file; all of them are made anew.
				noGrow(t, a, now[k], i, api.ErrSpace)
				must(t, a.Make(), api.OK)
				clear(used)
				for k, f := range files {
					clear(f.data)
					clear(f.numbers)
					now[k] = f.inode
				}
			}
			holdFiles(t, a, files, now, used)
		}
		for k := range files {
			shrink(t, a, now[k], 0, files[k].inode)
		}
		left(t, a, count-5, 4)
	}
}

// holdFiles holds what is found, and how much is free.
func holdFiles(t *testing.T, a *Access, files []file, now []inode.Inode, used []bool) {
	t.Helper()
	taken := map[int]int{}
	for k, f := range files {
		for i, b := range f.data {
			finds(t, a, now[k], i, b)
			taken[b]++
		}
		for _, b := range f.numbers {
			taken[b]++
		}
		for _, i := range []int{0, 2, 3, 82, 83, 163, 6482} {
			finds(t, a, now[k], i, f.data[i])
		}
	}
	for b, n := range taken {
		if n > 1 || !used[b] {
			t.Fatalf("block %d is taken %d times", b, n)
		}
	}
	left(t, a, len(used)-5-len(taken), 4)
}

// One file has all blocks of the greatest file system, so that numbers have both of their bytes.
func TestAllBlocks(t *testing.T) {
	a, _ := made(t, 1024, 2)
	f := file{inode.Inode{Kind: inode.File}, map[int]int{}, map[int]int{}}
	used := make([]bool, 1024)
	n := f.inode
	for i := 0; ; i += 5 - i%4 {
		want, ok := f.grow(used, 4, i)
		if !ok {
			noGrow(t, a, n, i, api.ErrSpace)
			break
		}
		y, b := grow(t, a, n, i)
		if y != want || b != f.data[i] {
			t.Fatalf("Grow of %d: %v, %d, not %v, %d", i, y, b, want, f.data[i])
		}
		n = want
	}
	if n.Double < 1 || f.numbers[12] < 256 {
		t.Fatal("the file is too small")
	}
	left(t, a, 0, 0)
	for i := range 6483 {
		finds(t, a, n, i, f.data[i])
	}
}

// What was committed is found by a later change.
func TestLaterChanges(t *testing.T) {
	var n inode.Inode
	a, _ := limited(t, 40, 6, 40, func(a *Access) {
		n = grown(t, a, sample...)
		newInode(t, a, n, 2)
	})
	isInode(t, a, 2, n)
	left(t, a, 20, 3)
	for k, i := range sample {
		finds(t, a, n, i, []int{5, 6, 8, 9, 10, 13, 14, 15, 17, 19}[k])
	}
	shrink(t, a, n, 0, inode.Inode{Kind: inode.File, Links: 7, Size: 12345})
	must(t, a.Forget(2), api.OK)
	left(t, a, 35, 4)
}

// Nothing handed in (rule 1)

// callAll asks for each call with numbers of all kinds; what is answered is free, but for a panic.
func callAll(a *Access) {
	a.Make()
	a.Left()
	a.Alloc()
	a.NewInode(full)
	for _, i := range append([]int{0, 1, 2, 3, 5, 82, 83, 6482}, far...) {
		a.Read(i)
		a.Write(i, nil)
		a.Write(i, blank())
		a.Release(i)
		a.Inode(i)
		a.SetInode(i, full)
		a.Forget(i)
		for _, x := range []inode.Inode{{}, full, {Blocks: [3]uint16{5, 5, 5}, Single: 5, Double: 5}, {Single: 1, Double: 2}} {
			a.Find(x, i)
			a.Grow(x, i)
			a.Shrink(x, i)
		}
	}
}

func TestNothingHandedIn(t *testing.T) {
	callAll(nil)
	callAll(New(nil, plan(t, 20, 6)))
	callAll(New(nil, layout.Layout{}))
	callAll(&Access{})
	callAll(new(Access))
}

// Layouts that there aren't.
func TestOtherLayouts(t *testing.T) {
	a := New(begun(t, 20, 20), layout.Layout{})
	noAlloc(t, a, api.ErrSpace)
	noNewInode(t, a, api.ErrSpace)
	left(t, a, 0, 0)
	noInode(t, a, 1, api.ErrRange)
	must(t, a.Release(0), api.ErrRange)
	// One of more blocks and inodes than there are bits.
	a = New(begun(t, 20, 20), layout.Layout{Blocks: 5000, Inodes: 5000, Table: 3, Data: 5})
	left(t, a, 1275, 1279)
	alloc(t, a, 5)
	must(t, a.Release(1280), api.ErrRange)
	for _, n := range append([]int{0, 1, 5, 20}, far...) {
		for _, m := range append([]int{0, 1, 5, 20}, far...) {
			for _, l := range []layout.Layout{
				{Blocks: n, Inodes: 6, Table: 3, Data: m}, {Blocks: 20, Inodes: n, Table: m, Data: 5}, {Blocks: n, Inodes: n, Table: m, Data: m},
			} {
				x := begun(t, 20, 20)
				callAll(New(x, l))
				must(t, x.Abort(), api.OK)
			}
		}
	}
}
