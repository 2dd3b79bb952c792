package layout

import (
	"bytes"
	"encoding/binary"
	"math"
	"slices"
	"testing"

	"reliquary/api"
)

// The calls as chapter 17 lists them: this doesn't build if a signature, a field, or the number of a block at a fixed place is another one.
var (
	_ func(int, int) (Layout, api.Errno)        = New
	_ func(Layout) []byte                       = Put
	_ func([]byte) (Layout, api.Errno)          = Get
	_ func(Layout, int) (int, int, api.Errno)   = Layout.Inode
	_ struct{ Blocks, Inodes, Table, Data int } = Layout{}
	_ [0]struct{}                               = [Super]struct{}{}
	_ [1]struct{}                               = [Used]struct{}{}
	_ [2]struct{}                               = [Taken]struct{}{}
	_ [3]struct{}                               = [Tables]struct{}{}
)

// far are numbers that nothing of a layout has.
var far = []int{
	math.MinInt, math.MinInt + 1, math.MinInt64 / 2, math.MinInt32, -1024, -500, -160, -32, -20, -10, -8, -5, -3, -2, -1,
	1025, 4096, 1 << 16, math.MaxInt32, math.MaxInt32 + 1, math.MaxUint32, 1 << 32, 1<<32 + 8, 1<<32 + 20, 1<<32 + 500,
	1 << 62, math.MaxInt - 4, math.MaxInt - 3, math.MaxInt - 1, math.MaxInt,
}

// known are layouts reckoned by hand.
var known = []Layout{
	{Blocks: 20, Inodes: 10, Table: 3, Data: 5},
	{Blocks: 30, Inodes: 8, Table: 3, Data: 5},
	{Blocks: 8, Inodes: 2, Table: 3, Data: 4},
	{Blocks: 8, Inodes: 5, Table: 3, Data: 4},
	{Blocks: 8, Inodes: 6, Table: 3, Data: 5},
	{Blocks: 8, Inodes: 15, Table: 3, Data: 6},
	{Blocks: 8, Inodes: 16, Table: 3, Data: 7},
	{Blocks: 8, Inodes: 20, Table: 3, Data: 7},
	{Blocks: 9, Inodes: 21, Table: 3, Data: 8},
	{Blocks: 9, Inodes: 25, Table: 3, Data: 8},
	{Blocks: 104, Inodes: 496, Table: 3, Data: 103},
	{Blocks: 104, Inodes: 500, Table: 3, Data: 103},
	{Blocks: 256, Inodes: 256, Table: 3, Data: 55},
	{Blocks: 1023, Inodes: 499, Table: 3, Data: 103},
	{Blocks: 1024, Inodes: 2, Table: 3, Data: 4},
	{Blocks: 1024, Inodes: 500, Table: 3, Data: 103},
}

// spot is where an inode stands.
type spot struct{ block, at int }

// laid are the places of the numbers 0 to inodes less 1, laid down one behind the other as the chapter's words tell it.
func laid(inodes int) []spot {
	out := make([]spot, 0, inodes)
	s := spot{block: 3}
	for range inodes {
		out = append(out, s)
		if s.at += 32; s.at == 160 {
			s = spot{block: s.block + 1}
		}
	}
	return out
}

// of is the layout of so many blocks and inodes, which must be one.
func of(t *testing.T, blocks, inodes int) Layout {
	t.Helper()
	l, e := New(blocks, inodes)
	if e != api.OK {
		t.Fatalf("New of %d, %d: error %d", blocks, inodes, e)
	}
	return l
}

// refused holds that New tells ErrArg, and nothing beside it.
func refused(t *testing.T, blocks, inodes int) {
	t.Helper()
	if l, e := New(blocks, inodes); l != (Layout{}) || e != api.ErrArg {
		t.Fatalf("New of %d, %d: %v, error %d", blocks, inodes, l, e)
	}
}

// each goes through all layouts that there are, with where their inodes stand.
func each(t *testing.T, do func(l Layout, spots []spot)) {
	t.Helper()
	for inodes := 2; inodes <= 500; inodes++ {
		spots := laid(inodes)
		for blocks := spots[inodes-1].block + 2; blocks <= 1024; blocks++ {
			if blocks >= 8 {
				do(of(t, blocks, inodes), spots)
			}
		}
	}
}

// noInode holds that Inode tells ErrRange, and nothing beside it.
func noInode(t *testing.T, l Layout, n int) {
	t.Helper()
	if b, at, e := l.Inode(n); b != 0 || at != 0 || e != api.ErrRange {
		t.Fatalf("%v: Inode of %d: %d, %d, error %d", l, n, b, at, e)
	}
}

// standsAt holds that an inode is told to stand there.
func standsAt(t *testing.T, l Layout, n int, want spot) {
	t.Helper()
	if b, at, e := l.Inode(n); (spot{b, at}) != want || e != api.OK {
		t.Fatalf("%v: Inode of %d: %d, %d, error %d, not %v", l, n, b, at, e, want)
	}
}

// told are the first block's bytes with these two numbers, laid down by the test.
func told(blocks, inodes uint32) []byte {
	out := make([]byte, 160)
	copy(out, []byte{'R', 'L', 'Q', '1'})
	binary.LittleEndian.PutUint32(out[4:], blocks)
	binary.LittleEndian.PutUint32(out[8:], inodes)
	return out
}

// got holds that Get tells this layout.
func got(t *testing.T, b []byte, want Layout) {
	t.Helper()
	if l, e := Get(b); l != want || e != api.OK {
		t.Fatalf("Get of %v: %v, error %d, not %v", b, l, e, want)
	}
}

// notGot holds that Get tells ErrForm, and nothing beside it.
func notGot(t *testing.T, b []byte) {
	t.Helper()
	if l, e := Get(b); l != (Layout{}) || e != api.ErrForm {
		t.Fatalf("Get of %v: %v, error %d", b, l, e)
	}
}

// gotIfNew holds that Get tells what New does of the numbers that the test laid down, or else ErrForm.
func gotIfNew(t *testing.T, b []byte, blocks, inodes uint32) {
	t.Helper()
	if l, e := New(int(blocks), int(inodes)); e == api.OK {
		got(t, b, l)
	} else {
		notGot(t, b)
	}
}

// Section 'Words'

func TestBlocksAtFixedPlaces(t *testing.T) {
	if Super != 0 || Used != 1 || Taken != 2 || Tables != 3 {
		t.Errorf("Super %d, Used %d, Taken %d, Tables %d", Super, Used, Taken, Tables)
	}
}

// A bit of each block, and one of each inode, have room in a block: those of the greatest layout have.
func TestBitsHaveRoom(t *testing.T) {
	l := of(t, 1024, 500)
	if l.Blocks > 8*api.Block || l.Inodes > 8*api.Block {
		t.Errorf("%v", l)
	}
	for n := 8*api.Block + 1; n <= 8*api.Block+9; n++ {
		refused(t, n, 10)
		refused(t, 1024, n)
	}
}

// P17.1: New.

// The chapter's example.
func TestNewOfTheExample(t *testing.T) {
	if l := of(t, 20, 10); l.Table != 3 || l.Data != 5 {
		t.Errorf("New of 20, 10: %v", l)
	}
}

func TestKnownLayouts(t *testing.T) {
	for _, want := range known {
		if l := of(t, want.Blocks, want.Inodes); l != want {
			t.Errorf("New of %d, %d: %v, not %v", want.Blocks, want.Inodes, l, want)
		}
	}
}

// All numbers in and about the ends, held against inodes that are laid down one by one.
func TestEveryLayout(t *testing.T) {
	for inodes := -3; inodes <= 510; inodes++ {
		data := 0
		if inodes >= 1 {
			data = laid(inodes)[inodes-1].block + 1
		}
		for blocks := -3; blocks <= 1040; blocks++ {
			if blocks < 8 || blocks > 1024 || inodes < 2 || inodes > 500 || data > blocks-1 {
				refused(t, blocks, inodes)
				continue
			}
			want := Layout{Blocks: blocks, Inodes: inodes, Table: 3, Data: data}
			if l := of(t, blocks, inodes); l != want {
				t.Fatalf("New of %d, %d: %v, not %v", blocks, inodes, l, want)
			}
		}
	}
}

func TestNewAtTheEndsOfBlocks(t *testing.T) {
	for _, inodes := range []int{2, 5, 10, 20} {
		refused(t, 7, inodes)
		of(t, 8, inodes)
		of(t, 1024, inodes)
		refused(t, 1025, inodes)
	}
}

func TestNewAtTheEndsOfInodes(t *testing.T) {
	for _, blocks := range []int{104, 500, 1024} {
		refused(t, blocks, 0)
		refused(t, blocks, 1)
		of(t, blocks, 2)
		of(t, blocks, 500)
		refused(t, blocks, 501)
	}
}

// There must be a block behind the inodes, and one is enough.
func TestNewWithoutABlockOfData(t *testing.T) {
	for _, x := range []struct{ blocks, inodes int }{
		{8, 21}, {8, 25}, {8, 26}, {8, 500}, {9, 26}, {9, 30}, {103, 496}, {103, 500}, {102, 491}, {50, 236},
	} {
		refused(t, x.blocks, x.inodes)
	}
	for _, x := range []struct{ blocks, inodes int }{{8, 20}, {9, 25}, {10, 30}, {103, 495}, {104, 500}, {50, 230}} {
		if l := of(t, x.blocks, x.inodes); l.Data != l.Blocks-1 {
			t.Errorf("New of %d, %d: %v", x.blocks, x.inodes, l)
		}
	}
}

func TestNewOfFarNumbers(t *testing.T) {
	for _, x := range far {
		for _, y := range []int{0, 2, 8, 10, 500, 1024} {
			refused(t, x, y)
			refused(t, y, x)
		}
		for _, y := range far {
			refused(t, x, y)
		}
	}
}

// Numbers that stand the other way round aren't taken for one another.
func TestNewTakesBlocksFirst(t *testing.T) {
	refused(t, 10, 600)
	of(t, 600, 10)
	refused(t, 4, 8)
	of(t, 8, 4)
}

// P17.1: Inode.

func TestKnownInodes(t *testing.T) {
	for _, x := range []struct{ blocks, inodes, n, block, at int }{
		{20, 10, 1, 3, 32}, {20, 10, 4, 3, 128}, {20, 10, 5, 4, 0}, {20, 10, 6, 4, 32}, {20, 10, 9, 4, 128},
		{8, 2, 1, 3, 32},
		{8, 16, 15, 6, 0},
		{1024, 500, 1, 3, 32}, {1024, 500, 250, 53, 0}, {1024, 500, 494, 101, 128}, {1024, 500, 495, 102, 0}, {1024, 500, 499, 102, 128},
	} {
		standsAt(t, of(t, x.blocks, x.inodes), x.n, spot{x.block, x.at})
	}
}

func TestEveryInode(t *testing.T) {
	for inodes := 2; inodes <= 500; inodes++ {
		spots := laid(inodes)
		for _, blocks := range []int{max(8, spots[inodes-1].block+2), 1024} {
			l := of(t, blocks, inodes)
			for n := 1; n < inodes; n++ {
				standsAt(t, l, n, spots[n])
			}
		}
	}
}

// The number 0 is none; nor are those behind the last one, though their place may be there.
func TestInodesThatAreNotThere(t *testing.T) {
	for inodes := 2; inodes <= 500; inodes++ {
		l := of(t, 1024, inodes)
		for n := inodes; n <= inodes+12; n++ {
			noInode(t, l, n)
		}
		for _, n := range append([]int{0, 500, 501, 512, 1000, 1024}, far...) {
			noInode(t, l, n)
		}
	}
}

// What New tells beside an error has no inode.
func TestNoInodeOfNoLayout(t *testing.T) {
	none, _ := New(7, 1)
	for _, l := range []Layout{none, {}, {Table: 3}, {Blocks: 20, Table: 3, Data: 5}, {Inodes: 1, Table: 3}, {Inodes: -5, Table: 3}, {Inodes: math.MinInt}} {
		for _, n := range append([]int{0, 1, 2, 9}, far...) {
			noInode(t, l, n)
		}
	}
}

// Whatever a layout is that New didn't make: the calls end, and only inodes below its Inodes are there.
func TestLayoutsThatNobodyMade(t *testing.T) {
	wild := []int{math.MinInt, -1, 0, 1, 3, 20, 1 << 32, math.MaxInt}
	for _, blocks := range wild {
		for _, inodes := range wild {
			for _, table := range wild {
				l := Layout{Blocks: blocks, Inodes: inodes, Table: table, Data: blocks}
				for _, n := range append([]int{0, 1, 5, 19}, far...) {
					if _, at, e := l.Inode(n); (e == api.OK) != (n >= 1 && n < inodes) || at < 0 || at > 128 {
						t.Fatalf("%v: Inode of %d: place %d, error %d", l, n, at, e)
					}
				}
				if b := Put(l); len(b) != 160 {
					t.Fatalf("Put of %v: %d bytes", l, len(b))
				}
			}
		}
	}
}

// P17.2: Put.

func TestPutWrittenOut(t *testing.T) {
	for _, x := range []struct {
		blocks, inodes int
		head           []byte
	}{
		{20, 10, []byte{82, 76, 81, 49, 20, 0, 0, 0, 10, 0, 0, 0}},
		{8, 2, []byte{82, 76, 81, 49, 8, 0, 0, 0, 2, 0, 0, 0}},
		{1024, 500, []byte{82, 76, 81, 49, 0, 4, 0, 0, 244, 1, 0, 0}},
		{1023, 257, []byte{82, 76, 81, 49, 255, 3, 0, 0, 1, 1, 0, 0}},
		{256, 255, []byte{82, 76, 81, 49, 0, 1, 0, 0, 255, 0, 0, 0}},
	} {
		b := Put(of(t, x.blocks, x.inodes))
		if len(b) != 160 || !bytes.Equal(b[:12], x.head) || !bytes.Equal(b[12:], make([]byte, 148)) {
			t.Errorf("Put of %d, %d: %v", x.blocks, x.inodes, b)
		}
	}
}

func TestPutOfEveryLayout(t *testing.T) {
	each(t, func(l Layout, _ []spot) {
		if b := Put(l); !bytes.Equal(b, told(uint32(l.Blocks), uint32(l.Inodes))) {
			t.Fatalf("Put of %v: %v", l, b)
		}
	})
}

// Each of a number's four bytes has its place, whether New takes the number or not.
func TestPutOfNumbersOfFourBytes(t *testing.T) {
	b := Put(Layout{Blocks: 0x04030201, Inodes: 0xf8f7f6f5, Table: 99, Data: 98})
	if !bytes.Equal(b, told(0x04030201, 0xf8f7f6f5)) {
		t.Errorf("Put: %v", b)
	}
}

// P17.2: Get.

func TestGetWrittenOut(t *testing.T) {
	for _, want := range known {
		got(t, told(uint32(want.Blocks), uint32(want.Inodes)), want)
	}
}

func TestGetOfAllNumbersAboutTheEnds(t *testing.T) {
	for blocks := range uint32(1040) {
		for inodes := range uint32(510) {
			if inodes < 30 || inodes > 480 || blocks < 120 || blocks > 1010 {
				gotIfNew(t, told(blocks, inodes), blocks, inodes)
			}
		}
	}
}

func TestGetRefusesWhatNewRefuses(t *testing.T) {
	for _, x := range []struct{ blocks, inodes uint32 }{
		{0, 0}, {7, 2}, {7, 10}, {1025, 10}, {20, 0}, {20, 1}, {1024, 501}, {8, 21}, {8, 25}, {103, 500},
		{math.MaxUint32, 10}, {20, math.MaxUint32}, {math.MaxInt32, 10}, {1 << 31, 10}, {20, 1 << 31}, {1<<31 + 20, 1<<31 + 10},
		{math.MaxUint32, math.MaxUint32}, {1<<16 + 20, 10}, {20, 1<<16 + 10}, {1<<24 + 20, 10}, {20, 1<<24 + 10},
	} {
		notGot(t, told(x.blocks, x.inodes))
	}
}

func TestGetOfOtherLengths(t *testing.T) {
	long := append(told(20, 10), make([]byte, 240)...)
	for n := range len(long) + 1 {
		if n == 160 {
			continue
		}
		// The capacity goes on behind the end: only the length may count.
		notGot(t, long[:n])
		notGot(t, slices.Clone(long[:n]))
	}
	notGot(t, nil)
	notGot(t, []byte{})
	got(t, long[:160], of(t, 20, 10))
}

func TestGetRefusesAnyOtherMark(t *testing.T) {
	for i := range 4 {
		for x := 1; x < 256; x++ {
			b := told(20, 10)
			b[i] ^= byte(x)
			notGot(t, b)
		}
	}
	for _, m := range []string{"rlq1", "RLQ0", "RLQ2", "1QLR", "RLQ\x01", "LRQ1", "\x00\x00\x00\x00"} {
		b := told(20, 10)
		copy(b, m)
		notGot(t, b)
	}
}

func TestGetRefusesWhatIsNoNoughtBehind(t *testing.T) {
	for i := 12; i < 160; i++ {
		for x := 1; x < 256; x++ {
			b := told(20, 10)
			b[i] = byte(x)
			notGot(t, b)
		}
	}
	// Two that together are nought, or cover each other.
	b := told(20, 10)
	b[12], b[159] = 128, 128
	notGot(t, b)
	b[12], b[159] = 1, 255
	notGot(t, b)
}

// Each byte of both numbers counts.
func TestGetOfAnyByteOfTheNumbers(t *testing.T) {
	for i := 4; i < 12; i++ {
		for x := range 256 {
			for _, base := range [][]byte{told(20, 10), told(1024, 500), told(300, 300)} {
				base[i] = byte(x)
				gotIfNew(t, base, binary.LittleEndian.Uint32(base[4:]), binary.LittleEndian.Uint32(base[8:]))
			}
		}
	}
}

// What stands in a block that was never written is no layout.
func TestGetOfOneByteAlone(t *testing.T) {
	for x := range 256 {
		notGot(t, bytes.Repeat([]byte{byte(x)}, 160))
	}
}

func TestGetWithinALongerRow(t *testing.T) {
	long := slices.Concat([]byte{1, 2, 3}, told(20, 10), []byte{4, 5, 6})
	got(t, long[3:163], of(t, 20, 10))
	notGot(t, long[2:162])
	notGot(t, long[4:164])
}

// P17.3

func TestWhatIsPutIsGot(t *testing.T) {
	each(t, func(l Layout, _ []spot) { got(t, Put(l), l) })
}

func TestWhatIsGotIsPutAsItWas(t *testing.T) {
	taken := 0
	for blocks := range uint32(1100) {
		for inodes := uint32(0); inodes < 520; inodes += 7 {
			b := told(blocks, inodes)
			l, e := Get(b)
			if e != api.OK {
				continue
			}
			taken++
			if again := Put(l); !bytes.Equal(again, b) {
				t.Fatalf("Put of Get of %v: %v", b, again)
			}
		}
	}
	if taken == 0 {
		t.Error("Get takes nothing")
	}
}

func TestLayoutsThatPartHaveOtherBytes(t *testing.T) {
	seen := map[[160]byte]Layout{}
	for blocks := 110; blocks <= 1024; blocks += 3 {
		for inodes := 2; inodes <= 500; inodes += 5 {
			l := of(t, blocks, inodes)
			b := [160]byte(Put(l))
			if other, ok := seen[b]; ok {
				t.Fatalf("%v and %v have the same bytes", l, other)
			}
			seen[b] = l
		}
	}
}

// Not one byte is of two inodes; all of them are ahead of the data and behind the blocks at fixed places.
func TestNoTwoInodesStandAtOnePlace(t *testing.T) {
	for inodes := 2; inodes <= 500; inodes++ {
		l := of(t, 1024, inodes)
		taken := make([]int, 160*l.Data)
		for n := 1; n < inodes; n++ {
			b, at, e := l.Inode(n)
			if e != api.OK || b <= Taken || b < l.Table || b >= l.Data || at < 0 || at+32 > 160 {
				t.Fatalf("%v: Inode of %d: %d, %d, error %d", l, n, b, at, e)
			}
			for i := range 32 {
				if other := taken[160*b+at+i]; other != 0 {
					t.Fatalf("%v: inodes %d and %d stand at %d, %d", l, n, other, b, at)
				}
				taken[160*b+at+i] = n
			}
		}
	}
}

// No block of inodes is there in vain: the last one stands in the block ahead of the data.
func TestDataStandsRightBehindTheInodes(t *testing.T) {
	for inodes := 2; inodes <= 500; inodes++ {
		l := of(t, 1024, inodes)
		if b, _, e := l.Inode(inodes - 1); b != l.Data-1 || e != api.OK {
			t.Fatalf("%v: the last inode stands in %d, error %d", l, b, e)
		}
	}
}

// Where inodes stand doesn't hang on how many blocks there are.
func TestInodesStandTheSameInAnyLayout(t *testing.T) {
	one, other := of(t, 8, 20), of(t, 1024, 500)
	for n := 1; n < 20; n++ {
		b, at, _ := one.Inode(n)
		standsAt(t, other, n, spot{b, at})
	}
}

// Memory of their own (section 'Words' of the document)

func TestPutTellsNewMemory(t *testing.T) {
	l := of(t, 20, 10)
	one, other := Put(l), Put(l)
	_ = append(one, 9, 9, 9)
	for i := range one {
		one[i] ^= 255
	}
	if want := told(20, 10); !bytes.Equal(other, want) || !bytes.Equal(Put(l), want) {
		t.Error("two answers share memory")
	}
}

func TestGetChangesNothing(t *testing.T) {
	wrong := told(20, 10)
	wrong[100] = 1
	for _, b := range [][]byte{told(20, 10), told(7, 1), wrong, make([]byte, 160), make([]byte, 159)} {
		room := append(slices.Clone(b), 7, 7, 7)
		before := slices.Clone(room)
		Get(room[:len(b)])
		if !bytes.Equal(room, before) {
			t.Errorf("Get changed %v", b)
		}
	}
}

func TestTheSameCallsHaveTheSameAnswers(t *testing.T) {
	l := of(t, 20, 10)
	b := Put(l)
	of(t, 1024, 500)
	refused(t, 1, 1)
	notGot(t, make([]byte, 160))
	if of(t, 20, 10) != l || !bytes.Equal(Put(l), b) {
		t.Error("the same call has another answer")
	}
	got(t, b, l)
	standsAt(t, l, 6, spot{4, 32})
}
