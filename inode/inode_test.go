package inode

import (
	"bytes"
	"encoding/binary"
	"math"
	"slices"
	"testing"

	"reliquary/api"
)

// The calls, the type and the constants as chapter 19 lists them: this doesn't build if one of them is another one, or if a constant has a type of its own.
var (
	_ func(Inode) []byte                = Put
	_ func([]byte) (Inode, api.Errno)   = Get
	_ func(int) (int, []int, api.Errno) = Road
	_ [0]struct{}                       = [Free]struct{}{}
	_ [1]struct{}                       = [File]struct{}{}
	_ [2]struct{}                       = [Dir]struct{}{}
	_ [3]struct{}                       = [Link]struct{}{}
	_ [3]struct{}                       = [Direct]struct{}{}
	_ [80]struct{}                      = [Fan]struct{}{}
	_ [6483]struct{}                    = [Most]struct{}{}
	_                                   = []byte{Free, File, Dir, Link}
	_                                   = []int{Free, File, Dir, Link, Direct, Fan, Most}
	_                                   = []uint64{Free, File, Dir, Link, Direct, Fan, Most}
	_                                   = struct {
		Kind           byte
		Links          uint16
		Size           uint32
		Blocks         [Direct]uint16
		Single, Double uint16
	}(Inode{})
)

// far are numbers of no block that any file has.
var far = []int{
	math.MinInt, math.MinInt + 1, math.MinInt + 79, math.MinInt + 80, math.MinInt + 83, math.MinInt64 / 2, math.MinInt32 - 1, math.MinInt32,
	-6484, -6483, -6400, -160, -84, -83, -82, -81, -80, -79, -4, -3, -2, -1,
	6483, 6484, 6485, 6560, 6563, 6566, 1 << 13, 1 << 16, 1<<16 + 2, math.MaxInt32, math.MaxInt32 + 1, math.MaxUint32, 1 << 32, 1<<32 + 1, 1<<32 + 84,
	1 << 61, 1 << 62, math.MaxInt - 83, math.MaxInt - 80, math.MaxInt - 1, math.MaxInt,
}

// known are inodes with their bytes, written out by hand; behind these stand noughts.
var known = []struct {
	n    Inode
	head []byte
}{
	{Inode{}, nil},
	{
		Inode{Kind: 1, Links: 2, Size: 258, Blocks: [3]uint16{1, 2, 3}, Single: 4, Double: 5},
		[]byte{1, 0, 2, 0, 2, 1, 0, 0, 1, 0, 2, 0, 3, 0, 4, 0, 5, 0},
	},
	{
		Inode{Kind: 3, Links: 0x0201, Size: 0x06050403, Blocks: [3]uint16{0x0807, 0x0a09, 0x0c0b}, Single: 0x0e0d, Double: 0x100f},
		[]byte{3, 0, 1, 2, 3, 4, 5, 6, 7, 8, 9, 10, 11, 12, 13, 14, 15, 16},
	},
	{
		Inode{Kind: 2, Links: 0xf0e1, Size: 0x8090a0b0, Blocks: [3]uint16{0xff00, 0x00ff, 0x7f80}, Single: 0x807f, Double: 0xfffe},
		[]byte{2, 0, 0xe1, 0xf0, 0xb0, 0xa0, 0x90, 0x80, 0, 0xff, 0xff, 0, 0x80, 0x7f, 0x7f, 0x80, 0xfe, 0xff},
	},
	{Inode{Kind: 2, Links: 2}, []byte{2, 0, 2}},
	{Inode{Kind: 1}, []byte{1}},
	{Inode{Links: 1}, []byte{0, 0, 1}},
	{Inode{Links: 256}, []byte{0, 0, 0, 1}},
	{Inode{Size: 1}, []byte{0, 0, 0, 0, 1}},
	{Inode{Size: 1 << 24}, []byte{0, 0, 0, 0, 0, 0, 0, 1}},
	{Inode{Blocks: [3]uint16{1}}, []byte{0, 0, 0, 0, 0, 0, 0, 0, 1}},
	{Inode{Blocks: [3]uint16{0, 1}}, []byte{0, 0, 0, 0, 0, 0, 0, 0, 0, 0, 1}},
	{Inode{Blocks: [3]uint16{0, 0, 1}}, []byte{0, 0, 0, 0, 0, 0, 0, 0, 0, 0, 0, 0, 1}},
	{Inode{Single: 1}, []byte{0, 0, 0, 0, 0, 0, 0, 0, 0, 0, 0, 0, 0, 0, 1}},
	{Inode{Double: 1}, []byte{0, 0, 0, 0, 0, 0, 0, 0, 0, 0, 0, 0, 0, 0, 0, 0, 1}},
	{Inode{Double: 256}, []byte{0, 0, 0, 0, 0, 0, 0, 0, 0, 0, 0, 0, 0, 0, 0, 0, 0, 1}},
	{
		Inode{Kind: 3, Links: math.MaxUint16, Size: math.MaxUint32, Blocks: [3]uint16{math.MaxUint16, math.MaxUint16, math.MaxUint16}, Single: math.MaxUint16, Double: math.MaxUint16},
		[]byte{3, 0, 255, 255, 255, 255, 255, 255, 255, 255, 255, 255, 255, 255, 255, 255, 255, 255},
	},
}

// behind are these bytes with noughts behind, 32 in all.
func behind(head []byte) []byte {
	out := make([]byte, 32)
	copy(out, head)
	return out
}

// laid are an inode's bytes as the promise's words tell them.
func laid(n Inode) []byte {
	out := []byte{n.Kind, 0}
	out = binary.LittleEndian.AppendUint16(out, n.Links)
	out = binary.LittleEndian.AppendUint32(out, n.Size)
	for _, x := range []uint16{n.Blocks[0], n.Blocks[1], n.Blocks[2], n.Single, n.Double} {
		out = binary.LittleEndian.AppendUint16(out, x)
	}
	return behind(out)
}

// some are inodes of all kinds, without a rule that a fault could hide in.
func some(count int) []Inode {
	x := uint32(19)
	next := func() uint32 {
		x = x*1664525 + 1013904223
		return x >> 16
	}
	number := func() uint16 { return uint16(next()) }
	out := make([]Inode, count)
	for i := range out {
		out[i] = Inode{
			Kind: byte(i % 4), Links: number(), Size: next()<<16 | next(),
			Blocks: [3]uint16{number(), number(), number()}, Single: number(), Double: number(),
		}
	}
	return out
}

// full is an inode of which no byte that may be another one is a nought.
func full() Inode { return known[2].n }

// holdGet asks for an answer of Get; it holds that what was handed in is as it was.
func holdGet(t *testing.T, b []byte, want Inode) {
	t.Helper()
	early := slices.Clone(b)
	if n, e := Get(b); n != want || e != api.OK {
		t.Fatalf("Get of %v: %v, error %d, not %v", b, n, e, want)
	}
	if !bytes.Equal(b, early) {
		t.Fatalf("Get changed %v into %v", early, b)
	}
}

// noInode holds that Get tells ErrForm, and nothing beside it.
func noInode(t *testing.T, b []byte) {
	t.Helper()
	early := slices.Clone(b)
	if n, e := Get(b); n != (Inode{}) || e != api.ErrForm {
		t.Fatalf("Get of %v: %v, error %d", b, n, e)
	}
	if !bytes.Equal(b, early) {
		t.Fatalf("Get changed %v into %v", early, b)
	}
}

// way is a road, as Road tells it.
type way struct {
	number int
	places []int
}

// roads are the roads of all blocks, laid down one behind the other as the chapter's words tell it.
func roads() []way {
	out := []way{{0, nil}, {1, nil}, {2, nil}}
	for place := range 80 {
		out = append(out, way{3, []int{place}})
	}
	for high := range 80 {
		for low := range 80 {
			out = append(out, way{4, []int{high, low}})
		}
	}
	return out
}

// holdRoad asks for an answer of Road.
func holdRoad(t *testing.T, i int, want way) {
	t.Helper()
	if k, l, e := Road(i); k != want.number || !slices.Equal(l, want.places) || e != api.OK {
		t.Fatalf("Road of %d: %d, %v, error %d, not %v", i, k, l, e, want)
	}
}

// noRoad holds that Road tells ErrBig, and nothing beside it.
func noRoad(t *testing.T, i int) {
	t.Helper()
	if k, l, e := Road(i); k != 0 || len(l) != 0 || e != api.ErrBig {
		t.Fatalf("Road of %d: %d, %v, error %d", i, k, l, e)
	}
}

// The chapter's head

func TestConstants(t *testing.T) {
	if Free != 0 || File != 1 || Dir != 2 || Link != 3 {
		t.Errorf("kinds %d, %d, %d, %d", Free, File, Dir, Link)
	}
	if Direct != 3 || Fan != 80 || Most != 6483 {
		t.Errorf("Direct %d, Fan %d, Most %d", Direct, Fan, Most)
	}
}

// P19.1: Put.

func TestPutWrittenOut(t *testing.T) {
	for _, x := range known {
		if b := Put(x.n); !bytes.Equal(b, behind(x.head)) {
			t.Errorf("Put of %v: %v, not %v", x.n, b, behind(x.head))
		}
	}
}

func TestPutOfAnyInode(t *testing.T) {
	for _, n := range some(20000) {
		if b := Put(n); !bytes.Equal(b, laid(n)) {
			t.Fatalf("Put of %v: %v, not %v", n, b, laid(n))
		}
	}
}

// Put has no error to tell: what Get refuses is put, too.
func TestPutOfAKindThatMayNotBe(t *testing.T) {
	for kind := range 256 {
		n := full()
		n.Kind = byte(kind)
		if b := Put(n); !bytes.Equal(b, laid(n)) {
			t.Fatalf("Put of %v: %v", n, b)
		}
	}
}

// Each number has bytes of its own, whatever stands in the others.
func TestPutOfEveryNumber(t *testing.T) {
	for x := range 1 << 16 {
		v := uint16(x)
		for _, n := range []Inode{
			{Kind: 1, Links: v}, {Kind: 1, Size: uint32(v)}, {Kind: 1, Size: uint32(v) << 16}, {Kind: 1, Blocks: [3]uint16{v}},
			{Kind: 1, Blocks: [3]uint16{0, v}}, {Kind: 1, Blocks: [3]uint16{0, 0, v}}, {Kind: 1, Single: v}, {Kind: 1, Double: v},
		} {
			b := Put(n)
			if !bytes.Equal(b, laid(n)) {
				t.Fatalf("Put of %v: %v", n, b)
			}
			holdGet(t, b, n)
		}
	}
}

// P19.1: Get.

func TestGetWrittenOut(t *testing.T) {
	for _, x := range known {
		holdGet(t, behind(x.head), x.n)
	}
}

func TestGetOfAnyInode(t *testing.T) {
	for _, n := range some(20000) {
		holdGet(t, laid(n), n)
	}
}

func TestGetOfOtherLengths(t *testing.T) {
	for _, n := range []Inode{{}, full(), {Kind: Dir, Links: 2}} {
		long := append(laid(n), make([]byte, 200)...)
		for count := range len(long) + 1 {
			if count == 32 {
				continue
			}
			// The capacity goes on behind the end: only the length may count.
			noInode(t, long[:count])
			noInode(t, slices.Clone(long[:count]))
		}
		holdGet(t, long[:32], n)
	}
	noInode(t, nil)
	noInode(t, []byte{})
}

func TestGetOfEveryKind(t *testing.T) {
	for _, n := range []Inode{{}, full(), {Links: 1}} {
		for kind := range 256 {
			n.Kind = byte(kind)
			if kind <= 3 {
				holdGet(t, laid(n), n)
			} else {
				noInode(t, laid(n))
			}
		}
	}
}

// The second byte, and those behind the first 18, must be noughts; each other one but the kind may be any.
func TestGetOfAnyByte(t *testing.T) {
	for _, base := range []Inode{{}, full(), {Kind: File, Size: 9}} {
		for at := 1; at < 32; at++ {
			for x := range 256 {
				b := laid(base)
				b[at] = byte(x)
				if x > 0 && (at == 1 || at >= 18) {
					noInode(t, b)
					continue
				}
				if n, e := Get(b); e != api.OK || !bytes.Equal(laid(n), b) {
					t.Fatalf("Get of %v: %v, error %d", b, n, e)
				}
			}
		}
	}
}

// Bytes that are no noughts don't make up for one another.
func TestGetOfTwoBytesThatAreNoNoughts(t *testing.T) {
	must := []int{1, 18, 19, 20, 21, 22, 23, 24, 25, 26, 27, 28, 29, 30, 31}
	for _, one := range must {
		for _, other := range must {
			if one == other {
				continue
			}
			for _, x := range [][2]byte{{128, 128}, {1, 255}, {7, 7}, {255, 255}} {
				b := laid(full())
				b[one], b[other] = x[0], x[1]
				noInode(t, b)
			}
		}
	}
}

// What stands where nothing was ever written is an inode that is Free; other bytes, all the same, are none.
func TestGetOfOneByteAlone(t *testing.T) {
	holdGet(t, make([]byte, 32), Inode{})
	for x := 1; x < 256; x++ {
		noInode(t, bytes.Repeat([]byte{byte(x)}, 32))
	}
}

func TestGetWithinALongerRow(t *testing.T) {
	long := slices.Concat([]byte{1, 2, 3}, laid(full()), []byte{4, 5, 6})
	holdGet(t, long[3:35], full())
	noInode(t, long[2:34])
	noInode(t, long[4:36])
}

// A Free inode may have anything else in it.
func TestGetOfAFreeOneWithNumbers(t *testing.T) {
	n := full()
	n.Kind = Free
	holdGet(t, laid(n), n)
}

// P19.2

// The chapter's example.
func TestRoadOfTheExample(t *testing.T) {
	holdRoad(t, 84, way{4, []int{0, 1}})
}

func TestRoadWrittenOut(t *testing.T) {
	for _, x := range []struct {
		i    int
		want way
	}{
		{0, way{0, nil}}, {1, way{1, nil}}, {2, way{2, nil}},
		{3, way{3, []int{0}}}, {4, way{3, []int{1}}}, {79, way{3, []int{76}}}, {80, way{3, []int{77}}}, {82, way{3, []int{79}}},
		{83, way{4, []int{0, 0}}}, {162, way{4, []int{0, 79}}}, {163, way{4, []int{1, 0}}}, {164, way{4, []int{1, 1}}},
		{1000, way{4, []int{11, 37}}}, {6402, way{4, []int{78, 79}}}, {6403, way{4, []int{79, 0}}}, {6482, way{4, []int{79, 79}}},
	} {
		holdRoad(t, x.i, x.want)
	}
}

func TestEveryRoad(t *testing.T) {
	all := roads()
	if len(all) != Most {
		t.Fatalf("%d roads", len(all))
	}
	for i, want := range all {
		holdRoad(t, i, want)
	}
}

func TestNoRoad(t *testing.T) {
	for i := -7000; i < 0; i++ {
		noRoad(t, i)
	}
	for i := Most; i < 20000; i++ {
		noRoad(t, i)
	}
	for _, i := range far {
		noRoad(t, i)
	}
}

// P19.3

func TestWhatIsPutIsGot(t *testing.T) {
	for _, n := range some(20000) {
		holdGet(t, Put(n), n)
	}
	for _, x := range known {
		holdGet(t, Put(x.n), x.n)
	}
}

func TestWhatIsGotIsPutAsItWas(t *testing.T) {
	taken := 0
	for _, base := range some(200) {
		for at := range 32 {
			for _, x := range []byte{0, 1, 2, 3, 4, 127, 128, 255} {
				b := laid(base)
				b[at] = x
				n, e := Get(b)
				if e != api.OK {
					continue
				}
				taken++
				if again := Put(n); !bytes.Equal(again, b) {
					t.Fatalf("Put of Get of %v: %v", b, again)
				}
			}
		}
	}
	if taken == 0 {
		t.Error("Get takes nothing")
	}
}

func TestInodesThatPartHaveOtherBytes(t *testing.T) {
	seen := map[[32]byte]Inode{}
	for _, n := range some(50000) {
		b := [32]byte(Put(n))
		if other, ok := seen[b]; ok && other != n {
			t.Fatalf("%v and %v have the same bytes", n, other)
		}
		seen[b] = n
	}
}

func TestNoTwoBlocksHaveTheSameRoad(t *testing.T) {
	seen := map[[3]int]int{}
	for i := range Most {
		k, l, e := Road(i)
		if e != api.OK || k < 0 || k > 4 || len(l) != max(0, k-2) {
			t.Fatalf("Road of %d: %d, %v, error %d", i, k, l, e)
		}
		key := [3]int{k, -1, -1}
		for at, place := range l {
			if place < 0 || place >= Fan {
				t.Fatalf("Road of %d: %d, %v", i, k, l)
			}
			key[1+at] = place
		}
		if other, ok := seen[key]; ok {
			t.Fatalf("blocks %d and %d have the road %v", i, other, key)
		}
		seen[key] = i
	}
}

// Memory of their own (section 'Words' of the document)

func TestPutTellsNewMemory(t *testing.T) {
	n := full()
	one, other := Put(n), Put(n)
	one = append(one, 9, 9, 9)
	for i := range one {
		one[i] ^= 255
	}
	for i := range one[:cap(one)] {
		one[:cap(one)][i] = 7
	}
	if !bytes.Equal(other, laid(n)) || !bytes.Equal(Put(n), laid(n)) {
		t.Error("two answers share memory")
	}
}

func TestGetKeepsNothing(t *testing.T) {
	b := laid(full())
	n, e := Get(b)
	for i := range b {
		b[i] ^= 255
	}
	if n != full() || e != api.OK {
		t.Errorf("Get: %v, error %d", n, e)
	}
	holdGet(t, laid(full()), full())
}

func TestGetWritesNothingBehindTheEnd(t *testing.T) {
	wrong := laid(full())
	wrong[31] = 1
	for _, b := range [][]byte{laid(full()), make([]byte, 32), wrong, make([]byte, 31), make([]byte, 33)} {
		room := append(slices.Clone(b), 7, 7, 7)
		early := slices.Clone(room)
		Get(room[:len(b)])
		if !bytes.Equal(room, early) {
			t.Errorf("Get changed %v", b)
		}
	}
}

func TestRoadTellsNewMemory(t *testing.T) {
	for _, i := range []int{0, 2, 3, 82, 83, 84, 6482} {
		want := roads()[i]
		_, one, _ := Road(i)
		_, other, _ := Road(i)
		for at := range one[:cap(one)] {
			one[:cap(one)][at] = -5
		}
		_ = append(one[:0], -6, -6, -6)
		if !slices.Equal(other, want.places) {
			t.Errorf("two answers of Road of %d share memory: %v", i, other)
		}
		holdRoad(t, i, want)
	}
}

func TestTheSameCallsHaveTheSameAnswers(t *testing.T) {
	b := Put(full())
	noInode(t, nil)
	noRoad(t, Most)
	holdRoad(t, 84, way{4, []int{0, 1}})
	if !bytes.Equal(Put(full()), b) {
		t.Error("the same call has another answer")
	}
	holdGet(t, b, full())
	holdRoad(t, 84, way{4, []int{0, 1}})
}
