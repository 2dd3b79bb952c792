package word

import (
	"bytes"
	"math"
	"slices"
	"testing"

	"reliquary/api"
)

// The calls as chapter 1 lists them: this doesn't build if a signature is another one.
var (
	_ func(uint64, int) []byte                           = Put
	_ func([]byte, int, int) (uint64, api.Errno)         = Get
	_ func([]byte, int, int, uint64) ([]byte, api.Errno) = Set
	_ func([]byte, int) []byte                           = Pad
	_ func(...uint64) (uint64, bool)                     = Add
)

// wrongWidths are numbers of bytes that no number may have.
var wrongWidths = []int{0, 9, -1, -8, 10, 64, math.MinInt, math.MaxInt}

// bothWays tells an error if one of two slices changes when the other one is changed.
func bothWays(t *testing.T, what string, one, other []byte) {
	t.Helper()
	for _, pair := range [][2][]byte{{one, other}, {other, one}} {
		before := slices.Clone(pair[1])
		for i := range pair[0] {
			pair[0][i] ^= 0xff
		}
		// What stands behind the end may be shared, too.
		whole := pair[0][:cap(pair[0])]
		for i := len(pair[0]); i < len(whole); i++ {
			whole[i] ^= 0xff
		}
		if !bytes.Equal(pair[1], before) {
			t.Errorf("%s: memory is shared", what)
		}
	}
}

// P1.1: Put.

func TestPutLaysLowestFirst(t *testing.T) {
	const x = 0x8877665544332211
	whole := []byte{0x11, 0x22, 0x33, 0x44, 0x55, 0x66, 0x77, 0x88}
	for n := 1; n <= 8; n++ {
		if got := Put(x, n); !bytes.Equal(got, whole[:n]) {
			t.Errorf("Put(%#x, %d) = %v, want %v", uint64(x), n, got, whole[:n])
		}
	}
}

func TestPutOfPlainNumbers(t *testing.T) {
	for _, c := range []struct {
		x    uint64
		n    int
		want []byte
	}{
		{258, 2, []byte{2, 1}},
		{258, 1, []byte{2}},
		{258, 4, []byte{2, 1, 0, 0}},
		{0, 1, []byte{0}},
		{0, 8, make([]byte, 8)},
		{255, 1, []byte{255}},
		{256, 1, []byte{0}},
		{math.MaxUint64, 3, []byte{255, 255, 255}},
		{math.MaxUint64, 8, bytes.Repeat([]byte{255}, 8)},
		{1 << 63, 8, []byte{0, 0, 0, 0, 0, 0, 0, 128}},
		{1 << 32, 8, []byte{0, 0, 0, 0, 1, 0, 0, 0}},
	} {
		if got := Put(c.x, c.n); !bytes.Equal(got, c.want) {
			t.Errorf("Put(%d, %d) = %v, want %v", c.x, c.n, got, c.want)
		}
	}
}

func TestPutOfWrongWidthIsNothing(t *testing.T) {
	for _, n := range wrongWidths {
		if got := Put(math.MaxUint64, n); len(got) != 0 {
			t.Errorf("Put(.., %d) = %v, want nothing", n, got)
		}
	}
}

func TestPutAnswersNewMemory(t *testing.T) {
	bothWays(t, "Put", Put(77, 8), Put(77, 8))
}

// P1.1: Get.

func TestGetReadsLowestFirst(t *testing.T) {
	b := []byte{0x99, 0x11, 0x22, 0x33, 0x44, 0x55, 0x66, 0x77, 0x88, 0xaa}
	want := []uint64{0x11, 0x2211, 0x332211, 0x44332211, 0x5544332211, 0x665544332211, 0x77665544332211, 0x8877665544332211}
	for i, w := range want {
		if x, e := Get(b, 1, i+1); x != w || e != api.OK {
			t.Errorf("Get(.., 1, %d) = %#x, %v, want %#x", i+1, x, e, w)
		}
	}
}

func TestGetAtTheEdges(t *testing.T) {
	b := []byte{1, 2, 3, 4, 5, 6, 7, 8, 9}
	for _, c := range []struct {
		at, n int
		want  uint64
	}{
		{0, 1, 1},
		{8, 1, 9},
		{0, 8, 0x0807060504030201},
		{1, 8, 0x0908070605040302},
		{6, 3, 0x090807},
	} {
		if x, e := Get(b, c.at, c.n); x != c.want || e != api.OK {
			t.Errorf("Get(.., %d, %d) = %#x, %v, want %#x", c.at, c.n, x, e, c.want)
		}
	}
	if x, e := Get(bytes.Repeat([]byte{255}, 8), 0, 8); x != math.MaxUint64 || e != api.OK {
		t.Errorf("Get of eight times 255 = %#x, %v", x, e)
	}
}

// call is what Get and Set have in common: bytes, a place and a width, and the error that must be told.
type call struct {
	b     []byte
	at, n int
	want  api.Errno
}

// wrongCalls are calls of Get and Set that have an error.
func wrongCalls() []call {
	b := []byte{1, 2, 3, 4, 5, 6, 7, 8, 9}
	l := []call{
		{b, -1, 1, api.ErrRange},
		{b, -1, 8, api.ErrRange},
		{b, -8, 8, api.ErrRange},
		{b, math.MinInt, 1, api.ErrRange},
		{b, math.MinInt, 8, api.ErrRange},
		{b, 9, 1, api.ErrRange},
		{b, 8, 2, api.ErrRange},
		{b, 2, 8, api.ErrRange},
		{b, 10, 1, api.ErrRange},
		{b, 1000, 8, api.ErrRange},
		{b, math.MaxInt, 1, api.ErrRange},
		{b, math.MaxInt, 8, api.ErrRange},
		{b, math.MaxInt - 7, 8, api.ErrRange},
		{b[:7], 0, 8, api.ErrRange},
		// The memory goes on behind the end, but those aren't bytes of b.
		{b[:3], 2, 2, api.ErrRange},
		{nil, 0, 1, api.ErrRange},
		{nil, 0, 8, api.ErrRange},
		{[]byte{}, 0, 1, api.ErrRange},
	}
	for _, n := range wrongWidths {
		// A wrong width is told ahead of a wrong place.
		for _, at := range []int{0, 9, 10, -1, math.MinInt, math.MaxInt} {
			l = append(l, call{b, at, n, api.ErrArg}, call{nil, at, n, api.ErrArg})
		}
	}
	return l
}

func TestGetTellsErrors(t *testing.T) {
	for _, c := range wrongCalls() {
		if x, e := Get(c.b, c.at, c.n); x != 0 || e != c.want {
			t.Errorf("Get(%v, %d, %d) = %d, %d, want 0, %d", c.b, c.at, c.n, x, int(e), int(c.want))
		}
	}
}

func TestGetChangesNothing(t *testing.T) {
	b := []byte{1, 2, 3, 4, 5, 6, 7, 8, 9}
	before := slices.Clone(b)
	Get(b, 1, 8)
	Get(b, 2, 8)
	Get(b, 0, 9)
	if !bytes.Equal(b, before) {
		t.Errorf("b is %v behind Get", b)
	}
}

// P1.2: Set.

func TestSetLaysANumberOverBytes(t *testing.T) {
	b := []byte{9, 9, 9, 9, 9, 9, 9, 9, 9, 9}
	for _, c := range []struct {
		at, n int
		x     uint64
		want  []byte
	}{
		{0, 1, 5, []byte{5, 9, 9, 9, 9, 9, 9, 9, 9, 9}},
		{9, 1, 5, []byte{9, 9, 9, 9, 9, 9, 9, 9, 9, 5}},
		{1, 2, 258, []byte{9, 2, 1, 9, 9, 9, 9, 9, 9, 9}},
		{3, 1, 258, []byte{9, 9, 9, 2, 9, 9, 9, 9, 9, 9}},
		{2, 4, 0, []byte{9, 9, 0, 0, 0, 0, 9, 9, 9, 9}},
		{2, 8, 0x8877665544332211, []byte{9, 9, 0x11, 0x22, 0x33, 0x44, 0x55, 0x66, 0x77, 0x88}},
		{0, 8, math.MaxUint64, []byte{255, 255, 255, 255, 255, 255, 255, 255, 9, 9}},
	} {
		got, e := Set(b, c.at, c.n, c.x)
		if !bytes.Equal(got, c.want) || e != api.OK {
			t.Errorf("Set(.., %d, %d, %d) = %v, %v, want %v", c.at, c.n, c.x, got, e, c.want)
		}
	}
}

func TestSetTellsGetsErrors(t *testing.T) {
	for _, c := range wrongCalls() {
		before := slices.Clone(c.b)
		got, e := Set(c.b, c.at, c.n, 77)
		if len(got) != 0 || e != c.want {
			t.Errorf("Set(%v, %d, %d, 77) = %v, %d, want nothing, %d", c.b, c.at, c.n, got, int(e), int(c.want))
		}
		if !bytes.Equal(c.b, before) {
			t.Errorf("Set(%v, %d, %d, 77) changed b to %v", before, c.at, c.n, c.b)
		}
	}
}

func TestSetChangesNothingAndAnswersNewMemory(t *testing.T) {
	whole := []byte{1, 2, 3, 4, 5, 6, 7, 8, 9, 10}
	before := slices.Clone(whole)
	b := whole[:8]
	got, e := Set(b, 2, 3, 0)
	if e != api.OK || !bytes.Equal(whole, before) {
		t.Errorf("Set: %v; what was handed in is %v", e, whole)
	}
	bothWays(t, "Set", got, whole)
	// Also where nothing needs to be changed.
	same, _ := Set(b, 0, 1, uint64(b[0]))
	bothWays(t, "Set of what stands there", same, b)
}

// P1.2: Pad.

func TestPad(t *testing.T) {
	b := []byte{1, 2, 3}
	for _, c := range []struct {
		b    []byte
		n    int
		want []byte
	}{
		{b, math.MinInt, nil},
		{b, -1, nil},
		{b, 0, nil},
		{b, 1, []byte{1}},
		{b, 2, []byte{1, 2}},
		{b, 3, []byte{1, 2, 3}},
		{b, 4, []byte{1, 2, 3, 0}},
		{b, 9, []byte{1, 2, 3, 0, 0, 0, 0, 0, 0}},
		// The memory goes on behind the end, but noughts are asked for.
		{b[:1], 3, []byte{1, 0, 0}},
		{nil, 0, nil},
		{nil, 2, []byte{0, 0}},
		{[]byte{}, 1, []byte{0}},
	} {
		if got := Pad(c.b, c.n); !bytes.Equal(got, c.want) {
			t.Errorf("Pad(%v, %d) = %v, want %v", c.b, c.n, got, c.want)
		}
	}
}

func TestPadOfABlock(t *testing.T) {
	got := Pad([]byte{7}, api.Block)
	if len(got) != api.Block || got[0] != 7 || !bytes.Equal(got[1:], make([]byte, api.Block-1)) {
		t.Errorf("Pad of 7 to a block = %v", got)
	}
}

func TestPadChangesNothingAndAnswersNewMemory(t *testing.T) {
	for n := 1; n <= 10; n++ {
		whole := []byte{1, 2, 3, 4, 5, 6, 7, 8, 9, 10}
		before := slices.Clone(whole)
		got := Pad(whole[:4], n)
		if !bytes.Equal(whole, before) {
			t.Errorf("Pad to %d: what was handed in is %v", n, whole)
		}
		bothWays(t, "Pad", got, whole)
	}
}

// Rule 1: no call panics, whatever it is given; how much is answered there is free.
func TestPadToMoreThanThereIs(t *testing.T) {
	for _, n := range []int{math.MaxInt, math.MaxInt - 1, math.MaxInt / 2, math.MaxInt >> 16} {
		Pad([]byte{1, 2, 3}, n)
	}
}

// P1.3: Add.

func TestAdd(t *testing.T) {
	const most = math.MaxUint64
	for _, c := range []struct {
		l    []uint64
		want uint64
		ok   bool
	}{
		{nil, 0, true},
		{[]uint64{}, 0, true},
		{[]uint64{0}, 0, true},
		{[]uint64{5}, 5, true},
		{[]uint64{1, 2, 3, 4}, 10, true},
		{[]uint64{most}, most, true},
		{[]uint64{most, 0, 0}, most, true},
		{[]uint64{0, most}, most, true},
		{[]uint64{most - 1, 1}, most, true},
		{[]uint64{1 << 63, 1<<63 - 1}, most, true},
		{[]uint64{most - 3, 1, 1, 1}, most, true},
		{[]uint64{most, 1}, 0, false},
		{[]uint64{1, most}, 0, false},
		{[]uint64{most, 1, 0}, 0, false},
		{[]uint64{1 << 63, 1 << 63}, 0, false},
		{[]uint64{most, most}, 0, false},
		// Above again behind having wrapped round, and wrapping round more than once.
		{[]uint64{most, 1, 7}, 0, false},
		{[]uint64{most, 2, most}, 0, false},
		{[]uint64{1 << 63, 1 << 63, 1 << 63, 1 << 63}, 0, false},
		{[]uint64{most - 3, 1, 1, 1, 1}, 0, false},
	} {
		before := slices.Clone(c.l)
		if sum, ok := Add(c.l...); sum != c.want || ok != c.ok {
			t.Errorf("Add(%v) = %d, %v, want %d, %v", c.l, sum, ok, c.want, c.ok)
		}
		if !slices.Equal(c.l, before) {
			t.Errorf("Add changed its list to %v", c.l)
		}
	}
	if sum, ok := Add(); sum != 0 || !ok {
		t.Errorf("Add() = %d, %v", sum, ok)
	}
}

// P1.4: for every place and width in some bytes.

func TestWhatWasSetIsGotAndNothingElseChanges(t *testing.T) {
	b := []byte{17, 34, 51, 68, 85, 102, 119, 136, 153, 170, 187, 204}
	numbers := []uint64{0, 1, 255, 256, 0x8877665544332211, 1 << 63, math.MaxUint64}
	for n := 1; n <= 8; n++ {
		for at := 0; at+n <= len(b); at++ {
			for _, x := range numbers {
				checkSet(t, b, at, n, x)
			}
		}
	}
}

func checkSet(t *testing.T, b []byte, at, n int, x uint64) {
	t.Helper()
	got, e := Set(b, at, n, x)
	if e != api.OK || len(got) != len(b) {
		t.Fatalf("Set(.., %d, %d, %#x) = %v, %v", at, n, x, got, e)
	}
	want := x & (math.MaxUint64 >> (64 - 8*n))
	if y, e := Get(got, at, n); y != want || e != api.OK {
		t.Errorf("Get behind Set(.., %d, %d, %#x) = %#x, %v, want %#x", at, n, x, y, e, want)
	}
	if !bytes.Equal(got[at:at+n], Put(x, n)) {
		t.Errorf("Set(.., %d, %d, %#x) laid down %v", at, n, x, got[at:at+n])
	}
	if !bytes.Equal(got[:at], b[:at]) || !bytes.Equal(got[at+n:], b[at+n:]) {
		t.Errorf("Set(.., %d, %d, %#x) changed more: %v", at, n, x, got)
	}
}

func TestWhatWasPutIsGot(t *testing.T) {
	for _, x := range []uint64{0, 1, 255, 256, 1 << 40, 1<<63 + 5, math.MaxUint64} {
		if y, e := Get(Put(x, 8), 0, 8); y != x || e != api.OK {
			t.Errorf("Get of Put(%d, 8) = %d, %v", x, y, e)
		}
	}
}
