package bitmap

import (
	"bytes"
	"math"
	"slices"
	"testing"

	"reliquary/api"
)

// The calls as chapter 18 lists them: this doesn't build if a signature is another one.
var (
	_ func([]byte, int) (bool, api.Errno)         = Get
	_ func([]byte, int, bool) ([]byte, api.Errno) = Set
	_ func([]byte, int, int) (int, api.Errno)     = First
	_ func([]byte, int, int) (int, api.Errno)     = Count
)

// far are numbers of no bit that any bytes here have.
var far = []int{
	math.MinInt, math.MinInt + 1, math.MinInt + 7, math.MinInt + 8, math.MinInt64 / 2, math.MinInt32 - 1, math.MinInt32, -1280, -161, -160,
	-65, -64, -17, -16, -15, -9, -8, -7, -2, -1,
	1 << 16, math.MaxInt32, math.MaxInt32 + 1, math.MaxUint32, 1 << 32, 1<<32 + 1, 1<<32 + 8, 1 << 61, 1 << 62, 1<<62 + 8,
	math.MaxInt - 8, math.MaxInt - 7, math.MaxInt - 1, math.MaxInt,
}

// lengths are numbers of bytes: nothing, few, and about the sizes of blocks and slots.
var lengths = []int{0, 1, 2, 3, 4, 7, 8, 9, 31, 32, 33, 63, 64, 65, 159, 160, 161, 192}

// some is so many bytes, without a rule that a fault could hide in.
func some(n int) []byte {
	out := make([]byte, n)
	x := uint32(n) + 18
	for i := range out {
		x = x*1664525 + 1013904223
		out[i] = byte(x >> 24)
	}
	return out
}

// ones is so many bytes whose bits are all 1.
func ones(n int) []byte { return bytes.Repeat([]byte{255}, n) }

// rows are bytes of one length: noughts, ones, and others.
func rows(n int) [][]byte {
	return [][]byte{make([]byte, n), ones(n), some(n), bytes.Repeat([]byte{0x55}, n), bytes.Repeat([]byte{0x80}, n), bytes.Repeat([]byte{0xfe}, n)}
}

// laid are the bits of bytes, one behind the other, as the chapter's words tell them: eight of each byte, the lowest one first.
func laid(b []byte) []bool {
	out := make([]bool, 0, 8*len(b))
	for _, x := range b {
		for range 8 {
			out = append(out, x%2 == 1)
			x /= 2
		}
	}
	return out
}

// gathered are the bytes of such bits.
func gathered(l []bool) []byte {
	out := make([]byte, len(l)/8)
	for i := range out {
		for place := 7; place >= 0; place-- {
			out[i] *= 2
			if l[8*i+place] {
				out[i]++
			}
		}
	}
	return out
}

// toldFirst is the lowest bit that is 0, as the promise's words tell it; below 0: there is none.
func toldFirst(l []bool, from, to int) int {
	for i := from; i < to; i++ {
		if !l[i] {
			return i
		}
	}
	return -1
}

// toldCount is how many bits are 1, as the promise's words tell it.
func toldCount(l []bool, from, to int) int {
	n := 0
	for i := from; i < to; i++ {
		if l[i] {
			n++
		}
	}
	return n
}

// holdGet asks for an answer of Get.
func holdGet(t *testing.T, b []byte, i int, want bool) {
	t.Helper()
	if on, e := Get(b, i); on != want || e != api.OK {
		t.Fatalf("Get of bit %d of %x: %v, error %d, not %v", i, b, on, e, want)
	}
}

// set is what Set answers, which must be no error; it holds that what was handed in is as it was.
func set(t *testing.T, b []byte, i int, on bool) []byte {
	t.Helper()
	early := slices.Clone(b)
	out, e := Set(b, i, on)
	if e != api.OK {
		t.Fatalf("Set of bit %d of %x: error %d", i, b, e)
	}
	if !bytes.Equal(b, early) {
		t.Fatalf("Set of bit %d changed %x into %x", i, early, b)
	}
	return out
}

// noBit holds that Get and Set tell ErrRange, and nothing beside it.
func noBit(t *testing.T, b []byte, i int) {
	t.Helper()
	early := slices.Clone(b)
	if on, e := Get(b, i); on || e != api.ErrRange {
		t.Fatalf("Get of bit %d of %d bytes: %v, error %d", i, len(b), on, e)
	}
	for _, on := range []bool{true, false} {
		if out, e := Set(b, i, on); len(out) != 0 || e != api.ErrRange {
			t.Fatalf("Set of bit %d of %d bytes: %x, error %d", i, len(b), out, e)
		}
	}
	if !bytes.Equal(b, early) {
		t.Fatalf("bit %d that isn't there changed %x into %x", i, early, b)
	}
}

// holdSpan asks for the answers of First and Count that the bits tell.
func holdSpan(t *testing.T, b []byte, l []bool, from, to int) {
	t.Helper()
	i, e := First(b, from, to)
	if want := toldFirst(l, from, to); want >= 0 && (i != want || e != api.OK) {
		t.Fatalf("First of %x, %d, %d: %d, error %d, not %d", b, from, to, i, e, want)
	} else if want < 0 && (i != 0 || e != api.ErrSpace) {
		t.Fatalf("First of %x, %d, %d: %d, error %d, not ErrSpace", b, from, to, i, e)
	}
	if n, e := Count(b, from, to); n != toldCount(l, from, to) || e != api.OK {
		t.Fatalf("Count of %x, %d, %d: %d, error %d, not %d", b, from, to, n, e, toldCount(l, from, to))
	}
}

// holdSpans asks for the answers to all spans of bytes.
func holdSpans(t *testing.T, b []byte) {
	t.Helper()
	early, l := slices.Clone(b), laid(b)
	for to := range len(l) + 1 {
		for from := range to + 1 {
			holdSpan(t, b, l, from, to)
		}
	}
	if !bytes.Equal(b, early) {
		t.Fatalf("First or Count changed %x into %x", early, b)
	}
}

// noSpan holds that First and Count tell ErrRange, and nothing beside it.
func noSpan(t *testing.T, b []byte, from, to int) {
	t.Helper()
	if i, e := First(b, from, to); i != 0 || e != api.ErrRange {
		t.Fatalf("First of %d bytes, %d, %d: %d, error %d", len(b), from, to, i, e)
	}
	if n, e := Count(b, from, to); n != 0 || e != api.ErrRange {
		t.Fatalf("Count of %d bytes, %d, %d: %d, error %d", len(b), from, to, n, e)
	}
}

// Section 'Words'

func TestBitsOfAByteWrittenOut(t *testing.T) {
	for i, x := range []byte{1, 2, 4, 8, 16, 32, 64, 128} {
		for other := range 8 {
			holdGet(t, []byte{x}, other, other == i)
			holdGet(t, []byte{0, x, 0}, 8+other, other == i)
			holdGet(t, []byte{^x}, other, other != i)
		}
		if b := set(t, []byte{0}, i, true); !bytes.Equal(b, []byte{x}) {
			t.Errorf("bit %d: %x", i, b)
		}
		if b := set(t, []byte{255}, i, false); !bytes.Equal(b, []byte{^x}) {
			t.Errorf("bit %d: %x", i, b)
		}
	}
}

func TestBitsOfBytesWrittenOut(t *testing.T) {
	for _, x := range []struct {
		i    int
		want []byte
	}{
		{0, []byte{1, 0, 0, 0}}, {7, []byte{128, 0, 0, 0}}, {8, []byte{0, 1, 0, 0}}, {9, []byte{0, 2, 0, 0}},
		{15, []byte{0, 128, 0, 0}}, {16, []byte{0, 0, 1, 0}}, {23, []byte{0, 0, 128, 0}}, {24, []byte{0, 0, 0, 1}}, {31, []byte{0, 0, 0, 128}},
	} {
		if b := set(t, make([]byte, 4), x.i, true); !bytes.Equal(b, x.want) {
			t.Errorf("bit %d: %v, not %v", x.i, b, x.want)
		}
	}
}

func TestEightTimesAsManyBitsAsBytes(t *testing.T) {
	for _, n := range lengths {
		for i := range 8 * n {
			holdGet(t, ones(n), i, true)
		}
		for i := 8 * n; i < 8*n+20; i++ {
			noBit(t, ones(n), i)
		}
		if i, e := Count(ones(n), 0, 8*n); i != 8*n || e != api.OK {
			t.Errorf("%d bytes: %d bits, error %d", n, i, e)
		}
	}
}

// P18.1: Get.

func TestGetOfEveryBit(t *testing.T) {
	for _, n := range lengths {
		for _, b := range rows(n) {
			early := slices.Clone(b)
			for i, want := range laid(b) {
				holdGet(t, b, i, want)
			}
			if !bytes.Equal(b, early) {
				t.Fatalf("Get changed %x into %x", early, b)
			}
		}
	}
}

// P18.1: Set.

func TestSetOfEveryBit(t *testing.T) {
	for _, n := range lengths {
		for _, b := range rows(n) {
			for i := range 8 * n {
				for _, on := range []bool{true, false} {
					want := laid(b)
					want[i] = on
					if out := set(t, b, i, on); !bytes.Equal(out, gathered(want)) {
						t.Fatalf("Set of bit %d of %x, %v: %x", i, b, on, out)
					}
				}
			}
		}
	}
}

// What is answered shares nothing with what was handed in, even if the bit was so, and even if there is room behind the end.
func TestSetInNewMemory(t *testing.T) {
	for _, n := range []int{1, 2, 8, 160} {
		for _, row := range rows(n) {
			for _, i := range []int{0, 8*n - 1, 4 * n} {
				for _, on := range []bool{true, false} {
					room := append(slices.Clone(row), ones(n)...)
					b := room[:n]
					out := set(t, b, i, on)
					for j := range out[:cap(out)] {
						out[:cap(out)][j] ^= 255
					}
					if !bytes.Equal(b, row) || !bytes.Equal(room[n:], ones(n)) {
						t.Fatalf("bit %d of %x, %v: what was handed in is %x now", i, row, on, room)
					}
				}
			}
		}
	}
}

// Two answers to one call share nothing, either.
func TestSetTwice(t *testing.T) {
	b := some(160)
	one, other := set(t, b, 77, true), set(t, b, 77, true)
	late := slices.Clone(other)
	clear(one)
	if !bytes.Equal(other, late) {
		t.Error("two answers share memory")
	}
}

// P18.1: bits that aren't there.

func TestBitsThatAreNotThere(t *testing.T) {
	for _, n := range lengths {
		for _, b := range rows(n) {
			for _, i := range append([]int{8 * n, 8*n + 1, 8*n + 7, 8*n + 8, 16*n + 9}, far...) {
				noBit(t, b, i)
			}
		}
	}
}

func TestNoBitOfNothing(t *testing.T) {
	for _, b := range [][]byte{nil, {}, make([]byte, 0, 8)} {
		for i := -20; i < 20; i++ {
			noBit(t, b, i)
		}
	}
}

// The capacity goes on behind the end: only the length may count.
func TestNoBitBehindTheEnd(t *testing.T) {
	b := ones(8)[:3]
	for i := 24; i < 80; i++ {
		noBit(t, b, i)
		noSpan(t, b, 0, i+1)
	}
}

// P18.2

// The chapter's example.
func TestFirstOfTheExample(t *testing.T) {
	if i, e := First([]byte{255, 254}, 0, 16); i != 8 || e != api.OK {
		t.Errorf("%d, error %d", i, e)
	}
}

func TestFirstWrittenOut(t *testing.T) {
	for _, x := range []struct {
		b              []byte
		from, to, want int
	}{
		{[]byte{0}, 0, 8, 0}, {[]byte{0}, 3, 8, 3}, {[]byte{0}, 7, 8, 7}, {[]byte{0}, 0, 1, 0},
		{[]byte{254}, 0, 8, 0}, {[]byte{253}, 0, 8, 1}, {[]byte{127}, 0, 8, 7}, {[]byte{127}, 7, 8, 7},
		{[]byte{0xdd}, 0, 8, 1}, {[]byte{0xdd}, 1, 8, 1}, {[]byte{0xdd}, 2, 8, 5},
		{[]byte{0x0f, 255, 255, 0xfb}, 0, 32, 4}, {[]byte{0x7f, 255, 255, 0xfb}, 8, 32, 26},
		{[]byte{255, 255, 255, 0}, 0, 32, 24}, {[]byte{0, 255, 255, 0}, 8, 25, 24}, {[]byte{0x0f, 0xf0}, 4, 16, 4}, {[]byte{0, 0}, 8, 9, 8},
	} {
		if i, e := First(x.b, x.from, x.to); i != x.want || e != api.OK {
			t.Errorf("First of %x, %d, %d: %d, error %d, not %d", x.b, x.from, x.to, i, e, x.want)
		}
	}
}

// A bit that is 0 ahead of from, or at to, isn't one of these; nor is there one where from is to.
func TestFirstWithoutSpace(t *testing.T) {
	for _, x := range []struct {
		b        []byte
		from, to int
	}{
		{[]byte{255}, 0, 8}, {[]byte{254}, 1, 8}, {[]byte{127}, 0, 7}, {[]byte{0xbd}, 2, 6},
		{[]byte{255, 254}, 0, 8}, {[]byte{254, 255}, 1, 16}, {[]byte{0x0f, 0xf0}, 12, 16}, {[]byte{0x0f, 0xf0}, 0, 4},
		{[]byte{0, 255, 255, 0}, 8, 24}, {[]byte{0}, 0, 0}, {[]byte{0}, 3, 3}, {[]byte{0}, 8, 8}, {[]byte{0, 0}, 8, 8}, {nil, 0, 0}, {[]byte{}, 0, 0},
	} {
		if i, e := First(x.b, x.from, x.to); i != 0 || e != api.ErrSpace {
			t.Errorf("First of %x, %d, %d: %d, error %d", x.b, x.from, x.to, i, e)
		}
	}
}

func TestCountWrittenOut(t *testing.T) {
	for _, x := range []struct {
		b              []byte
		from, to, want int
	}{
		{[]byte{255, 255, 255}, 3, 18, 15}, {[]byte{255, 254}, 0, 16, 15}, {[]byte{255, 254}, 8, 9, 0}, {[]byte{255, 254}, 7, 10, 2},
		{[]byte{0x0f}, 0, 8, 4}, {[]byte{0x0f}, 0, 3, 3}, {[]byte{0x0f}, 3, 5, 1}, {[]byte{0x0f}, 4, 8, 0},
		{[]byte{1, 0, 128}, 0, 24, 2}, {[]byte{1, 0, 128}, 1, 23, 0}, {[]byte{1, 0, 128}, 1, 24, 1}, {[]byte{1, 0, 128}, 0, 23, 1},
		{[]byte{255}, 0, 0, 0}, {[]byte{255}, 8, 8, 0}, {[]byte{255}, 5, 5, 0}, {nil, 0, 0, 0}, {[]byte{}, 0, 0, 0},
	} {
		if n, e := Count(x.b, x.from, x.to); n != x.want || e != api.OK {
			t.Errorf("Count of %x, %d, %d: %d, error %d, not %d", x.b, x.from, x.to, n, e, x.want)
		}
	}
}

// All spans of all two bytes.
func TestEverySpanOfTwoBytes(t *testing.T) {
	for x := range 1 << 16 {
		holdSpans(t, []byte{byte(x), byte(x >> 8)})
	}
}

func TestEverySpanOfFewBytes(t *testing.T) {
	for _, n := range []int{0, 1, 3, 4, 7, 8, 9} {
		for _, b := range rows(n) {
			holdSpans(t, b)
		}
	}
	// A single bit that is otherwise, at each place.
	for i := range 40 {
		holdSpans(t, set(t, make([]byte, 5), i, true))
		holdSpans(t, set(t, ones(5), i, false))
	}
}

// Spans of a whole block, whose ends stand at all places of a byte.
func TestSpansOfABlock(t *testing.T) {
	for _, b := range rows(160) {
		l := laid(b)
		for from := 0; from <= 1280; from += 7 {
			for to := from; to <= 1280; to += 11 {
				holdSpan(t, b, l, from, to)
			}
			holdSpan(t, b, l, from, 1280)
		}
		holdSpan(t, b, l, 0, 1280)
		holdSpan(t, b, l, 1279, 1280)
		holdSpan(t, b, l, 1280, 1280)
	}
}

// The one bit of a block that is 0 is found, wherever it stands, if it is one of these.
func TestTheOneBitOfABlock(t *testing.T) {
	for i := range 1280 {
		b := set(t, ones(160), i, false)
		l := laid(b)
		for _, x := range []struct{ from, to int }{{0, 1280}, {i, 1280}, {i, i + 1}, {0, i}, {0, i + 1}, {i + 1, 1280}, {i / 2, i + 1}, {i / 2, i}} {
			holdSpan(t, b, l, x.from, x.to)
		}
	}
}

// All spans about the ends, those that are and those that aren't.
func TestSpansAboutTheEnds(t *testing.T) {
	for n := range 6 {
		for _, b := range rows(n) {
			l := laid(b)
			for from := -10; from <= 8*n+10; from++ {
				for to := -10; to <= 8*n+10; to++ {
					if from < 0 || to < from || to > 8*n {
						noSpan(t, b, from, to)
					} else {
						holdSpan(t, b, l, from, to)
					}
				}
			}
		}
	}
}

func TestSpansThatAreNotThere(t *testing.T) {
	for _, n := range lengths {
		for _, b := range rows(n) {
			noSpan(t, b, 0, 8*n+1)
			noSpan(t, b, 8*n, 8*n+1)
			noSpan(t, b, 8*n+1, 8*n+1)
			noSpan(t, b, 8*n+1, 8*n)
			noSpan(t, b, 1, 0)
			noSpan(t, b, -1, 8*n)
			noSpan(t, b, -1, -1)
			for _, x := range far {
				noSpan(t, b, x, 8*n)
				noSpan(t, b, x, 0)
				noSpan(t, b, 0, x)
				noSpan(t, b, 8*n, x)
				for _, y := range far {
					noSpan(t, b, x, y)
				}
			}
		}
	}
}

// A span that isn't there is told ahead of what stands in it.
func TestRangeAheadOfSpace(t *testing.T) {
	noSpan(t, ones(4), 0, 33)
	noSpan(t, ones(4), 9, 8)
	noSpan(t, nil, 0, 1)
	noSpan(t, nil, 1, 1)
}

// P18.3

func TestWhatWasSetIsSet(t *testing.T) {
	for _, n := range []int{1, 2, 9, 160} {
		for _, b := range rows(n) {
			early := laid(b)
			for i := range 8 * n {
				for _, on := range []bool{true, false} {
					out := set(t, b, i, on)
					for other := range 8 * n {
						if other != i && (n < 160 || other/8 == i/8 || other%37 == 0) {
							holdGet(t, out, other, early[other])
						}
					}
					holdGet(t, out, i, on)
				}
			}
		}
	}
}

// Many bits behind one another, held against bits that the test keeps itself.
func TestManyBehindOneAnother(t *testing.T) {
	b := make([]byte, 160)
	l := laid(b)
	x := uint32(1)
	for range 5000 {
		x = x*1664525 + 1013904223
		i, on := int(x>>8)%1280, x>>31 == 1
		b, l[i] = set(t, b, i, on), on
		if !bytes.Equal(b, gathered(l)) {
			t.Fatalf("behind bit %d: %x", i, b)
		}
	}
	holdSpan(t, b, l, 0, 1280)
}

// What was cleared is found, what was set is found no more, and is counted: so all bits are taken, each one once.
func TestTakenOneByOne(t *testing.T) {
	b := make([]byte, 160)
	for want := 5; want < 1275; want++ {
		if n, e := Count(b, 5, 1275); n != want-5 || e != api.OK {
			t.Fatalf("Count: %d, error %d, not %d", n, e, want-5)
		}
		i, e := First(b, 5, 1275)
		if i != want || e != api.OK {
			t.Fatalf("First: %d, error %d, not %d", i, e, want)
		}
		b = set(t, b, i, true)
	}
	if i, e := First(b, 5, 1275); i != 0 || e != api.ErrSpace {
		t.Fatalf("First: %d, error %d", i, e)
	}
	for _, i := range []int{1274, 700, 5} {
		b = set(t, b, i, false)
		if got, e := First(b, 5, 1275); got != i || e != api.OK {
			t.Fatalf("First: %d, error %d, not %d", got, e, i)
		}
	}
	if n, e := Count(b, 0, 1280); n != 1267 || e != api.OK {
		t.Fatalf("Count: %d, error %d", n, e)
	}
}

// Set undoes Set.
func TestSetUndone(t *testing.T) {
	for _, b := range rows(20) {
		for i, was := range laid(b) {
			if out := set(t, set(t, b, i, !was), i, was); !bytes.Equal(out, b) {
				t.Fatalf("bit %d of %x: %x", i, b, out)
			}
		}
	}
}
