package equal

import (
	"bytes"
	"math"
	"slices"
	"testing"
)

// The calls as chapter 5 lists them: this doesn't build if a signature is another one.
var (
	_ func([]byte, []byte) bool           = Bytes
	_ func(uint64, uint64, uint64) uint64 = Choose
	_ func([][]byte, []byte) int          = Find
)

// lengths are numbers of bytes: nothing, few, and about the sizes of digests, blocks and slots.
var lengths = []int{0, 1, 2, 3, 7, 8, 9, 31, 32, 33, 63, 64, 65, 159, 160, 161, 192, 255, 256, 257, 1000}

// numbers are those at their ends, and some between.
var numbers = []uint64{0, 1, 2, 5, 7, 255, 256, 1<<31 - 1, 1 << 31, 1<<32 - 1, 1 << 32, 0x123456789abcdef0, math.MaxInt64, 1 << 63, math.MaxUint64 - 1, math.MaxUint64}

// some is so many bytes, without a rule that a fault could hide in.
func some(n int) []byte {
	out := make([]byte, n)
	x := uint32(n) + 5
	for i := range out {
		x = x*1664525 + 1013904223
		out[i] = byte(x >> 24)
	}
	return out
}

// copied is a list in memory of its own, nil where it is nil.
func copied(l [][]byte) [][]byte {
	out := slices.Clone(l)
	for i := range out {
		out[i] = slices.Clone(out[i])
	}
	return out
}

// told is whether bytes are the same, as the promise's words tell it: as many, and each one.
func told(a, b []byte) bool {
	if len(a) != len(b) {
		return false
	}
	for i := range a {
		if a[i] != b[i] {
			return false
		}
	}
	return true
}

// toldPlace is the number of the first one that is the same, as the promise's words tell it.
func toldPlace(l [][]byte, b []byte) int {
	for i, x := range l {
		if told(x, b) {
			return i
		}
	}
	return -1
}

// holdBytes asks for an answer of Bytes, whichever stands first.
func holdBytes(t *testing.T, a, b []byte, want bool) {
	t.Helper()
	if got := Bytes(a, b); got != want {
		t.Errorf("Bytes of %d and %d bytes: %v, want %v (%x, %x)", len(a), len(b), got, want, a, b)
	}
	if got := Bytes(b, a); got != want {
		t.Errorf("Bytes of %d and %d bytes, the other way round: %v, want %v (%x, %x)", len(b), len(a), got, want, b, a)
	}
}

// holdFind asks for an answer of Find.
func holdFind(t *testing.T, l [][]byte, b []byte, want int) {
	t.Helper()
	if got := Find(l, b); got != want {
		t.Errorf("Find of %x among %x: %d, want %d", b, l, got, want)
	}
}

// P5.1

func TestBytesOfNothing(t *testing.T) {
	holdBytes(t, nil, nil, true)
	holdBytes(t, []byte{}, []byte{}, true)
	holdBytes(t, nil, []byte{}, true)
	holdBytes(t, nil, []byte{0}, false)
	holdBytes(t, []byte{}, []byte{0}, false)
	holdBytes(t, nil, some(160), false)
}

func TestBytesThatAreTheSame(t *testing.T) {
	for _, n := range lengths {
		holdBytes(t, some(n), some(n), true)
		holdBytes(t, make([]byte, n), make([]byte, n), true)
		holdBytes(t, bytes.Repeat([]byte{255}, n), bytes.Repeat([]byte{255}, n), true)
		one := some(n)
		holdBytes(t, one, one, true)
	}
}

func TestBytesThatDifferInOneBit(t *testing.T) {
	for _, n := range lengths {
		one, other := some(n), some(n)
		for i := range other {
			for bit := range 8 {
				other[i] ^= 1 << bit
				holdBytes(t, one, other, false)
				other[i] ^= 1 << bit
			}
		}
	}
}

// Differences that would undo each other if they were added, or laid over each other by xor, are differences still.
func TestBytesThatDifferInSeveral(t *testing.T) {
	holdBytes(t, []byte{1, 2}, []byte{2, 1}, false)
	holdBytes(t, []byte{1, 1}, []byte{0, 0}, false)
	holdBytes(t, []byte{255, 255}, []byte{0, 0}, false)
	holdBytes(t, []byte{0, 2}, []byte{1, 1}, false)
	holdBytes(t, []byte{5, 6, 7}, []byte{7, 6, 5}, false)
	holdBytes(t, bytes.Repeat([]byte{1}, 256), make([]byte, 256), false)
	holdBytes(t, bytes.Repeat([]byte{128}, 512), make([]byte, 512), false)
	holdBytes(t, bytes.Repeat([]byte{255}, 256), bytes.Repeat([]byte{254}, 256), false)
	holdBytes(t, some(192), bytes.Repeat([]byte{170}, 192), false)
}

func TestBytesEachAgainstEach(t *testing.T) {
	for a := range 256 {
		for b := range 256 {
			holdBytes(t, []byte{byte(a)}, []byte{byte(b)}, a == b)
		}
	}
}

func TestBytesOfOtherLengths(t *testing.T) {
	for _, n := range lengths {
		whole := some(n)
		for m := range n {
			holdBytes(t, whole[:m], whole, false)
			holdBytes(t, whole[m+1:], whole, false)
		}
		for _, more := range []int{1, 2, 8, 256, 65536} {
			holdBytes(t, whole, append(some(n), make([]byte, more)...), false)
			holdBytes(t, whole, append(make([]byte, more), whole...), false)
			holdBytes(t, make([]byte, n), make([]byte, n+more), false)
		}
	}
}

// What stands behind a slice's end, within its memory, is none of its bytes.
func TestBytesWithinGreaterMemory(t *testing.T) {
	one, other := some(64), some(64)
	other[32] ^= 1
	holdBytes(t, one[:32], other[:32], true)
	holdBytes(t, one[:33], other[:33], false)
	holdBytes(t, one[33:], other[33:], true)
	holdBytes(t, one[:32], one[:33], false)
}

func TestChooseExample(t *testing.T) {
	if got := Choose(1, 5, 7); got != 5 {
		t.Errorf("Choose of 1, 5, 7: %d, want 5", got)
	}
	if got := Choose(0, 5, 7); got != 7 {
		t.Errorf("Choose of 0, 5, 7: %d, want 7", got)
	}
}

func TestChooseByTheLowestBitAlone(t *testing.T) {
	for _, bit := range numbers {
		for _, one := range numbers {
			for _, other := range numbers {
				want := other
				if bit%2 == 1 {
					want = one
				}
				if got := Choose(bit, one, other); got != want {
					t.Errorf("Choose of %d, %d, %d: %d, want %d", bit, one, other, got, want)
				}
			}
		}
	}
}

func TestChooseWithEachOtherBit(t *testing.T) {
	for i := 1; i < 64; i++ {
		if got := Choose(1<<i, 5, 7); got != 7 {
			t.Errorf("bit %d alone: %d, want 7", i, got)
		}
		if got := Choose(1<<i|1, 5, 7); got != 5 {
			t.Errorf("bit %d and the lowest one: %d, want 5", i, got)
		}
		if got := Choose(math.MaxUint64<<i, 5, 7); got != 7 {
			t.Errorf("all bits from %d on: %d, want 7", i, got)
		}
	}
}

func TestFindNone(t *testing.T) {
	holdFind(t, nil, nil, -1)
	holdFind(t, nil, []byte{}, -1)
	holdFind(t, nil, []byte{1}, -1)
	holdFind(t, [][]byte{}, nil, -1)
	holdFind(t, [][]byte{}, []byte{1}, -1)
	holdFind(t, [][]byte{{1}}, []byte{2}, -1)
	holdFind(t, [][]byte{{1}}, nil, -1)
	holdFind(t, [][]byte{nil}, []byte{0}, -1)
	holdFind(t, [][]byte{{1}, {2}, {3}}, []byte{4}, -1)
}

func TestFindOne(t *testing.T) {
	for n := 1; n <= 40; n++ {
		l := make([][]byte, n)
		for i := range l {
			l[i] = append(some(31), byte(i))
		}
		for i := range l {
			holdFind(t, l, append(some(31), byte(i)), i)
		}
		holdFind(t, l, append(some(31), byte(n)), -1)
	}
}

func TestFindFirstOfSeveral(t *testing.T) {
	holdFind(t, [][]byte{{1}, {2}, {2}}, []byte{2}, 1)
	holdFind(t, [][]byte{{2}, {2}, {2}}, []byte{2}, 0)
	holdFind(t, [][]byte{{2}, {1}, {2}}, []byte{2}, 0)
	holdFind(t, [][]byte{{1}, {3}, {2}, {1}, {2}}, []byte{2}, 2)
	holdFind(t, [][]byte{{1}, {3}, {2}, {1}, {2}}, []byte{1}, 0)
	for first := range 300 {
		l := make([][]byte, 300)
		for i := range l {
			l[i] = []byte{7, 0}
			if i >= first {
				l[i] = []byte{7, 1}
			}
		}
		holdFind(t, l, []byte{7, 1}, first)
	}
}

func TestFindNothing(t *testing.T) {
	holdFind(t, [][]byte{nil}, nil, 0)
	holdFind(t, [][]byte{{}}, nil, 0)
	holdFind(t, [][]byte{nil}, []byte{}, 0)
	holdFind(t, [][]byte{{0}, {}, nil}, nil, 1)
	holdFind(t, [][]byte{{0}, nil, {}}, []byte{}, 1)
}

func TestFindAmongBytesThatBeginAlike(t *testing.T) {
	whole := some(32)
	longer := append(some(32), 0)
	last := some(32)
	last[31] ^= 1
	l := [][]byte{nil, whole[:1], whole[:31], longer, last}
	holdFind(t, l, whole, -1)
	holdFind(t, append(copied(l), whole), whole, 5)
	holdFind(t, append(copied(l), whole, longer, whole), whole, 5)
	holdFind(t, l, longer, 3)
	holdFind(t, l, whole[:31], 2)
	holdFind(t, l, last, 4)
	holdFind(t, [][]byte{{1, 0}, {1, 0, 0}, {1}}, []byte{1}, 2)
}

// All lists of up to five rows out of these few, and each row looked for.
func TestFindAsTold(t *testing.T) {
	rows := [][]byte{nil, {0}, {0, 0}, {1}, {0, 1}}
	for n := range 6 {
		all := 1
		for range n {
			all *= len(rows)
		}
		for k := range all {
			l := make([][]byte, n)
			for i, rest := 0, k; i < n; i, rest = i+1, rest/len(rows) {
				l[i] = rows[rest%len(rows)]
			}
			for _, b := range rows {
				holdFind(t, l, b, toldPlace(l, b))
			}
		}
	}
}

func TestNothingHandedInIsChanged(t *testing.T) {
	a, b := some(100), some(90)
	same := some(100)
	Bytes(a, b)
	Bytes(b, a)
	Bytes(a, same)
	if !bytes.Equal(a, some(100)) || !bytes.Equal(b, some(90)) || !bytes.Equal(same, some(100)) {
		t.Error("Bytes changes what is handed in")
	}
	l := [][]byte{some(3), nil, some(5), {}, some(5)}
	kept := copied(l)
	sought := some(5)
	Find(l, sought)
	Find(l, nil)
	Find(l, some(7))
	if !slices.EqualFunc(l, kept, bytes.Equal) || !bytes.Equal(sought, some(5)) {
		t.Error("Find changes what is handed in")
	}
}

// The same calls have the same answers: nothing is kept from one to the next.
func TestNothingIsKept(t *testing.T) {
	for range 3 {
		holdFind(t, [][]byte{{1}, {2}}, []byte{2}, 1)
		holdFind(t, [][]byte{{1}, {2}}, []byte{3}, -1)
		holdBytes(t, []byte{1}, []byte{1}, true)
		holdBytes(t, []byte{1}, []byte{2}, false)
	}
	b := []byte{1, 2}
	l := [][]byte{b}
	holdFind(t, l, []byte{1, 2}, 0)
	b[0] = 9
	holdFind(t, l, []byte{1, 2}, -1)
	holdFind(t, l, []byte{9, 2}, 0)
}

// P5.2

func TestSameWhicheverStandsFirst(t *testing.T) {
	var rows [][]byte
	for _, n := range lengths {
		rows = append(rows, some(n), make([]byte, n), bytes.Repeat([]byte{255}, n))
	}
	for _, a := range rows {
		if !Bytes(a, slices.Clone(a)) || !Bytes(slices.Clone(a), a) {
			t.Errorf("%d bytes aren't said to be the same as their copy", len(a))
		}
		for _, b := range rows {
			holdBytes(t, a, b, told(a, b))
		}
	}
}

// Bytes, Find and Choose tell of one another: who is found is the same, and those ahead aren't.
func TestFoundIsTheSame(t *testing.T) {
	var l [][]byte
	for i := range 64 {
		l = append(l, some(i%9))
	}
	for n := range 12 {
		b := some(n)
		at := Find(l, b)
		ahead := l
		if at >= 0 {
			ahead = l[:at]
			holdBytes(t, l[at], b, true)
		}
		for _, x := range ahead {
			holdBytes(t, x, b, false)
		}
	}
}
