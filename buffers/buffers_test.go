package buffers

import (
	"bytes"
	"cmp"
	"math"
	"slices"
	"testing"

	"reliquary/api"
)

// The calls as chapter 15 lists them: this doesn't build if a signature is another one.
var (
	_ func(int) *Cache                       = New
	_ func(*Cache, uint64) ([]byte, bool)    = (*Cache).Get
	_ func(*Cache, uint64, []byte) api.Errno = (*Cache).Put
	_ func(*Cache, uint64) bool              = (*Cache).Pin
	_ func(*Cache, uint64) bool              = (*Cache).Unpin
	_ func(*Cache, uint64) bool              = (*Cache).Drop
	_ func(*Cache)                           = (*Cache).Clear
	_ func(*Cache) []uint64                  = (*Cache).Blocks
)

// top is the greatest number.
const top = math.MaxUint64

// numbers are blocks' numbers that are alike in their low, or in their high, bytes.
var numbers = []uint64{0, 1, 2, 255, 256, 257, 1 << 31, 1 << 32, 1<<32 + 1, 1<<63 - 1, 1 << 63, 1<<63 + 1, top - 1, top}

// long is so many bytes without a rule that a fault could hide in; each seed has others.
func long(seed uint64, n int) []byte {
	out := make([]byte, n)
	x := uint32(seed)*2654435761 + uint32(seed>>32)*40503 + 23
	for i := range out {
		x = x*1664525 + 1013904223
		out[i] = byte(x >> 24)
	}
	return out
}

// some is a block's bytes.
func some(seed uint64) []byte { return long(seed, 160) }

// must holds an error against the one that is asked for.
func must(t *testing.T, got, want api.Errno) {
	t.Helper()
	if got != want {
		t.Fatalf("error %d, not %d", got, want)
	}
}

// is holds a truth against the one that is asked for.
func is(t *testing.T, what string, got, want bool) {
	t.Helper()
	if got != want {
		t.Fatalf("%s: %t, not %t", what, got, want)
	}
}

// row holds a cache's row against these numbers.
func row(t *testing.T, c *Cache, want ...uint64) {
	t.Helper()
	if got := c.Blocks(); !slices.Equal(got, want) {
		t.Fatalf("Blocks: %v, not %v", got, want)
	}
}

// has holds a block's bytes against these; the block stands first then.
func has(t *testing.T, c *Cache, block uint64, want []byte) {
	t.Helper()
	if b, ok := c.Get(block); !ok || !bytes.Equal(b, want) {
		t.Fatalf("Get of %d: %x, %t, not %x", block, b, ok, want)
	}
}

// hasNot asks for a block that must not be kept.
func hasNot(t *testing.T, c *Cache, block uint64) {
	t.Helper()
	if b, ok := c.Get(block); ok || len(b) > 0 {
		t.Fatalf("Get of %d: %x, %t", block, b, ok)
	}
}

// held holds how often a block is held against a number, and leaves it so.
func held(t *testing.T, c *Cache, block uint64, want int) {
	t.Helper()
	got := 0
	for got <= want && c.Unpin(block) { // no more than one too many, so that it ends whatever Unpin answers
		got++
	}
	for range got {
		is(t, "Pin", c.Pin(block), true)
	}
	if got != want {
		t.Fatalf("block %d is held %d times, not %d", block, got, want)
	}
}

// filled is a cache of n, in which these blocks were put one behind the other, each with bytes of its number.
func filled(t *testing.T, n int, blocks ...uint64) *Cache {
	t.Helper()
	c := New(n)
	for _, block := range blocks {
		must(t, c.Put(block, some(block)), api.OK)
	}
	return c
}

// pinned is such a cache, of which those blocks are held once.
func pinned(t *testing.T, c *Cache, blocks ...uint64) *Cache {
	t.Helper()
	for _, block := range blocks {
		is(t, "Pin", c.Pin(block), true)
	}
	return c
}

// P15.1: New.

func TestNewKeepsNothing(t *testing.T) {
	for _, n := range []int{math.MinInt, -7, -1, 0, 1, 2, 1024, math.MaxInt} {
		c := New(n)
		if c == nil {
			t.Fatalf("New of %d is nil", n)
		}
		row(t, c)
		for _, block := range numbers {
			hasNot(t, c, block)
			is(t, "Pin", c.Pin(block), false)
			is(t, "Unpin", c.Unpin(block), false)
			is(t, "Drop", c.Drop(block), false)
		}
		c.Clear()
		row(t, c)
	}
}

func TestNewBelowOneHoldsNone(t *testing.T) {
	for _, n := range []int{math.MinInt, -160, -2, -1, 0} {
		c := New(n)
		for _, block := range numbers {
			must(t, c.Put(block, some(block)), api.ErrFull)
			row(t, c)
			hasNot(t, c, block)
		}
		must(t, c.Put(1, nil), api.ErrArg)
		c.Clear()
		must(t, c.Put(1, some(1)), api.ErrFull)
	}
}

func TestNewHoldsSoMany(t *testing.T) {
	for _, n := range []int{1, 2, 3, 4, 7, 8, 9, 100, 1024} {
		c := New(n)
		var want []uint64
		for i := range uint64(n) {
			must(t, c.Put(3*i, some(i)), api.OK)
			want = slices.Insert(want, 0, 3*i)
			row(t, c, want...)
		}
		must(t, c.Put(1, some(1)), api.OK)
		row(t, c, append([]uint64{1}, want[:n-1]...)...)
		hasNot(t, c, 0)
	}
}

func TestNewOfTheGreatest(t *testing.T) {
	c := New(math.MaxInt)
	for i := range uint64(500) {
		must(t, c.Put(i, some(i)), api.OK)
	}
	for i := range uint64(500) {
		has(t, c, i, some(i))
	}
}

// P15.1: Get.

func TestGetOfWhatIsKept(t *testing.T) {
	c := filled(t, len(numbers), numbers...)
	for range 2 {
		for _, block := range numbers {
			has(t, c, block, some(block))
		}
	}
	for _, block := range []uint64{3, 254, 1 << 30, 1<<32 + 2, 1<<62 - 1, top - 2} {
		hasNot(t, c, block)
	}
}

func TestGetLetsItStandFirst(t *testing.T) {
	for _, x := range []struct {
		block uint64
		want  []uint64
	}{
		{5, []uint64{5, 4, 3, 2, 1}},
		{4, []uint64{4, 5, 3, 2, 1}},
		{3, []uint64{3, 5, 4, 2, 1}},
		{2, []uint64{2, 5, 4, 3, 1}},
		{1, []uint64{1, 5, 4, 3, 2}},
	} {
		c := filled(t, 5, 1, 2, 3, 4, 5)
		has(t, c, x.block, some(x.block))
		row(t, c, x.want...)
		has(t, c, x.block, some(x.block))
		row(t, c, x.want...)
	}
}

func TestGetOfWhatIsNotKeptMovesNothing(t *testing.T) {
	c := filled(t, 4, 1, 2, 3)
	hasNot(t, c, 4)
	hasNot(t, c, 0)
	row(t, c, 3, 2, 1)
}

func TestGetDecidesWhatIsForgotten(t *testing.T) {
	c := filled(t, 3, 1, 2, 3)
	has(t, c, 1, some(1))
	must(t, c.Put(4, some(4)), api.OK)
	row(t, c, 4, 1, 3)
	has(t, c, 3, some(3))
	must(t, c.Put(5, some(5)), api.OK)
	row(t, c, 5, 3, 4)
}

func TestGetHoldsNothing(t *testing.T) {
	c := filled(t, 2, 1, 2)
	for range 3 {
		has(t, c, 1, some(1))
	}
	held(t, c, 1, 0)
	is(t, "Drop", c.Drop(1), true)
}

// P15.1: Put.

// The chapter's example.
func TestPutInACacheOfOne(t *testing.T) {
	c := New(1)
	must(t, c.Put(1, some(1)), api.OK)
	must(t, c.Put(2, some(2)), api.OK)
	hasNot(t, c, 1)
	has(t, c, 2, some(2))
	row(t, c, 2)
}

func TestPutRefusesOtherLengths(t *testing.T) {
	whole := long(9, 500)
	full := pinned(t, filled(t, 2, 1, 2), 1, 2)
	for n := range len(whole) + 1 {
		if n == 160 {
			continue
		}
		// The capacity goes on behind the end: only the length may count.
		for _, block := range []uint64{1, 2, 3} {
			must(t, full.Put(block, whole[:n]), api.ErrArg)
			must(t, New(0).Put(block, whole[:n]), api.ErrArg)
			free := filled(t, 2, 1)
			must(t, free.Put(block, whole[:n]), api.ErrArg)
			row(t, free, 1)
			has(t, free, 1, some(1))
		}
	}
	must(t, full.Put(1, nil), api.ErrArg)
	must(t, full.Put(3, nil), api.ErrArg)
	row(t, full, 2, 1)
	for _, block := range []uint64{1, 2} {
		has(t, full, block, some(block))
		held(t, full, block, 1)
	}
}

func TestPutOfOtherLengthsForgetsNothing(t *testing.T) {
	c := filled(t, 2, 1, 2)
	must(t, c.Put(3, some(3)[1:]), api.ErrArg)
	must(t, c.Put(1, some(3)[:159]), api.ErrArg)
	row(t, c, 2, 1)
	has(t, c, 1, some(1))
	has(t, c, 2, some(2))
}

func TestPutWithinALongerRow(t *testing.T) {
	c, whole := New(1), long(9, 500)
	must(t, c.Put(1, whole[100:260]), api.OK)
	has(t, c, 1, whole[100:260])
}

func TestPutOfWhatIsKept(t *testing.T) {
	for _, block := range []uint64{1, 2, 3} {
		c := filled(t, 3, 1, 2, 3)
		must(t, c.Put(block, some(90+block)), api.OK)
		want := slices.DeleteFunc([]uint64{3, 2, 1}, func(x uint64) bool { return x == block })
		row(t, c, append([]uint64{block}, want...)...)
		for _, other := range want {
			has(t, c, other, some(other))
		}
		has(t, c, block, some(90+block))
	}
}

func TestPutOfWhatIsKeptForgetsNothing(t *testing.T) {
	c := pinned(t, filled(t, 2, 1, 2), 1, 1, 2)
	must(t, c.Put(1, some(91)), api.OK)
	row(t, c, 1, 2)
	must(t, c.Put(2, some(92)), api.OK)
	row(t, c, 2, 1)
	held(t, c, 1, 2)
	held(t, c, 2, 1)
	has(t, c, 1, some(91))
	has(t, c, 2, some(92))
}

func TestPutOfTheSameBytesTwice(t *testing.T) {
	c := filled(t, 2, 1, 2)
	must(t, c.Put(1, some(1)), api.OK)
	row(t, c, 1, 2)
	has(t, c, 1, some(1))
}

func TestPutForgetsTheLastThatIsNotHeld(t *testing.T) {
	for n := 1; n <= 7; n++ {
		for bits := range 1 << n {
			c := New(n)
			var want, all []uint64
			for i := range uint64(n) {
				must(t, c.Put(i, some(i)), api.OK)
				all = slices.Insert(all, 0, i)
			}
			gone := -1
			for i := range n {
				if bits>>i&1 == 1 {
					is(t, "Pin", c.Pin(uint64(i)), true)
				} else if gone < 0 {
					gone = i
				}
			}
			if gone < 0 {
				must(t, c.Put(99, some(99)), api.ErrFull)
				row(t, c, all...)
				hasNot(t, c, 99)
				continue
			}
			want = slices.DeleteFunc(slices.Clone(all), func(x uint64) bool { return x == uint64(gone) })
			must(t, c.Put(99, some(99)), api.OK)
			row(t, c, append([]uint64{99}, want...)...)
			for i := range n {
				if i != gone {
					has(t, c, uint64(i), some(uint64(i)))
					held(t, c, uint64(i), bits>>i&1)
				}
			}
			hasNot(t, c, uint64(gone))
		}
	}
}

func TestPutBelowTheMostForgetsNothing(t *testing.T) {
	c := filled(t, 3, 1, 2)
	must(t, c.Put(3, some(3)), api.OK)
	row(t, c, 3, 2, 1)
	// With all of them held, too: one more has room.
	c = pinned(t, filled(t, 3, 1, 2), 1, 2)
	must(t, c.Put(3, some(3)), api.OK)
	row(t, c, 3, 2, 1)
}

func TestPutOfAFullOneChangesNothing(t *testing.T) {
	c := pinned(t, filled(t, 3, 1, 2, 3), 1, 2, 2, 3)
	for range 3 {
		must(t, c.Put(4, some(4)), api.ErrFull)
		row(t, c, 3, 2, 1)
	}
	hasNot(t, c, 4)
	is(t, "Pin", c.Pin(4), false)
	for i, times := range []int{1, 2, 1} {
		has(t, c, uint64(i+1), some(uint64(i+1)))
		held(t, c, uint64(i+1), times)
	}
	is(t, "Unpin", c.Unpin(2), true)
	must(t, c.Put(4, some(4)), api.ErrFull)
	is(t, "Unpin", c.Unpin(2), true)
	must(t, c.Put(4, some(4)), api.OK)
	row(t, c, 4, 3, 1)
}

func TestPutHoldsNothing(t *testing.T) {
	c := filled(t, 2, 1, 2)
	held(t, c, 1, 0)
	held(t, c, 2, 0)
	must(t, c.Put(1, some(3)), api.OK)
	held(t, c, 1, 0)
	must(t, c.Put(3, some(3)), api.OK)
	held(t, c, 3, 0)
	row(t, c, 3, 1)
}

// A block that comes back is new: nothing of it was kept.
func TestPutOfWhatWasForgotten(t *testing.T) {
	c := filled(t, 1, 1, 2)
	must(t, c.Put(1, some(91)), api.OK)
	row(t, c, 1)
	has(t, c, 1, some(91))
	c = pinned(t, filled(t, 2, 1, 2), 1, 1)
	c.Clear()
	must(t, c.Put(1, some(91)), api.OK)
	held(t, c, 1, 0)
	has(t, c, 1, some(91))
	is(t, "Drop", c.Drop(1), true)
	must(t, c.Put(1, some(92)), api.OK)
	has(t, c, 1, some(92))
}

// P15.2: Pin and Unpin.

func TestPinOfWhatIsKept(t *testing.T) {
	for _, times := range []int{1, 2, 3, 255, 256, 257, 70000} {
		c := filled(t, 2, 1, 2)
		for range times {
			is(t, "Pin", c.Pin(1), true)
		}
		held(t, c, 2, 0)
		for range times {
			is(t, "Drop", c.Drop(1), false)
			is(t, "Unpin", c.Unpin(1), true)
		}
		for range 3 {
			is(t, "Unpin", c.Unpin(1), false)
		}
		is(t, "Drop", c.Drop(1), true)
	}
}

func TestPinOfWhatIsNotKept(t *testing.T) {
	c := filled(t, 3, 1, 2)
	for _, block := range []uint64{0, 3, 257, 1<<32 + 1, 1<<63 + 1, top} {
		is(t, "Pin", c.Pin(block), false)
		is(t, "Unpin", c.Unpin(block), false)
	}
	row(t, c, 2, 1)
	// What was asked for ahead of its coming doesn't hold it.
	must(t, c.Put(3, some(3)), api.OK)
	held(t, c, 3, 0)
	held(t, c, 1, 0)
	held(t, c, 2, 0)
}

func TestPinMovesNothing(t *testing.T) {
	c := filled(t, 3, 1, 2, 3)
	for _, block := range []uint64{1, 2, 3} {
		is(t, "Pin", c.Pin(block), true)
		row(t, c, 3, 2, 1)
	}
	for _, block := range []uint64{1, 2, 3} {
		is(t, "Unpin", c.Unpin(block), true)
		row(t, c, 3, 2, 1)
		is(t, "Unpin", c.Unpin(block), false)
		row(t, c, 3, 2, 1)
	}
	for _, block := range []uint64{1, 2, 3} {
		has(t, c, block, some(block))
	}
}

func TestUnpinnedMayBeForgotten(t *testing.T) {
	c := pinned(t, filled(t, 2, 1, 2), 1)
	must(t, c.Put(3, some(3)), api.OK)
	row(t, c, 3, 1)
	is(t, "Unpin", c.Unpin(1), true)
	must(t, c.Put(4, some(4)), api.OK)
	row(t, c, 4, 3)
}

func TestUnpinOfNoughtDoesNotGoBelow(t *testing.T) {
	c := filled(t, 1, 1)
	is(t, "Unpin", c.Unpin(1), false)
	is(t, "Unpin", c.Unpin(1), false)
	is(t, "Pin", c.Pin(1), true)
	must(t, c.Put(2, some(2)), api.ErrFull)
	held(t, c, 1, 1)
}

// The number goes with its block, wherever that one moves.
func TestHeldGoesWithTheBlock(t *testing.T) {
	c := filled(t, 4, 1, 2, 3, 4)
	for block := range uint64(4) {
		for range block + 1 {
			is(t, "Pin", c.Pin(block+1), true)
		}
	}
	for _, block := range []uint64{2, 4, 1, 1, 3, 2} {
		has(t, c, block, some(block))
		for other := range uint64(4) {
			held(t, c, other+1, int(other+1))
		}
	}
	is(t, "Unpin", c.Unpin(1), true)
	is(t, "Drop", c.Drop(1), true)
	for other := uint64(2); other <= 4; other++ {
		held(t, c, other, int(other))
	}
}

// P15.2: Drop, Clear, Blocks.

func TestDrop(t *testing.T) {
	for _, block := range []uint64{1, 2, 3, 4} {
		c := filled(t, 4, 1, 2, 3, 4)
		is(t, "Drop", c.Drop(block), true)
		left := slices.DeleteFunc([]uint64{4, 3, 2, 1}, func(x uint64) bool { return x == block })
		row(t, c, left...)
		is(t, "Drop", c.Drop(block), false)
		hasNot(t, c, block)
		is(t, "Pin", c.Pin(block), false)
		for _, other := range slices.Backward(left) {
			has(t, c, other, some(other))
		}
		row(t, c, left...)
		// There is room for one more now.
		must(t, c.Put(9, some(9)), api.OK)
		row(t, c, append([]uint64{9}, left...)...)
	}
}

func TestDropOfWhatIsHeld(t *testing.T) {
	c := pinned(t, filled(t, 3, 1, 2, 3), 2, 2)
	is(t, "Drop", c.Drop(2), false)
	row(t, c, 3, 2, 1)
	is(t, "Unpin", c.Unpin(2), true)
	is(t, "Drop", c.Drop(2), false)
	held(t, c, 2, 1)
	is(t, "Unpin", c.Unpin(2), true)
	is(t, "Drop", c.Drop(2), true)
	row(t, c, 3, 1)
}

func TestDropOfWhatIsNotKept(t *testing.T) {
	c := filled(t, 2, 1, 2)
	for _, block := range []uint64{0, 3, 257, 1<<32 + 1, 1<<63 + 1, top} {
		is(t, "Drop", c.Drop(block), false)
	}
	row(t, c, 2, 1)
}

func TestClear(t *testing.T) {
	c := pinned(t, filled(t, 3, 1, 2, 3), 1, 3, 3)
	c.Clear()
	row(t, c)
	for _, block := range []uint64{1, 2, 3} {
		hasNot(t, c, block)
		is(t, "Pin", c.Pin(block), false)
		is(t, "Unpin", c.Unpin(block), false)
		is(t, "Drop", c.Drop(block), false)
	}
	c.Clear()
	// It takes as many as ahead of it, none of them held.
	for block := range uint64(5) {
		must(t, c.Put(block, some(block+50)), api.OK)
	}
	row(t, c, 4, 3, 2)
	for _, block := range []uint64{2, 3, 4} {
		has(t, c, block, some(block+50))
		held(t, c, block, 0)
	}
}

func TestBlocksMovesNothing(t *testing.T) {
	c := pinned(t, filled(t, 3, 7, top, 0), top)
	for range 3 {
		row(t, c, 0, top, 7)
	}
	held(t, c, top, 1)
}

func TestNil(t *testing.T) {
	var c *Cache
	for _, block := range numbers {
		hasNot(t, c, block)
		must(t, c.Put(block, some(block)), api.ErrArg)
		must(t, c.Put(block, nil), api.ErrArg)
		is(t, "Pin", c.Pin(block), false)
		is(t, "Unpin", c.Unpin(block), false)
		is(t, "Drop", c.Drop(block), false)
	}
	c.Clear()
	row(t, c)
}

// A cache that New didn't make has room for none; whatever is asked of it, it answers.
func TestWithoutNew(t *testing.T) {
	var c Cache
	must(t, c.Put(1, some(1)), api.ErrFull)
	hasNot(t, &c, 1)
	is(t, "Pin", c.Pin(1), false)
	is(t, "Unpin", c.Unpin(1), false)
	is(t, "Drop", c.Drop(1), false)
	c.Clear()
	row(t, &c)
}

func TestCachesAreApart(t *testing.T) {
	one, other := New(2), New(2)
	must(t, one.Put(1, some(1)), api.OK)
	row(t, other)
	must(t, other.Put(1, some(2)), api.OK)
	is(t, "Pin", other.Pin(1), true)
	has(t, one, 1, some(1))
	held(t, one, 1, 0)
	one.Clear()
	has(t, other, 1, some(2))
	held(t, other, 1, 1)
}

// Memory of their own (rule 3)

func TestPutKeepsBytesOfItsOwn(t *testing.T) {
	c, b := New(2), some(1)
	must(t, c.Put(1, b), api.OK)
	must(t, c.Put(2, b), api.OK)
	must(t, c.Put(1, b), api.OK)
	if !bytes.Equal(b, some(1)) {
		t.Error("Put changes what is handed in")
	}
	clear(b)
	has(t, c, 1, some(1))
	has(t, c, 2, some(1))
	must(t, c.Put(1, some(3)), api.OK)
	has(t, c, 2, some(1))
	if !bytes.Equal(b, make([]byte, 160)) {
		t.Error("a later Put changes what was handed in")
	}
}

func TestPutWritesNothingBehindItsBytes(t *testing.T) {
	c, whole := New(2), long(9, 500)
	must(t, c.Put(1, whole[:160]), api.OK)
	must(t, c.Put(2, whole[160:320]), api.OK)
	must(t, c.Put(1, some(3)), api.OK)
	if !bytes.Equal(whole, long(9, 500)) {
		t.Error("what stands about the bytes is changed")
	}
}

func TestGetTellsNewMemory(t *testing.T) {
	c := filled(t, 2, 1, 2)
	for _, block := range []uint64{1, 2} {
		b, _ := c.Get(block)
		again, _ := c.Get(block)
		clear(b[:cap(b)])
		_ = append(b, 9, 9, 9)
		if !bytes.Equal(again, some(block)) {
			t.Errorf("two answers of %d share memory", block)
		}
	}
	has(t, c, 1, some(1))
	has(t, c, 2, some(2))
}

func TestGetIsOfThatTime(t *testing.T) {
	c := filled(t, 1, 1)
	b, _ := c.Get(1)
	must(t, c.Put(1, some(2)), api.OK)
	early, _ := c.Get(1)
	must(t, c.Put(3, some(3)), api.OK)
	c.Clear()
	must(t, c.Put(4, some(4)), api.OK)
	if !bytes.Equal(b, some(1)) || !bytes.Equal(early, some(2)) {
		t.Error("what was told changed later")
	}
}

func TestBlocksTellsNewMemory(t *testing.T) {
	c := filled(t, 4, 1, 2, 3)
	l, early := c.Blocks(), c.Blocks()
	clear(l[:cap(l)])
	_ = append(l, 9, 9)
	row(t, c, 3, 2, 1)
	has(t, c, 1, some(1))
	must(t, c.Put(4, some(4)), api.OK)
	is(t, "Drop", c.Drop(2), true)
	if !slices.Equal(early, []uint64{3, 2, 1}) {
		t.Error("what was told changed later")
	}
	row(t, c, 4, 1, 3)
}

// P15.3

// told is a cache as the promises' words tell it: not as a row, but by when each block was used last.
type told struct {
	most int
	now  int
	kept map[uint64]*one
}

type one struct {
	text string
	held int
	used int
}

func (m *told) use(block uint64) {
	m.now++
	m.kept[block].used = m.now
}

// blocks are the numbers, the last one that was used first.
func (m *told) blocks() []uint64 {
	var out []uint64
	for block := range m.kept {
		out = append(out, block)
	}
	slices.SortFunc(out, func(a, b uint64) int { return cmp.Compare(m.kept[b].used, m.kept[a].used) })
	return out
}

func (m *told) get(block uint64) (string, bool) {
	x, ok := m.kept[block]
	if !ok {
		return "", false
	}
	m.use(block)
	return x.text, true
}

func (m *told) put(block uint64, b []byte) api.Errno {
	if len(b) != 160 {
		return api.ErrArg
	}
	if x, ok := m.kept[block]; ok {
		x.text = string(b)
		m.use(block)
		return api.OK
	}
	for len(m.kept) > m.most-1 {
		free := slices.DeleteFunc(m.blocks(), func(x uint64) bool { return m.kept[x].held > 0 })
		if len(free) == 0 {
			return api.ErrFull
		}
		delete(m.kept, free[len(free)-1])
	}
	m.kept[block] = &one{text: string(b)}
	m.use(block)
	return api.OK
}

func (m *told) pin(block uint64) bool {
	x, ok := m.kept[block]
	if ok {
		x.held++
	}
	return ok
}

func (m *told) unpin(block uint64) bool {
	x, ok := m.kept[block]
	if !ok || x.held == 0 {
		return false
	}
	x.held--
	return true
}

func (m *told) drop(block uint64) bool {
	if x, ok := m.kept[block]; !ok || x.held > 0 {
		return false
	}
	delete(m.kept, block)
	return true
}

// call does one call on both, and holds the answers against each other, and what P15.3 says against the row.
func call(t *testing.T, c *Cache, m *told, kind int, block uint64, b []byte) {
	t.Helper()
	fast := holding(m)
	switch kind {
	case 0:
		got, ok := c.Get(block)
		want, wantOK := m.get(block)
		if string(got) != want || ok != wantOK {
			t.Fatalf("Get of %d: %x, %t, not %x, %t", block, got, ok, want, wantOK)
		}
	case 1:
		must(t, c.Put(block, b), m.put(block, b))
	case 2:
		is(t, "Pin", c.Pin(block), m.pin(block))
	case 3:
		is(t, "Unpin", c.Unpin(block), m.unpin(block))
	case 4:
		is(t, "Drop", c.Drop(block), m.drop(block))
	case 5:
		c.Clear()
		clear(m.kept)
		fast = nil
	}
	l := c.Blocks()
	if !slices.Equal(l, m.blocks()) {
		t.Fatalf("Blocks: %v, not %v", l, m.blocks())
	}
	if len(l) > max(m.most, 0) {
		t.Fatalf("%d are kept, of %d", len(l), m.most)
	}
	for _, block := range fast {
		if !slices.Contains(l, block) {
			t.Fatalf("block %d is held, and didn't stay", block)
		}
	}
}

// holding are the blocks that are held.
func holding(m *told) []uint64 {
	var out []uint64
	for block, x := range m.kept {
		if x.held > 0 {
			out = append(out, block)
		}
	}
	return out
}

// All rows of five calls on two blocks, and of four on three.
func TestAllShortRowsOfCalls(t *testing.T) {
	for _, x := range []struct{ blocks, calls int }{{2, 5}, {3, 4}} {
		kinds := 5*x.blocks + 1
		rows := 1
		for range x.calls {
			rows *= kinds
		}
		for n := range 3 {
			for k := range rows {
				c, m := New(n), &told{most: n, kept: map[uint64]*one{}}
				for i := range x.calls {
					at := k % kinds
					k /= kinds
					call(t, c, m, at%5+at/(kinds-1)*5, uint64(at/5), some(uint64(i)))
				}
			}
		}
	}
}

// dice are numbers in a row that is the same each time.
type dice uint32

func (x *dice) below(n int) int {
	*x = *x*1664525 + 1013904223
	return int(uint64(*x>>8) * uint64(n) >> 24)
}

func TestManyCallsInARow(t *testing.T) {
	kinds := []int{0, 0, 0, 1, 1, 1, 1, 1, 1, 2, 2, 3, 3, 4}
	for seed := range 60 {
		x, n := dice(seed), seed%11-1
		c, m := New(n), &told{most: n, kept: map[uint64]*one{}}
		for range 1500 {
			kind := kinds[x.below(len(kinds))]
			if x.below(150) == 0 {
				kind = 5
			}
			b := some(uint64(x.below(1000)))
			if x.below(15) == 0 {
				b = b[:x.below(160)]
			}
			call(t, c, m, kind, numbers[x.below(min(len(numbers), max(n, 0)+4))], b)
		}
		for block, x := range m.kept {
			has(t, c, block, []byte(x.text))
			held(t, c, block, x.held)
		}
	}
}

func TestWhatIsHeldStays(t *testing.T) {
	c := pinned(t, filled(t, 4, 1, 2, 3, 4), 1, 3)
	for block := uint64(10); block < 500; block++ {
		must(t, c.Put(block, some(block)), api.OK)
		if l := c.Blocks(); len(l) != 4 || !slices.Contains(l, 1) || !slices.Contains(l, 3) {
			t.Fatalf("Blocks: %v", l)
		}
	}
	row(t, c, 499, 498, 3, 1)
	has(t, c, 1, some(1))
	has(t, c, 3, some(3))
}
