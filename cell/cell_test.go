package cell

import (
	"bytes"
	"math"
	"slices"
	"testing"

	"reliquary/api"
)

// The calls as chapter 7 lists them: this doesn't build if a signature, or the size, is another one.
var (
	_ func(api.Cell) []byte              = Put
	_ func([]byte) (api.Cell, api.Errno) = Get
	_ func() *Keeper                     = New
	_ func(*Keeper) api.Cell             = (*Keeper).Get
	_ func(*Keeper, api.Cell) api.Errno  = (*Keeper).Put
	_ func(*Keeper) int                  = (*Keeper).Times
	_ [96]struct{}                       = [Size]struct{}{}
)

// top is the greatest number.
const top = math.MaxUint64

// counted is the bytes 1 to 96: no two are the same, and none is 0.
func counted() []byte {
	out := make([]byte, 96)
	for i := range out {
		out[i] = byte(i + 1)
	}
	return out
}

// countedCell is the cell of these, written out by hand.
func countedCell() api.Cell {
	return api.Cell{
		Root: api.Sum{
			1, 2, 3, 4, 5, 6, 7, 8, 9, 10, 11, 12, 13, 14, 15, 16,
			17, 18, 19, 20, 21, 22, 23, 24, 25, 26, 27, 28, 29, 30, 31, 32,
		},
		Version: 0x2827262524232221,
		Counter: 0x302f2e2d2c2b2a29,
		Start:   0x3837363534333231,
		Count:   0x403f3e3d3c3b3a39,
		Tag: api.Sum{
			65, 66, 67, 68, 69, 70, 71, 72, 73, 74, 75, 76, 77, 78, 79, 80,
			81, 82, 83, 84, 85, 86, 87, 88, 89, 90, 91, 92, 93, 94, 95, 96,
		},
	}
}

// some is 96 bytes without a rule that a fault could hide in; each seed has others.
func some(seed int) []byte {
	out := make([]byte, 96)
	x := uint32(seed)*2654435761 + 7
	for i := range out {
		x = x*1664525 + 1013904223
		out[i] = byte(x >> 24)
	}
	return out
}

// filled is a cell with something in all it has, and that counter.
func filled(seed int, counter uint64) api.Cell {
	s := uint64(seed)
	c := api.Cell{Version: 3*s + 1, Counter: counter, Start: 5*s + 2, Count: 7*s + 3}
	copy(c.Root[:], some(seed))
	copy(c.Tag[:], some(seed)[50:])
	return c
}

// field is one of a cell's numbers, and where its bytes begin.
type field struct {
	name string
	at   int
	of   func(*api.Cell) *uint64
}

// fields are the numbers in the promise's order.
func fields() []field {
	return []field{
		{"Version", 32, func(c *api.Cell) *uint64 { return &c.Version }},
		{"Counter", 40, func(c *api.Cell) *uint64 { return &c.Counter }},
		{"Start", 48, func(c *api.Cell) *uint64 { return &c.Start }},
		{"Count", 56, func(c *api.Cell) *uint64 { return &c.Count }},
	}
}

// must holds an error against the one that is asked for.
func must(t *testing.T, got, want api.Errno) {
	t.Helper()
	if got != want {
		t.Fatalf("error %d, not %d", got, want)
	}
}

// holds holds what a keeper tells against a cell and how often it was put.
func holds(t *testing.T, k *Keeper, c api.Cell, times int) {
	t.Helper()
	if got := k.Get(); got != c {
		t.Fatalf("Get: %v, not %v", got, c)
	}
	if got := k.Times(); got != times {
		t.Fatalf("Times: %d, not %d", got, times)
	}
}

// P7.1: Put.

func TestPutOfACellWhoseBytesDiffer(t *testing.T) {
	if got := Put(countedCell()); !bytes.Equal(got, counted()) {
		t.Errorf("Put: %v, not %v", got, counted())
	}
}

func TestPutOfNoughts(t *testing.T) {
	if got := Put(api.Cell{}); !bytes.Equal(got, make([]byte, 96)) {
		t.Errorf("Put: %v", got)
	}
}

func TestPutOfTheGreatest(t *testing.T) {
	c := api.Cell{Version: top, Counter: top, Start: top, Count: top}
	want := make([]byte, 96)
	for i := range 32 {
		c.Root[i], c.Tag[i] = 255, 255
	}
	for i := range want {
		want[i] = 255
	}
	if got := Put(c); !bytes.Equal(got, want) {
		t.Errorf("Put: %v", got)
	}
}

func TestPutLaysEachNumberAtItsPlace(t *testing.T) {
	for _, f := range fields() {
		for i := range 8 {
			var c api.Cell
			*f.of(&c) = 0xa5 << (8 * i)
			want := make([]byte, 96)
			want[f.at+i] = 0xa5
			if got := Put(c); !bytes.Equal(got, want) {
				t.Errorf("%s, byte %d: %v", f.name, i, got)
			}
		}
	}
}

func TestPutLaysEachSumAtItsPlace(t *testing.T) {
	for i := range 32 {
		root, tag := api.Cell{}, api.Cell{}
		root.Root[i], tag.Tag[i] = 0xa5, 0xa5
		want := make([]byte, 96)
		want[i] = 0xa5
		if got := Put(root); !bytes.Equal(got, want) {
			t.Errorf("Root, byte %d: %v", i, got)
		}
		want[i], want[64+i] = 0, 0xa5
		if got := Put(tag); !bytes.Equal(got, want) {
			t.Errorf("Tag, byte %d: %v", i, got)
		}
	}
}

// P7.1: Get.

func TestGetOfBytesThatDiffer(t *testing.T) {
	c, e := Get(counted())
	must(t, e, api.OK)
	if c != countedCell() {
		t.Errorf("Get: %v, not %v", c, countedCell())
	}
}

func TestGetOfNoughts(t *testing.T) {
	c, e := Get(make([]byte, 96))
	must(t, e, api.OK)
	if c != (api.Cell{}) {
		t.Errorf("Get: %v", c)
	}
}

func TestGetRefusesOtherLengths(t *testing.T) {
	long := slices.Concat(some(1), some(2), some(3))
	for n := range len(long) + 1 {
		if n == 96 {
			continue
		}
		// The capacity goes on behind the end: only the length may count.
		if c, e := Get(long[:n]); e != api.ErrForm || c != (api.Cell{}) {
			t.Errorf("Get of %d bytes: %v, error %d", n, c, e)
		}
	}
	if c, e := Get(nil); e != api.ErrForm || c != (api.Cell{}) {
		t.Errorf("Get of nil: %v, error %d", c, e)
	}
}

func TestGetWithinALongerRow(t *testing.T) {
	long := slices.Concat(some(1), counted(), some(2))
	c, e := Get(long[96:192])
	must(t, e, api.OK)
	if c != countedCell() {
		t.Errorf("Get: %v", c)
	}
}

// P7.1: one is the other's way back.

func TestGetOfPut(t *testing.T) {
	for seed := range 200 {
		want := filled(seed, uint64(seed)<<(seed%64))
		got, e := Get(Put(want))
		must(t, e, api.OK)
		if got != want {
			t.Fatalf("Get of Put: %v, not %v", got, want)
		}
	}
	for _, f := range fields() {
		for _, x := range []uint64{0, 1, 255, 256, 258, 1<<32 - 1, 1 << 32, 1<<63 - 1, 1 << 63, top - 1, top} {
			var want api.Cell
			*f.of(&want) = x
			got, e := Get(Put(want))
			must(t, e, api.OK)
			if got != want {
				t.Errorf("%s of %d: %v", f.name, x, got)
			}
		}
	}
}

func TestPutOfGet(t *testing.T) {
	for seed := range 200 {
		c, e := Get(some(seed))
		must(t, e, api.OK)
		if got := Put(c); !bytes.Equal(got, some(seed)) {
			t.Fatalf("Put of Get: %v, not %v", got, some(seed))
		}
	}
}

// P7.2

func TestNewKeepsNoughts(t *testing.T) {
	k := New()
	if k == nil {
		t.Fatal("New is nil")
	}
	holds(t, k, api.Cell{}, 0)
}

// The chapter's example.
func TestPutOfCounterNoughtInANewOne(t *testing.T) {
	k := New()
	must(t, k.Put(api.Cell{}), api.ErrBack)
	holds(t, k, api.Cell{}, 0)
	// Whatever else it has: only the counter counts.
	must(t, k.Put(filled(1, 0)), api.ErrBack)
	holds(t, k, api.Cell{}, 0)
}

func TestPutInANewOne(t *testing.T) {
	for _, n := range []uint64{1, 2, 255, 256, 1 << 32, 1<<63 - 1, 1 << 63, top} {
		k := New()
		must(t, k.Put(filled(1, n)), api.OK)
		holds(t, k, filled(1, n), 1)
	}
}

func TestPutBehindAnother(t *testing.T) {
	for _, at := range []uint64{1, 2, 7, 256, 1 << 32, 1<<63 - 1, 1 << 63, top - 1, top} {
		for _, n := range []uint64{0, 1, at / 2, at - 1, at, at + 1, at + 2, at + 1000, at << 1, at ^ 1<<63, 1<<63 - 1, 1 << 63, top - 1, top} {
			k, was, is := New(), filled(1, at), filled(2, n)
			must(t, k.Put(was), api.OK)
			if n > at {
				must(t, k.Put(is), api.OK)
				holds(t, k, is, 2)
			} else {
				must(t, k.Put(is), api.ErrBack)
				holds(t, k, was, 1)
			}
		}
	}
}

func TestPutOfTheSameCellTwice(t *testing.T) {
	k := New()
	must(t, k.Put(filled(1, 5)), api.OK)
	must(t, k.Put(filled(1, 5)), api.ErrBack)
	must(t, k.Put(filled(2, 5)), api.ErrBack)
	holds(t, k, filled(1, 5), 1)
}

func TestNothingIsAboveTheGreatest(t *testing.T) {
	k := New()
	must(t, k.Put(filled(1, top)), api.OK)
	for _, n := range []uint64{0, 1, 1 << 63, top - 1, top} {
		must(t, k.Put(filled(2, n)), api.ErrBack)
		holds(t, k, filled(1, top), 1)
	}
}

// Numbers beside the counter may fall, and may be nought.
func TestPutAsksForTheCounterAlone(t *testing.T) {
	k := New()
	must(t, k.Put(api.Cell{Version: 9, Counter: 1, Start: 9, Count: 9}), api.OK)
	must(t, k.Put(api.Cell{Counter: 2}), api.OK)
	holds(t, k, api.Cell{Counter: 2}, 2)
	must(t, k.Put(api.Cell{Version: top, Counter: 1, Start: top, Count: top}), api.ErrBack)
	holds(t, k, api.Cell{Counter: 2}, 2)
}

func TestPutGoesOnBehindARefusal(t *testing.T) {
	k := New()
	must(t, k.Put(filled(1, 10)), api.OK)
	must(t, k.Put(filled(2, 4)), api.ErrBack)
	// One that is above what was refused, but not above the cell.
	must(t, k.Put(filled(3, 7)), api.ErrBack)
	must(t, k.Put(filled(4, 11)), api.OK)
	holds(t, k, filled(4, 11), 2)
}

func TestTimesCountsCellsThatAreTaken(t *testing.T) {
	k := New()
	for i := range 1000 {
		must(t, k.Put(filled(i, uint64(2*i+1))), api.OK)
		must(t, k.Put(filled(i+1, uint64(2*i))), api.ErrBack)
		// Asked twice, since telling must not count.
		holds(t, k, filled(i, uint64(2*i+1)), i+1)
		holds(t, k, filled(i, uint64(2*i+1)), i+1)
	}
}

func TestKeepersAreApart(t *testing.T) {
	one, other := New(), New()
	must(t, one.Put(filled(1, 9)), api.OK)
	holds(t, other, api.Cell{}, 0)
	must(t, other.Put(filled(2, 3)), api.OK)
	holds(t, one, filled(1, 9), 1)
	holds(t, other, filled(2, 3), 1)
	holds(t, New(), api.Cell{}, 0)
}

func TestNil(t *testing.T) {
	var k *Keeper
	holds(t, k, api.Cell{}, 0)
	for _, n := range []uint64{0, 1, top} {
		must(t, k.Put(filled(1, n)), api.ErrArg)
		holds(t, k, api.Cell{}, 0)
	}
	must(t, k.Put(api.Cell{}), api.ErrArg)
}

// Memory of their own (section 'Words')

func TestPutTellsNewMemory(t *testing.T) {
	c := countedCell()
	b, again := Put(c), Put(c)
	clear(b[:cap(b)])
	_ = append(b, 9, 9, 9)
	if !bytes.Equal(again, counted()) || !bytes.Equal(Put(c), counted()) || c != countedCell() {
		t.Error("two answers, or the cell, share memory")
	}
	c.Root[0], c.Tag[31] = 0, 0
	if !bytes.Equal(again, counted()) {
		t.Error("the cell and its bytes share memory")
	}
}

func TestGetKeepsNothing(t *testing.T) {
	b := counted()
	c, e := Get(b)
	must(t, e, api.OK)
	if !bytes.Equal(b, counted()) {
		t.Error("Get changes what is handed in")
	}
	clear(b)
	if c != countedCell() {
		t.Error("the bytes and their cell share memory")
	}
	d, _ := Get(counted())
	d.Root[0], d.Tag[31] = 0, 0
	if c != countedCell() {
		t.Error("two cells share memory")
	}
}

func TestGetOfOtherLengthsChangesNothing(t *testing.T) {
	for _, n := range []int{1, 95} {
		b := counted()
		if _, e := Get(b[:n]); e != api.ErrForm || !bytes.Equal(b, counted()) {
			t.Errorf("%d bytes: error %d, %v", n, e, b)
		}
	}
}

func TestKeeperKeepsACellOfItsOwn(t *testing.T) {
	k, c := New(), filled(1, 5)
	must(t, k.Put(c), api.OK)
	c.Root[0]++
	c.Counter, c.Tag[31] = 99, c.Tag[31]+1
	holds(t, k, filled(1, 5), 1)
	told := k.Get()
	told.Root[0]++
	told.Counter, told.Tag[31] = 99, told.Tag[31]+1
	holds(t, k, filled(1, 5), 1)
	early := k.Get()
	must(t, k.Put(filled(2, 6)), api.OK)
	if early != filled(1, 5) {
		t.Error("what was told changed later")
	}
}

// P7.3

func TestTheCounterRises(t *testing.T) {
	k, x := New(), uint64(1)
	taken := 0
	for i := range 5000 {
		x = x*6364136223846793005 + 1442695040888963407
		was := k.Get()
		// Shifted, so that numbers of all lengths come, and some are just about the last one.
		n := x >> (63 - i/80)
		if i%3 == 0 {
			n = was.Counter + x>>62 - 1
		}
		e := k.Put(filled(i, n))
		is := k.Get()
		switch {
		case e == api.OK && is.Counter > was.Counter && is == filled(i, n):
			taken++
		case e == api.ErrBack && n <= was.Counter && is == was:
		default:
			t.Fatalf("Put of %d behind %d: error %d, then %d", n, was.Counter, e, is.Counter)
		}
		if k.Times() != taken {
			t.Fatalf("Times: %d, not %d", k.Times(), taken)
		}
	}
	if taken < 100 {
		t.Errorf("only %d were taken: the numbers try too little", taken)
	}
}

func TestSameCellsHaveTheSameBytes(t *testing.T) {
	for seed := range 50 {
		one, other := filled(seed, uint64(seed)), filled(seed, uint64(seed))
		if !bytes.Equal(Put(one), Put(other)) {
			t.Errorf("cell %d has two rows of bytes", seed)
		}
	}
}

func TestCellsThatPartInABitHaveOtherBytes(t *testing.T) {
	for _, b := range [][]byte{make([]byte, 96), counted(), some(1)} {
		seen := map[api.Cell]int{}
		for i := range 96 * 8 {
			other := slices.Clone(b)
			other[i/8] ^= 1 << (i % 8)
			c, e := Get(other)
			must(t, e, api.OK)
			if j, ok := seen[c]; ok {
				t.Fatalf("bits %d and %d make one cell", j, i)
			}
			seen[c] = i
			if bytes.Equal(Put(c), b) {
				t.Fatalf("bit %d isn't seen", i)
			}
		}
		c, e := Get(b)
		must(t, e, api.OK)
		if i, ok := seen[c]; ok {
			t.Fatalf("bit %d makes no other cell", i)
		}
	}
}

func TestCellsThatPartInANumberHaveOtherBytes(t *testing.T) {
	seen := map[string]string{string(Put(countedCell())): "none"}
	for _, f := range fields() {
		for _, x := range []uint64{0, 1, 256, 1 << 32, 1 << 56, 1 << 63, top} {
			c := countedCell()
			*f.of(&c) = x
			b := string(Put(c))
			if name, ok := seen[b]; ok {
				t.Errorf("%s of %d has the bytes of %s", f.name, x, name)
			}
			seen[b] = f.name
		}
	}
}
