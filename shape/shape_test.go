package shape

import (
	"math"
	"slices"
	"testing"

	"reliquary/api"
)

// The calls as chapter 9 lists them: this doesn't build if a signature, or the shape's one field, is another one.
var (
	_ func(int) (Shape, api.Errno)           = New
	_ func(Shape) int                        = Shape.Top
	_ func(Shape) int                        = Shape.Items
	_ func(Shape, int, int) (int, api.Errno) = Shape.Item
	_ func(Shape, int) (int, int, api.Errno) = Shape.Level
	_ func(Shape, int, int) (int, api.Errno) = Shape.Place
	_ func(Shape, int) ([]int, api.Errno)    = Shape.Path
	_ struct{ Widths []int }                 = Shape{}
)

// far are numbers that no level, item, side or leaf has.
var far = []int{
	math.MinInt, math.MinInt + 1, math.MinInt64 / 2, math.MinInt32, -1366, -1025, -1024, -8, -5, -4, -3, -2, -1,
	1366, 2730, 2731, 4096, 1 << 16, math.MaxInt32, math.MaxInt32 + 1, math.MaxUint32, math.MaxUint32 + 1, 1<<32 + 1,
	1 << 62, 1<<62 + 1, math.MaxInt - 1, math.MaxInt,
}

// known are shapes reckoned by hand, by their leaves.
var known = map[int][]int{
	1:    {1, 1},
	2:    {2, 1},
	3:    {3, 1},
	4:    {4, 1},
	5:    {5, 2, 1},
	8:    {8, 2, 1},
	9:    {9, 3, 1},
	15:   {15, 4, 1},
	16:   {16, 4, 1},
	17:   {17, 5, 2, 1},
	20:   {20, 5, 2, 1},
	21:   {21, 6, 2, 1},
	63:   {63, 16, 4, 1},
	64:   {64, 16, 4, 1},
	65:   {65, 17, 5, 2, 1},
	255:  {255, 64, 16, 4, 1},
	256:  {256, 64, 16, 4, 1},
	257:  {257, 65, 17, 5, 2, 1},
	1020: {1020, 255, 64, 16, 4, 1},
	1021: {1021, 256, 64, 16, 4, 1},
	1023: {1023, 256, 64, 16, 4, 1},
	1024: {1024, 256, 64, 16, 4, 1},
}

// spot is where an item stands, as a test tells it: its level, which it is there, its number, and that of the one above (-1: the top).
type spot struct{ level, i, number, above int }

// told are a tree's items by their numbers, laid down one by one as the chapter's words tell it.
func told(leaves int) []spot {
	var out []spot
	for range leaves {
		out = append(out, spot{0, len(out), len(out), -1})
	}
	from, to := 0, leaves
	for level := 1; level == 1 || to-from > 1; level++ {
		for k := from; k < to; k++ {
			if (k-from)%4 == 0 {
				out = append(out, spot{level, (k - from) / 4, len(out), -1})
			}
			out[k].above = len(out) - 1
		}
		from, to = to, len(out)
	}
	return out
}

// toldWidths is how many items each level has.
func toldWidths(items []spot) []int {
	var out []int
	for _, x := range items {
		if x.level == len(out) {
			out = append(out, 0)
		}
		out[x.level]++
	}
	return out
}

// of is the shape of so many leaves, which must be one.
func of(t *testing.T, leaves int) Shape {
	t.Helper()
	s, e := New(leaves)
	if e != api.OK {
		t.Fatalf("New of %d: error %d", leaves, e)
	}
	return s
}

// each goes through the shapes of all numbers of leaves that may be, with their items as told.
func each(t *testing.T, do func(leaves int, s Shape, items []spot)) {
	t.Helper()
	for leaves := 1; leaves <= 1024; leaves++ {
		do(leaves, of(t, leaves), told(leaves))
	}
}

// noItem holds that Item tells ErrRange, and nothing beside it.
func noItem(t *testing.T, s Shape, level, i int) {
	t.Helper()
	if x, e := s.Item(level, i); x != 0 || e != api.ErrRange {
		t.Fatalf("%v: Item of %d, %d: %d, error %d", s.Widths, level, i, x, e)
	}
}

// noLevel holds that Level tells ErrRange, and nothing beside it.
func noLevel(t *testing.T, s Shape, item int) {
	t.Helper()
	if l, i, e := s.Level(item); l != 0 || i != 0 || e != api.ErrRange {
		t.Fatalf("%v: Level of %d: %d, %d, error %d", s.Widths, item, l, i, e)
	}
}

// noPlace holds that Place tells ErrRange, and nothing beside it.
func noPlace(t *testing.T, s Shape, item, side int) {
	t.Helper()
	if x, e := s.Place(item, side); x != 0 || e != api.ErrRange {
		t.Fatalf("%v: Place of %d, %d: %d, error %d", s.Widths, item, side, x, e)
	}
}

// noPath holds that Path tells ErrRange, and nothing beside it.
func noPath(t *testing.T, s Shape, leaf int) {
	t.Helper()
	if p, e := s.Path(leaf); p != nil || e != api.ErrRange {
		t.Fatalf("%v: Path of %d: %v, error %d", s.Widths, leaf, p, e)
	}
}

// pathOf is the path of a leaf that is there.
func pathOf(t *testing.T, s Shape, leaf int) []int {
	t.Helper()
	p, e := s.Path(leaf)
	if e != api.OK {
		t.Fatalf("%v: Path of %d: error %d", s.Widths, leaf, e)
	}
	return p
}

// P9.1

func TestKnownShapes(t *testing.T) {
	for leaves, want := range known {
		s := of(t, leaves)
		if !slices.Equal(s.Widths, want) {
			t.Errorf("New of %d: %v, not %v", leaves, s.Widths, want)
		}
		if s.Top() != len(want)-1 {
			t.Errorf("Top of %v: %d", want, s.Top())
		}
		sum := 0
		for _, w := range want {
			sum += w
		}
		if s.Items() != sum {
			t.Errorf("Items of %v: %d, not %d", want, s.Items(), sum)
		}
	}
}

func TestKnownCounts(t *testing.T) {
	for _, x := range []struct{ leaves, top, items int }{
		{1, 1, 2}, {4, 1, 5}, {5, 2, 8}, {16, 2, 21}, {17, 3, 25}, {64, 3, 85}, {65, 4, 90},
		{256, 4, 341}, {257, 5, 347}, {1023, 5, 1364}, {1024, 5, 1365},
	} {
		if s := of(t, x.leaves); s.Top() != x.top || s.Items() != x.items {
			t.Errorf("of %d leaves: top %d, %d items, not %d, %d", x.leaves, s.Top(), s.Items(), x.top, x.items)
		}
	}
}

func TestEveryShape(t *testing.T) {
	each(t, func(leaves int, s Shape, items []spot) {
		if want := toldWidths(items); !slices.Equal(s.Widths, want) {
			t.Fatalf("New of %d: %v, not %v", leaves, s.Widths, want)
		}
		if s.Top() != items[len(items)-1].level || s.Items() != len(items) {
			t.Fatalf("of %d leaves: top %d, %d items, not %d, %d", leaves, s.Top(), s.Items(), items[len(items)-1].level, len(items))
		}
	})
}

// The top is one item, at least level 1, and no level below it but the leaves is of one item.
func TestTheTopIsTheFirstOneAlone(t *testing.T) {
	each(t, func(leaves int, s Shape, _ []spot) {
		top := s.Top()
		if top < 1 || s.Widths[top] != 1 || s.Widths[0] != leaves {
			t.Fatalf("New of %d: %v", leaves, s.Widths)
		}
		for level := 1; level < top; level++ {
			if s.Widths[level] < 2 {
				t.Fatalf("New of %d: %v", leaves, s.Widths)
			}
		}
	})
}

func TestNewOfTooFewOrTooMany(t *testing.T) {
	wrong := []int{0, 1025, 1026, 1027, 1028, 1029, 1280, 2047, 2048, 1<<32 + 5, 1<<32 + 1024}
	for _, leaves := range append(wrong, far...) {
		if s, e := New(leaves); s.Widths != nil || e != api.ErrArg {
			t.Errorf("New of %d: %v, error %d", leaves, s.Widths, e)
		}
	}
}

// What New tells beside an error is a shape without levels: it has no top to tell and no item.
func TestNoLevels(t *testing.T) {
	refused, _ := New(0)
	for _, s := range []Shape{{}, {Widths: []int{}}, refused} {
		if s.Top() != 0 || s.Items() != 0 {
			t.Errorf("without levels: top %d, %d items", s.Top(), s.Items())
		}
		for _, x := range append([]int{0, 1, 2, 5}, far...) {
			noItem(t, s, x, 0)
			noItem(t, s, 0, x)
			noLevel(t, s, x)
			noPlace(t, s, x, 0)
			noPlace(t, s, 0, x)
			noPath(t, s, x)
		}
	}
}

// P9.2

func TestEveryItem(t *testing.T) {
	each(t, func(_ int, s Shape, items []spot) {
		for _, want := range items {
			if x, e := s.Item(want.level, want.i); x != want.number || e != api.OK {
				t.Fatalf("%v: Item of %d, %d: %d, error %d, not %d", s.Widths, want.level, want.i, x, e, want.number)
			}
		}
	})
}

func TestItemsThatAreNotThere(t *testing.T) {
	each(t, func(_ int, s Shape, _ []spot) {
		for level, width := range s.Widths {
			for _, i := range []int{-1, width, width + 1, width + 4, 4 * width, 1024} {
				if i < 0 || i >= width {
					noItem(t, s, level, i)
				}
			}
			for _, i := range far {
				noItem(t, s, level, i)
			}
		}
	})
}

func TestLevelsThatAreNotThere(t *testing.T) {
	each(t, func(_ int, s Shape, _ []spot) {
		n := len(s.Widths)
		for _, level := range append([]int{n, n + 1, n + 2, 6, 7, 64}, far...) {
			for _, i := range []int{-1, 0, 1, 5} {
				noItem(t, s, level, i)
			}
		}
		for _, x := range far {
			noItem(t, s, x, x)
		}
	})
}

func TestLevelOfEveryItem(t *testing.T) {
	each(t, func(_ int, s Shape, items []spot) {
		for _, want := range items {
			if l, i, e := s.Level(want.number); l != want.level || i != want.i || e != api.OK {
				t.Fatalf("%v: Level of %d: %d, %d, error %d, not %d, %d", s.Widths, want.number, l, i, e, want.level, want.i)
			}
		}
	})
}

func TestLevelOfNoItem(t *testing.T) {
	each(t, func(_ int, s Shape, items []spot) {
		n := len(items)
		for _, item := range append([]int{n, n + 1, n + 2, 2 * n, 1365}, far...) {
			if item < 0 || item >= n {
				noLevel(t, s, item)
			}
		}
	})
}

func TestPlaceOfEveryItemAndSide(t *testing.T) {
	each(t, func(_ int, s Shape, items []spot) {
		next := 0
		for item := range items {
			for side := range 2 {
				if x, e := s.Place(item, side); x != next || e != api.OK {
					t.Fatalf("%v: Place of %d, %d: %d, error %d, not %d", s.Widths, item, side, x, e, next)
				}
				next++
			}
		}
	})
}

func TestPlaceOfOtherSides(t *testing.T) {
	for _, leaves := range []int{1, 5, 17, 1024} {
		s := of(t, leaves)
		for item := range s.Items() {
			for _, side := range append([]int{2, 3, 4, 255, 256, 257, 1 << 31, 1<<32 + 1}, far...) {
				noPlace(t, s, item, side)
			}
		}
	}
}

func TestPlaceOfNoItem(t *testing.T) {
	each(t, func(_ int, s Shape, items []spot) {
		n := len(items)
		for _, item := range append([]int{n, n + 1, 2 * n, 1365}, far...) {
			if item < 0 || item >= n {
				noPlace(t, s, item, 0)
				noPlace(t, s, item, 1)
				noPlace(t, s, item, 2)
				noPlace(t, s, item, -1)
			}
		}
	})
}

func TestKnownPaths(t *testing.T) {
	for _, x := range []struct {
		leaves, leaf int
		want         []int
	}{
		{1, 0, []int{0, 1}},
		{4, 3, []int{3, 4}},
		{5, 0, []int{0, 5, 7}},
		{5, 3, []int{3, 5, 7}},
		{5, 4, []int{4, 6, 7}},
		{16, 15, []int{15, 19, 20}},
		{17, 15, []int{15, 20, 22, 24}},
		{17, 16, []int{16, 21, 23, 24}},
		{1024, 0, []int{0, 1024, 1280, 1344, 1360, 1364}},
		{1024, 1023, []int{1023, 1279, 1343, 1359, 1363, 1364}},
	} {
		if p := pathOf(t, of(t, x.leaves), x.leaf); !slices.Equal(p, x.want) {
			t.Errorf("of %d leaves, Path of %d: %v, not %v", x.leaves, x.leaf, p, x.want)
		}
	}
}

func TestEveryPath(t *testing.T) {
	each(t, func(leaves int, s Shape, items []spot) {
		for leaf := range leaves {
			var want []int
			for x := leaf; x >= 0; x = items[x].above {
				want = append(want, x)
			}
			if p := pathOf(t, s, leaf); !slices.Equal(p, want) {
				t.Fatalf("%v: Path of %d: %v, not %v", s.Widths, leaf, p, want)
			}
		}
	})
}

func TestPathOfNoLeaf(t *testing.T) {
	each(t, func(leaves int, s Shape, items []spot) {
		// An item that is no leaf has no path either.
		for leaf := leaves; leaf <= len(items)+1; leaf++ {
			noPath(t, s, leaf)
		}
		for _, leaf := range far {
			noPath(t, s, leaf)
		}
	})
}

// P9.3

func TestItemAndLevelUndoOneAnother(t *testing.T) {
	each(t, func(_ int, s Shape, _ []spot) {
		for item := range s.Items() {
			l, i, e := s.Level(item)
			if back, e2 := s.Item(l, i); back != item || e != api.OK || e2 != api.OK {
				t.Fatalf("%v: Item of Level of %d: %d, errors %d, %d", s.Widths, item, back, e, e2)
			}
		}
		for level, width := range s.Widths {
			for i := range width {
				item, e := s.Item(level, i)
				if l, j, e2 := s.Level(item); l != level || j != i || e != api.OK || e2 != api.OK {
					t.Fatalf("%v: Level of Item of %d, %d: %d, %d, errors %d, %d", s.Widths, level, i, l, j, e, e2)
				}
			}
		}
	})
}

func TestNoTwoSidesStandAtOnePlace(t *testing.T) {
	each(t, func(_ int, s Shape, _ []spot) {
		taken := make([]bool, 2*s.Items())
		for level, width := range s.Widths {
			for i := range width {
				item, _ := s.Item(level, i)
				for side := range 2 {
					x, e := s.Place(item, side)
					if e != api.OK || x < 0 || x >= len(taken) || taken[x] {
						t.Fatalf("%v: Place of %d, %d: %d, error %d", s.Widths, item, side, x, e)
					}
					taken[x] = true
				}
			}
		}
	})
}

func TestPathsEndAtTheLastItem(t *testing.T) {
	each(t, func(leaves int, s Shape, _ []spot) {
		for leaf := range leaves {
			p := pathOf(t, s, leaf)
			if len(p) != s.Top()+1 || p[0] != leaf || p[len(p)-1] != s.Items()-1 {
				t.Fatalf("%v: Path of %d: %v", s.Widths, leaf, p)
			}
		}
	})
}

// Each item of a path is of one level more, stands above at most four, and every item is on some leaf's path.
func TestEachOneStandsBelowTheNext(t *testing.T) {
	each(t, func(leaves int, s Shape, _ []spot) {
		reached := make([]bool, s.Items())
		for leaf := range leaves {
			below := leaf
			for level, item := range pathOf(t, s, leaf) {
				l, i, e := s.Level(item)
				if l != level || i != below || e != api.OK {
					t.Fatalf("%v: Path of %d has %d, of level %d, there %d, error %d", s.Widths, leaf, item, l, i, e)
				}
				below = i / 4
				reached[item] = true
			}
		}
		if i := slices.Index(reached, false); i >= 0 {
			t.Fatalf("%v: no path has %d", s.Widths, i)
		}
	})
}

// Memory of their own (section 'Words')

func TestShapesShareNoMemory(t *testing.T) {
	one, other := of(t, 257), of(t, 257)
	clear(one.Widths[:cap(one.Widths)])
	_ = append(one.Widths, 9, 9)
	if !slices.Equal(other.Widths, known[257]) || !slices.Equal(of(t, 257).Widths, known[257]) {
		t.Error("two shapes share memory")
	}
}

func TestPathsShareNoMemory(t *testing.T) {
	s := of(t, 257)
	one, other := pathOf(t, s, 256), pathOf(t, s, 256)
	want := slices.Clone(other)
	clear(one[:cap(one)])
	_ = append(one, 9, 9)
	if !slices.Equal(other, want) || !slices.Equal(pathOf(t, s, 256), want) {
		t.Error("two paths share memory")
	}
	if !slices.Equal(s.Widths, known[257]) {
		t.Error("a path and its shape share memory")
	}
}

// Whatever is asked of a shape, it stays what it was, and so does the room behind its levels.
func TestNothingChangesAShape(t *testing.T) {
	room := append(slices.Clone(known[17]), 7, 8, 9)
	s := Shape{Widths: room[:4]}
	for _, x := range append([]int{0, 1, 4, 16, 17, 24, 25}, far...) {
		s.Top()
		s.Items()
		s.Item(0, x)
		s.Item(x, 0)
		s.Level(x)
		s.Place(x, 1)
		s.Path(x)
	}
	if want := append(slices.Clone(known[17]), 7, 8, 9); !slices.Equal(room, want) {
		t.Errorf("a shape that was asked is %v, not %v", room, want)
	}
	if s.Items() != 25 || s.Top() != 3 {
		t.Errorf("a shape that was asked has %d items, top %d", s.Items(), s.Top())
	}
}

// Shapes that New doesn't tell have some answer; they must not panic, nor go on for ever.
func TestOddShapesEnd(t *testing.T) {
	for _, widths := range [][]int{
		{0}, {1}, {5}, {0, 0}, {-1}, {-5, 2, 1}, {1, 2, 5}, {5, -2, 1}, {5, 0, 1}, {math.MaxInt}, {math.MinInt},
		{math.MaxInt, math.MaxInt, 1}, {math.MinInt, math.MinInt, math.MinInt}, {math.MaxInt, math.MinInt}, make([]int, 10000),
	} {
		s := Shape{Widths: widths}
		s.Top()
		s.Items()
		for _, x := range append([]int{0, 1, 2, 4, 5}, far...) {
			for _, y := range append([]int{0, 1, 2, 4, 5}, far...) {
				s.Item(x, y)
				s.Place(x, y)
			}
			s.Level(x)
			s.Path(x)
		}
	}
}
