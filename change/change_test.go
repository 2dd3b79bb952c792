package change

import (
	"bytes"
	"encoding/binary"
	"math"
	"reflect"
	"slices"
	"testing"

	"reliquary/api"
	"reliquary/cell"
	"reliquary/disk"
	"reliquary/journal"
	"reliquary/keys"
	"reliquary/seal"
	"reliquary/tree"
	"reliquary/vault"
)

// The calls as chapter 16 lists them: this doesn't build if a signature, or a config's fields, are others.
var (
	_ func(Config) (int, api.Errno)                              = Places
	_ func(*disk.Disk, *cell.Keeper, Config) api.Errno           = Format
	_ func(*disk.Disk, *cell.Keeper, Config) (*Store, api.Errno) = Mount
	_ func(*Store, uint64) ([]byte, api.Errno)                   = (*Store).Read
	_ func(*Store) (*Change, api.Errno)                          = (*Store).Begin
	_ func(*Change, uint64) ([]byte, api.Errno)                  = (*Change).Read
	_ func(*Change, uint64, []byte) api.Errno                    = (*Change).Write
	_ func(*Change) api.Errno                                    = (*Change).Commit
	_ func(*Change) api.Errno                                    = (*Change).Abort
	_ func(*Store) api.Errno                                     = (*Store).Checkpoint
	_ func(*Store) api.Errno                                     = (*Store).Bad
	_ func(*Store) (int, uint64)                                 = (*Store).Blocks
	_                                                            = Config{Master: []byte{}, Blocks: 1, Journal: 1, Limit: 1, Cache: 1}
)

// top is the greatest number; tooMuch is the first counter that may not be put.
const (
	top     = math.MaxUint64
	tooMuch = 1<<38 - 1
)

// some is a block's bytes without a rule that a fault could hide in; each seed has others.
func some(seed int) []byte { return long(seed, 160) }

// long is so many such bytes.
func long(seed, n int) []byte {
	out := make([]byte, n)
	x := uint32(seed)*2654435761 + 29
	for i := range out {
		x = x*1664525 + 1013904223
		out[i] = byte(x >> 24)
	}
	return out
}

// noughts is a block that was never written.
func noughts() []byte { return make([]byte, 160) }

// config is one whose master key isn't noughts.
func config(blocks, ring, limit, cache int) Config {
	return Config{Master: long(77, 32), Blocks: blocks, Journal: ring, Limit: limit, Cache: cache}
}

// five is a config with a vault at the disk's places 0 to 15, and a journal at 16 to 19.
func five() Config { return config(5, 4, 3, 2) }

// must holds an error against the one that is asked for.
func must(t *testing.T, got, want api.Errno) {
	t.Helper()
	if got != want {
		t.Fatalf("error %d, not %d", got, want)
	}
}

// room is a disk of just as many places as a config needs.
func room(t *testing.T, c Config) *disk.Disk {
	t.Helper()
	n, e := Places(c)
	must(t, e, api.OK)
	d, e := disk.New(n)
	must(t, e, api.OK)
	return d
}

// keeper is one of this cell.
func keeper(t *testing.T, c api.Cell) *cell.Keeper {
	t.Helper()
	k := cell.New()
	if c != (api.Cell{}) {
		must(t, k.Put(c), api.OK)
	}
	return k
}

// mount is a store that must be mounted.
func mount(t *testing.T, d *disk.Disk, k *cell.Keeper, c Config) *Store {
	t.Helper()
	s, e := Mount(d, k, c)
	must(t, e, api.OK)
	if s == nil {
		t.Fatal("no store, and no error")
	}
	return s
}

// fresh is a store on a new disk.
func fresh(t *testing.T, c Config) (*Store, *disk.Disk, *cell.Keeper) {
	t.Helper()
	d, k := room(t, c), cell.New()
	must(t, Format(d, k, c), api.OK)
	return mount(t, d, k, c), d, k
}

// begin is a change that must be begun.
func begin(t *testing.T, s *Store) *Change {
	t.Helper()
	c, e := s.Begin()
	must(t, e, api.OK)
	if c == nil {
		t.Fatal("no change, and no error")
	}
	return c
}

// written is a change that wrote these blocks, each with the bytes of its seed.
func written(t *testing.T, s *Store, l ...seeded) *Change {
	t.Helper()
	c := begin(t, s)
	for _, x := range l {
		must(t, c.Write(x.block, some(x.seed)), api.OK)
	}
	return c
}

// seeded is a block, and of which bytes it is.
type seeded struct {
	block uint64
	seed  int
}

// commit is a change of these blocks that must be committed.
func commit(t *testing.T, s *Store, l ...seeded) {
	t.Helper()
	must(t, written(t, s, l...).Commit(), api.OK)
}

// reads holds a block's bytes against these.
func reads(t *testing.T, s *Store, i uint64, want []byte) {
	t.Helper()
	if b, e := s.Read(i); e != api.OK || !bytes.Equal(b, want) {
		t.Fatalf("Read of %d: %x, error %d, not %x", i, b, e, want)
	}
}

// hasAll holds all blocks against these.
func hasAll(t *testing.T, s *Store, want [][]byte) {
	t.Helper()
	for i, b := range want {
		reads(t, s, uint64(i), b)
	}
}

// readFails holds that Read tells an error, and nothing beside it.
func readFails(t *testing.T, r interface {
	Read(uint64) ([]byte, api.Errno)
}, i uint64, want api.Errno) {
	t.Helper()
	if b, e := r.Read(i); len(b) > 0 || e != want {
		t.Fatalf("Read of %d: %x, error %d, not %d", i, b, e, want)
	}
}

// beginFails holds that Begin tells an error, and nothing beside it.
func beginFails(t *testing.T, s *Store, want api.Errno) {
	t.Helper()
	if c, e := s.Begin(); c != nil || e != want {
		t.Fatalf("Begin: %v, error %d, not %d", c, e, want)
	}
}

// mountFails holds that Mount tells an error, and nothing beside it; and that the cell stays.
func mountFails(t *testing.T, d *disk.Disk, k *cell.Keeper, c Config, want api.Errno) {
	t.Helper()
	was, times := k.Get(), k.Times()
	if s, e := Mount(d, k, c); s != nil || e != want {
		t.Fatalf("Mount: %v, error %d, not %d", s, e, want)
	}
	if k.Get() != was || k.Times() != times {
		t.Fatal("the cell was put")
	}
}

// ops are these: reads of places; then writes, with a flush behind them, if any.
func ops(read, written []int) []disk.Op {
	var l []disk.Op
	for _, i := range read {
		l = append(l, disk.Op{Kind: disk.Reads, Slot: i})
	}
	for _, i := range written {
		l = append(l, disk.Op{Kind: disk.Writes, Slot: i})
	}
	if len(written) > 0 {
		l = append(l, disk.Op{Kind: disk.Flushes})
	}
	return l
}

// asks holds what a call asks of a disk against these.
func asks(t *testing.T, d *disk.Disk, want []disk.Op, call func()) {
	t.Helper()
	n := len(d.Ops())
	call()
	if got := d.Ops()[n:]; !slices.Equal(got, want) {
		t.Fatalf("the disk was asked %v, not %v", got, want)
	}
}

// still holds that a call leaves the disk and the cell alone.
func still(t *testing.T, d *disk.Disk, k *cell.Keeper, call func()) {
	t.Helper()
	was, times := k.Get(), k.Times()
	asks(t, d, nil, call)
	if k.Get() != was || k.Times() != times {
		t.Fatal("the cell was put")
	}
}

// puts holds that a call puts the cell once, with a counter of one more.
func puts(t *testing.T, k *cell.Keeper, call func()) api.Cell {
	t.Helper()
	was, times := k.Get(), k.Times()
	call()
	now := k.Get()
	if k.Times() != times+1 || now.Counter != was.Counter+1 {
		t.Fatalf("put %d times, counter %d behind %d", k.Times()-times, now.Counter, was.Counter)
	}
	return now
}

// at is what stands at a place, whether it is flushed or not; the disk must be up.
func at(t *testing.T, d *disk.Disk, place int) []byte {
	t.Helper()
	b, e := d.Read(place)
	must(t, e, api.OK)
	return b
}

// spoil lays other bytes over a place.
func spoil(t *testing.T, d *disk.Disk, place int) {
	t.Helper()
	b := d.Image()[place]
	b[9] ^= 1
	must(t, d.Tamper(place, b), api.OK)
}

// goDown lets a disk be down.
func goDown(t *testing.T, d *disk.Disk) {
	t.Helper()
	d.Stop(0)
	must(t, d.Write(0, make([]byte, 192)), api.ErrDown)
}

// version is that of a slot.
func version(slot []byte) uint64 { return binary.LittleEndian.Uint64(slot) }

// chain is the tag of what stands at these places.
func chain(t *testing.T, d *disk.Disk, places ...int) api.Sum {
	t.Helper()
	var tag api.Sum
	for _, i := range places {
		tag = journal.Link(tag, uint32(i), at(t, d, i))
	}
	return tag
}

// limitOf is the limit of versions of a vault or a journal. No call tells it, and so many versions can't be used up here.
func limitOf(x any) uint64 { return reflect.ValueOf(x).Elem().FieldByName("limit").Uint() }

// Places and Format (P16.1)

func TestPlaces(t *testing.T) {
	for _, x := range []struct {
		c    Config
		want int
	}{
		{config(5, 4, 3, 2), 20},
		{config(1, 1, 1, 0), 5},
		{config(1, 1024, 1, 1024), 4 + 1024},
		{config(1024, 1024, 1024, 1024), 2730 + 1024},
		{config(1024, 1, 1, 1), 2731},
		{config(17, 9, 9, -1), 2*(17+5+2+1) + 9},
		{config(4, 3, 1, math.MinInt), 10 + 3},
	} {
		if n, e := Places(x.c); n != x.want || e != api.OK {
			t.Errorf("Places of %v: %d, error %d, not %d", x.c, n, e, x.want)
		}
	}
}

// refused are configs that may not be.
func refused() []Config {
	l := []Config{
		{}, config(0, 4, 3, 2), config(-1, 4, 3, 2), config(1025, 4, 3, 2), config(math.MaxInt, 4, 3, 2), config(math.MinInt, 4, 3, 2),
		config(5, 0, 0, 2), config(5, 0, 1, 2), config(5, -1, -1, 2), config(5, 1025, 3, 2), config(5, 1025, 1025, 2), config(5, math.MaxInt, 3, 2), config(5, math.MinInt, math.MinInt, 2),
		config(5, 4, 0, 2), config(5, 4, -1, 2), config(5, 4, 5, 2), config(5, 4, math.MaxInt, 2), config(5, 1024, 1025, 2),
		config(5, 4, 3, 1025), config(5, 4, 3, math.MaxInt),
	}
	for _, n := range []int{0, 1, 31, 33, 64} {
		c := five()
		c.Master = long(1, n)
		l = append(l, c)
	}
	return l
}

func TestConfigsThatMayNotBe(t *testing.T) {
	d, _ := disk.New(4096)
	for _, c := range refused() {
		if n, e := Places(c); n != 0 || e != api.ErrArg {
			t.Errorf("Places of %v: %d, error %d", c, n, e)
		}
		k := keeper(t, api.Cell{Counter: 7})
		still(t, d, k, func() { must(t, Format(d, k, c), api.ErrArg) })
		still(t, d, k, func() { mountFails(t, d, k, c, api.ErrArg) })
	}
}

func TestFormatPutsTheCellAlone(t *testing.T) {
	c := five()
	d := room(t, c)
	for i := range d.Size() {
		must(t, d.Tamper(i, long(i, 192)), api.OK)
	}
	for _, was := range []api.Cell{
		{},
		{Counter: 1},
		{Root: api.Sum(long(1, 32)), Version: 2, Counter: 3, Start: 4, Count: 5, Tag: api.Sum(long(6, 32))},
		{Counter: 41, Start: top, Count: top},
	} {
		k := keeper(t, was)
		now := puts(t, k, func() {
			asks(t, d, nil, func() { must(t, Format(d, k, c), api.OK) })
		})
		if now != (api.Cell{Counter: was.Counter + 1}) {
			t.Errorf("behind %v the cell is %v", was, now)
		}
	}
}

func TestFormatAsksForPlaces(t *testing.T) {
	c := five()
	for n, want := range map[int]api.Errno{1: api.ErrArg, 16: api.ErrArg, 19: api.ErrArg, 20: api.OK, 21: api.OK, 4096: api.OK} {
		d, _ := disk.New(n)
		k := cell.New()
		must(t, Format(d, k, c), want)
		if want != api.OK && k.Times() != 0 {
			t.Error("the cell was put")
		}
	}
	must(t, Format(nil, cell.New(), c), api.ErrArg)
	must(t, Format(room(t, c), nil, c), api.ErrArg)
	must(t, Format(nil, nil, Config{}), api.ErrArg)
}

// A disk isn't asked by Format, so that one that is down may be formatted.
func TestFormatOfADiskThatIsDown(t *testing.T) {
	d, k := room(t, five()), cell.New()
	goDown(t, d)
	must(t, Format(d, k, five()), api.OK)
	if k.Get() != (api.Cell{Counter: 1}) {
		t.Errorf("the cell is %v", k.Get())
	}
}

func TestCountersWearOut(t *testing.T) {
	c := five()
	d := room(t, c)
	for _, was := range []uint64{tooMuch - 1, tooMuch, tooMuch + 1, 1 << 62, 1 << 63, top - 1, top} {
		k := keeper(t, api.Cell{Counter: was})
		still(t, d, k, func() { must(t, Format(d, k, c), api.ErrWorn) })
		still(t, d, k, func() { mountFails(t, d, k, c, api.ErrWorn) })
	}
	k := keeper(t, api.Cell{Counter: tooMuch - 2})
	must(t, Format(d, k, c), api.OK)
	if k.Get() != (api.Cell{Counter: tooMuch - 1}) {
		t.Errorf("the cell is %v", k.Get())
	}
	k = keeper(t, api.Cell{Counter: tooMuch - 2})
	mount(t, d, k, c)
	if k.Get() != (api.Cell{Counter: tooMuch - 1}) {
		t.Errorf("the cell is %v", k.Get())
	}
}

// What stood there once is noughts behind Format, whatever the disk holds.
func TestFormatLetsAllBeNoughts(t *testing.T) {
	c := five()
	s, d, k := fresh(t, c)
	commit(t, s, seeded{0, 1}, seeded{4, 2})
	must(t, s.Checkpoint(), api.OK)
	commit(t, s, seeded{3, 3})
	must(t, Format(d, k, c), api.OK)
	s = mount(t, d, k, c)
	for i := range uint64(5) {
		reads(t, s, i, noughts())
	}
	if n, left := s.Blocks(); n != 5 || left != 4 {
		t.Errorf("Blocks: %d, %d", n, left)
	}
	commit(t, s, seeded{2, 9})
	must(t, s.Checkpoint(), api.OK)
	reads(t, mount(t, d, k, c), 2, some(9))
}

// Mount (P16.2)

// Format, Mount, Read(0): noughts.
func TestExample(t *testing.T) {
	s, d, k := fresh(t, five())
	for i := range uint64(5) {
		still(t, d, k, func() { reads(t, s, i, noughts()) })
	}
	if k.Get() != (api.Cell{Counter: 2}) || k.Times() != 2 {
		t.Errorf("the cell is %v, put %d times", k.Get(), k.Times())
	}
}

func TestMountAsksForPlacesAndAKeeper(t *testing.T) {
	c := five()
	for _, n := range []int{1, 16, 19} {
		d, _ := disk.New(n)
		mountFails(t, d, cell.New(), c, api.ErrArg)
	}
	for _, n := range []int{20, 21, 4096} {
		d, _ := disk.New(n)
		mount(t, d, cell.New(), c)
	}
	mountFails(t, nil, cell.New(), c, api.ErrArg)
	mountFails(t, room(t, c), nil, c, api.ErrArg)
	mountFails(t, nil, nil, Config{}, api.ErrArg)
}

// A cell that was never put is one of noughts: it may be mounted, too.
func TestMountOfANewCell(t *testing.T) {
	d, k := room(t, five()), cell.New()
	s := mount(t, d, k, five())
	if k.Get() != (api.Cell{Counter: 1}) {
		t.Errorf("the cell is %v", k.Get())
	}
	reads(t, s, 4, noughts())
}

func TestMountAsksForAState(t *testing.T) {
	c := five()
	d := room(t, c)
	for _, x := range [][2]uint64{{4, 0}, {5, 0}, {top, 0}, {0, 5}, {3, 5}, {0, top}, {4, 5}, {top, top}, {1 << 32, 0}, {0, 1 << 32}} {
		k := keeper(t, api.Cell{Counter: 3, Start: x[0], Count: x[1]})
		asks(t, d, nil, func() { mountFails(t, d, k, c, api.ErrArg) })
	}
	// ErrArg is told ahead of what is told of the disk, and of a counter.
	goDown(t, d)
	mountFails(t, d, keeper(t, api.Cell{Counter: 3, Start: 1, Count: 5}), c, api.ErrArg)
	mountFails(t, d, keeper(t, api.Cell{Counter: top, Start: 4}), c, api.ErrArg)
	d.Crash(nil)
	for start := range uint64(4) {
		k := keeper(t, api.Cell{Counter: 3, Start: start})
		s := mount(t, d, k, c)
		commit(t, s, seeded{1, 1})
		if got := k.Get(); got.Start != start || got.Count != 1 || got.Tag != chain(t, d, 16+int(start)) {
			t.Errorf("from %d on: the cell is %v", start, got)
		}
	}
}

func TestMountTellsWhatLoadTells(t *testing.T) {
	c := five()
	s, d, k := fresh(t, c)
	commit(t, s, seeded{1, 1})
	commit(t, s, seeded{2, 2}, seeded{3, 3})
	early := d.Image()
	for place := 16; place < 19; place++ {
		spoil(t, d, place)
		asks(t, d, ops([]int{16, 17, 18}, nil), func() { mountFails(t, d, k, c, api.ErrIntegrity) })
		must(t, d.Restore(early), api.OK)
	}
	// What doesn't count may be anything.
	spoil(t, d, 19)
	for place := range 16 {
		spoil(t, d, place)
	}
	// The disk's error is told ahead of the counter's; the chain's too.
	now := k.Get()
	now.Counter = top
	worn := keeper(t, now)
	goDown(t, d)
	mountFails(t, d, worn, c, api.ErrDown)
	mountFails(t, d, k, c, api.ErrDown)
	d.Crash(nil)
	mountFails(t, d, worn, c, api.ErrWorn)
	now.Tag[31] ^= 128
	mountFails(t, d, keeper(t, now), c, api.ErrIntegrity)
	// A tag without records isn't one that was written.
	mountFails(t, d, keeper(t, api.Cell{Counter: 5, Tag: api.Sum{1}}), c, api.ErrIntegrity)
	other := c
	other.Master = long(78, 32)
	mountFails(t, d, k, other, api.ErrIntegrity)
	s = mount(t, d, k, c)
	for i := range uint64(3) {
		reads(t, s, i+1, some(int(i)+1))
	}
}

// The cell is put as it is, but for the counter; late blocks are what was loaded, and asked of no disk.
func TestMountPutsTheCellAsItIs(t *testing.T) {
	c := five()
	s, d, k := fresh(t, c)
	commit(t, s, seeded{0, 1}, seeded{1, 2}, seeded{4, 3})
	must(t, s.Checkpoint(), api.OK)
	commit(t, s, seeded{4, 4}, seeded{2, 5})
	commit(t, s, seeded{4, 6})
	for round := range 3 {
		was := k.Get()
		// The ring has four places; the first three were used ahead of the checkpoint.
		asks(t, d, ops([]int{19, 16, 17}, nil), func() {
			was.Counter++
			if now := puts(t, k, func() { s = mount(t, d, k, c) }); now != was {
				t.Fatalf("round %d: the cell is %v, not %v", round, now, was)
			}
		})
		still(t, d, k, func() {
			reads(t, s, 4, some(6))
			reads(t, s, 2, some(5))
		})
		reads(t, s, 0, some(1))
		reads(t, s, 1, some(2))
		if n, left := s.Blocks(); n != 5 || left != 1 {
			t.Fatalf("round %d: Blocks: %d, %d", round, n, left)
		}
		must(t, s.Bad(), api.OK)
	}
}

// Versions are from the counter times 2^24 on, and go on from commit to commit; a mount begins anew.
func TestVersions(t *testing.T) {
	c := five()
	d, k := room(t, c), keeper(t, api.Cell{Counter: 1000})
	must(t, Format(d, k, c), api.OK)
	const era = 1 << 24
	s := mount(t, d, k, c)
	is := func(place int, want uint64) {
		t.Helper()
		if v := version(at(t, d, place)); v != want {
			t.Fatalf("place %d has the version %d, not %d", place, v, want)
		}
	}
	commit(t, s, seeded{0, 1}, seeded{4, 2})
	is(16, 1002*era)
	is(17, 1002*era+1)
	commit(t, s, seeded{4, 3})
	is(18, 1002*era+2)
	must(t, s.Checkpoint(), api.OK)
	// Leaves 0 and 4, the nodes above, the top.
	for i, place := range []int{0, 8, 10, 12, 14} {
		is(place, 1002*era+uint64(i))
	}
	if got := k.Get(); got.Counter != 1005 || got.Version != 2*(1002*era+4) || got.Root != tree.Digest(2, 14, at(t, d, 14)) {
		t.Fatalf("the cell is %v", got)
	}
	commit(t, s, seeded{4, 4})
	is(19, 1002*era+3)
	s = mount(t, d, k, c)
	commit(t, s, seeded{1, 5})
	is(16, 1007*era)
	must(t, s.Checkpoint(), api.OK)
	// Leaves 1 and 4 at the sides that don't count, likewise the nodes above, and the top.
	for i, place := range []int{2, 9, 11, 13, 15} {
		is(place, 1007*era+uint64(i))
	}
}

// Of each counter the limit is the next one's first version, less 1.
func TestLimitsOfVersions(t *testing.T) {
	c := five()
	for _, was := range []uint64{0, 1, 2, 1000, 1<<37 + 12345, tooMuch - 5} {
		d, k := room(t, c), keeper(t, api.Cell{Counter: was})
		s := mount(t, d, k, c)
		is := func() {
			t.Helper()
			want := (k.Get().Counter+1)<<24 - 1
			if v, j := limitOf(s.vault), limitOf(s.journal); v != want || j != want {
				t.Fatalf("behind %d: limits %d, %d, not %d", was, v, j, want)
			}
		}
		is()
		commit(t, s, seeded{0, 1})
		is()
		must(t, s.Checkpoint(), api.OK)
		is()
		must(t, begin(t, s).Commit(), api.OK)
		is()
	}
}

// At the limit nothing is written any more, but the store isn't bad; what was is.
func TestVersionsWearOut(t *testing.T) {
	c := five()
	set, _ := keys.Of(c.Master)
	for _, left := range []uint64{2, 3} {
		s, d, k := fresh(t, c)
		state, _ := s.journal.State()
		limit := (k.Get().Counter+1)<<24 - 1
		j, e := journal.New(d, set.Journal, 16, 4, state, limit-left, limit)
		must(t, e, api.OK)
		s.journal = j
		a := written(t, s, seeded{0, 1}, seeded{1, 2}, seeded{2, 3})
		if left == 3 {
			must(t, a.Commit(), api.OK)
			continue
		}
		still(t, d, k, func() { must(t, a.Commit(), api.ErrWorn) })
		must(t, s.Bad(), api.OK)
		reads(t, s, 0, noughts())
		must(t, a.Commit(), api.ErrState)
		// Two go in, and the next counter has versions anew.
		commit(t, s, seeded{0, 4}, seeded{1, 5})
		commit(t, s, seeded{2, 6})
	}
	for _, left := range []uint64{2, 3} {
		s, d, k := fresh(t, c)
		commit(t, s, seeded{0, 1})
		limit := (k.Get().Counter+1)<<24 - 1
		v, e := vault.New(d, set.Home, 5, tree.Ref{}, limit-left, limit)
		must(t, e, api.OK)
		s.vault = v
		if left == 3 {
			must(t, s.Checkpoint(), api.OK)
			continue
		}
		still(t, d, k, func() { must(t, s.Checkpoint(), api.ErrWorn) })
		must(t, s.Bad(), api.OK)
		reads(t, s, 0, some(1))
		// A commit raises the vault's limit, too.
		commit(t, s, seeded{0, 4})
		must(t, s.Checkpoint(), api.OK)
		reads(t, s, 0, some(4))
	}
}

// Keys: the vault's is Home, the journal's is Journal.
func TestKeys(t *testing.T) {
	c := five()
	s, d, _ := fresh(t, c)
	set, _ := keys.Of(c.Master)
	commit(t, s, seeded{3, 8})
	_, plain, e := seal.Open(set.Journal, 16, at(t, d, 16), 176)
	must(t, e, api.OK)
	if want := slices.Concat([]byte{1, 1, 0, 0, 0, 0, 0, 0, 3, 0, 0, 0, 0, 0, 0, 0}, some(8)); !bytes.Equal(plain, want) {
		t.Errorf("the record is %x", plain)
	}
	must(t, s.Checkpoint(), api.OK)
	if _, plain, e = seal.Open(set.Home, 6, at(t, d, 6), 160); e != api.OK || !bytes.Equal(plain, some(8)) {
		t.Errorf("the leaf is %x, error %d", plain, e)
	}
}

// Blocks that there aren't stay where they are: in the journal alone, and no checkpoint takes them.
func TestBlocksThatThereArentAreLate(t *testing.T) {
	c := five()
	d, k := room(t, c), cell.New()
	set, _ := keys.Of(c.Master)
	j, e := journal.New(d, set.Journal, 16, 4, journal.State{}, 1, 100)
	must(t, e, api.OK)
	state, e := j.Append([]api.Image{{Block: 5, Bytes: some(1)}, {Block: 2, Bytes: some(2)}})
	must(t, e, api.OK)
	must(t, k.Put(api.Cell{Counter: 1, Count: state.Count, Tag: state.Tag}), api.OK)
	s := mount(t, d, k, c)
	readFails(t, s, 5, api.ErrRange)
	reads(t, s, 2, some(2))
	still(t, d, k, func() { must(t, s.Checkpoint(), api.ErrRange) })
	must(t, s.Bad(), api.OK)
}

// Read of a store (P16.3)

func TestReadAsksForABlock(t *testing.T) {
	for _, n := range []int{1, 5, 17} {
		s, d, k := fresh(t, config(n, 4, 3, 2))
		a := begin(t, s)
		for _, i := range []uint64{uint64(n), uint64(n) + 1, 1 << 31, 1 << 32, 1<<32 + 1, 1 << 63, 1<<63 + 1, top} {
			still(t, d, k, func() {
				readFails(t, s, i, api.ErrRange)
				readFails(t, a, i, api.ErrRange)
				must(t, a.Write(i, some(1)), api.ErrRange)
				must(t, a.Write(i, nil), api.ErrRange)
			})
		}
		reads(t, s, uint64(n)-1, noughts())
		must(t, s.Bad(), api.OK)
	}
}

// In the vault, both leaves 0 and 4 are below the top (place 14), and below the nodes at 10 and 12.
func inVault(t *testing.T, cache int) (*Store, *disk.Disk, *cell.Keeper) {
	t.Helper()
	s, d, k := fresh(t, config(5, 4, 4, cache))
	commit(t, s, seeded{0, 10}, seeded{1, 11}, seeded{2, 12}, seeded{4, 14})
	must(t, s.Checkpoint(), api.OK)
	return s, d, k
}

var paths = map[uint64][]int{0: {14, 10, 0}, 1: {14, 10, 2}, 2: {14, 10, 4}, 3: {14, 10}, 4: {14, 12, 8}}

func TestReadKeepsWhatWasReadNear(t *testing.T) {
	s, d, _ := inVault(t, 2)
	far := func(i uint64, want []byte) {
		t.Helper()
		asks(t, d, ops(paths[i], nil), func() { reads(t, s, i, want) })
	}
	near := func(i uint64, want []byte) {
		t.Helper()
		asks(t, d, nil, func() { reads(t, s, i, want) })
	}
	far(0, some(10))
	near(0, some(10))
	far(4, some(14))
	near(0, some(10))
	near(4, some(14))
	near(0, some(10))
	// 4 was used longest ago.
	far(3, noughts())
	near(0, some(10))
	near(3, noughts())
	far(4, some(14))
	far(0, some(10))
	// What is near is told, whatever becomes of the disk.
	for place := range 16 {
		spoil(t, d, place)
	}
	near(4, some(14))
	goDown(t, d)
	near(0, some(10))
	near(4, some(14))
}

func TestACacheOfNone(t *testing.T) {
	for _, n := range []int{0, -1, math.MinInt} {
		s, d, _ := inVault(t, n)
		for range 3 {
			for i, want := range map[uint64][]byte{0: some(10), 3: noughts(), 4: some(14)} {
				asks(t, d, ops(paths[i], nil), func() { reads(t, s, i, want) })
			}
		}
	}
}

// A late block is told from memory, and isn't put in the cache: what stood there stays near.
func TestReadOfLateBlocks(t *testing.T) {
	s, d, k := inVault(t, 1)
	reads(t, s, 0, some(10))
	commit(t, s, seeded{4, 20})
	still(t, d, k, func() {
		reads(t, s, 4, some(20))
		reads(t, s, 0, some(10))
		reads(t, s, 4, some(20))
	})
	spoil(t, d, 8)
	spoil(t, d, 16)
	still(t, d, k, func() { reads(t, s, 4, some(20)) })
}

// A commit, and a checkpoint, drop from the cache what they wrote, and nothing else.
func TestTheCacheDropsWhatIsWritten(t *testing.T) {
	s, d, _ := inVault(t, 3)
	for i, seed := range []int{10, 11, 12} {
		reads(t, s, uint64(i), some(seed))
	}
	commit(t, s, seeded{1, 21})
	if got := s.cache.Blocks(); !slices.Equal(got, []uint64{2, 0}) {
		t.Fatalf("near are %v", got)
	}
	asks(t, d, nil, func() {
		reads(t, s, 0, some(10))
		reads(t, s, 2, some(12))
		reads(t, s, 1, some(21))
	})
	// Something stands in the cache of a late block, though no call lets it.
	must(t, s.cache.Put(1, some(99)), api.OK)
	must(t, s.Checkpoint(), api.OK)
	if got := s.cache.Blocks(); !slices.Equal(got, []uint64{2, 0}) {
		t.Fatalf("near are %v", got)
	}
	asks(t, d, ops([]int{15, 11, 3}, nil), func() { reads(t, s, 1, some(21)) })
	asks(t, d, nil, func() { reads(t, s, 1, some(21)) })
}

func TestReadTellsErrIntegrity(t *testing.T) {
	for _, place := range paths[4] {
		s, d, k := inVault(t, 2)
		reads(t, s, 0, some(10))
		spoil(t, d, place)
		readFails(t, s, 4, api.ErrIntegrity)
		bad(t, s, d, k, api.ErrIntegrity)
	}
	s, d, k := inVault(t, 2)
	a := begin(t, s)
	spoil(t, d, 8)
	readFails(t, a, 4, api.ErrIntegrity)
	bad(t, s, d, k, api.ErrIntegrity, a)
	s, d, k = inVault(t, 2)
	goDown(t, d)
	readFails(t, s, 3, api.ErrDown)
	bad(t, s, d, k, api.ErrDown)
}

// Memory of their own

func TestReadTellsNewMemory(t *testing.T) {
	s, _, _ := inVault(t, 2)
	commit(t, s, seeded{1, 21})
	a := begin(t, s)
	must(t, a.Write(2, some(22)), api.OK)
	for range 3 {
		for i, want := range map[uint64][]byte{0: some(10), 1: some(21), 3: noughts(), 2: some(12)} {
			b, e := s.Read(i)
			must(t, e, api.OK)
			if !bytes.Equal(b, want) {
				t.Fatalf("Read of %d: %x", i, b)
			}
			clear(b)
			b[0] = 7
			_ = append(b, 1, 2, 3)
			if i == 2 {
				want = some(22)
			}
			b, e = a.Read(i)
			must(t, e, api.OK)
			if !bytes.Equal(b, want) {
				t.Fatalf("the change's Read of %d: %x", i, b)
			}
			clear(b)
			b[0] = 7
		}
	}
	must(t, a.Commit(), api.OK)
	reads(t, s, 2, some(22))
}

func TestWriteKeepsAndChangesNothing(t *testing.T) {
	s, d, k := fresh(t, five())
	all := long(5, 400)
	b := all[100:260]
	a := begin(t, s)
	must(t, a.Write(1, b), api.OK)
	must(t, a.Write(4, b[:160:160]), api.OK)
	if !bytes.Equal(all, long(5, 400)) {
		t.Fatal("what is handed in changed")
	}
	clear(all)
	want := long(5, 400)[100:260]
	one, e := a.Read(1)
	must(t, e, api.OK)
	if !bytes.Equal(one, want) {
		t.Fatal("what is handed in is kept")
	}
	must(t, a.Commit(), api.OK)
	if !bytes.Equal(all, make([]byte, 400)) {
		t.Fatal("what was handed in changed")
	}
	reads(t, s, 1, want)
	reads(t, mount(t, d, k, five()), 4, want)
}

func TestTheMasterKeyIsNotKept(t *testing.T) {
	c := five()
	s, d, k := fresh(t, c)
	if !bytes.Equal(c.Master, long(77, 32)) {
		t.Fatal("what is handed in changed")
	}
	clear(c.Master)
	commit(t, s, seeded{1, 1})
	must(t, s.Checkpoint(), api.OK)
	commit(t, s, seeded{2, 2})
	s = mount(t, d, k, five())
	reads(t, s, 1, some(1))
	reads(t, s, 2, some(2))
}

// Begin, and what is done in a change (P16.4)

func TestOneChangeAtATime(t *testing.T) {
	s, d, k := fresh(t, five())
	for range 3 {
		a := begin(t, s)
		still(t, d, k, func() {
			beginFails(t, s, api.ErrState)
			must(t, s.Checkpoint(), api.ErrState)
		})
		must(t, a.Write(1, some(1)), api.OK)
		beginFails(t, s, api.ErrState)
		must(t, a.Commit(), api.OK)
		a = begin(t, s)
		must(t, s.Checkpoint(), api.ErrState)
		must(t, a.Abort(), api.OK)
		must(t, s.Checkpoint(), api.OK)
		must(t, s.Bad(), api.OK)
	}
}

func TestAChangeThatIsOver(t *testing.T) {
	over := func(s *Store, d *disk.Disk, k *cell.Keeper, a *Change) {
		t.Helper()
		still(t, d, k, func() {
			readFails(t, a, 0, api.ErrState)
			readFails(t, a, 1, api.ErrState)
			readFails(t, a, top, api.ErrState)
			must(t, a.Write(0, some(9)), api.ErrState)
			must(t, a.Write(top, nil), api.ErrState)
			must(t, a.Commit(), api.ErrState)
			must(t, a.Abort(), api.ErrState)
		})
		must(t, s.Bad(), api.OK)
	}
	s, d, k := fresh(t, five())
	first := written(t, s, seeded{1, 1})
	must(t, first.Commit(), api.OK)
	over(s, d, k, first)
	second := written(t, s, seeded{1, 2})
	over(s, d, k, first)
	must(t, second.Abort(), api.OK)
	over(s, d, k, first)
	over(s, d, k, second)
	third := begin(t, s)
	must(t, third.Commit(), api.OK)
	over(s, d, k, third)
	// Those that are over don't end the one that is under way.
	fourth := written(t, s, seeded{2, 3})
	for _, a := range []*Change{first, second, third} {
		over(s, d, k, a)
	}
	must(t, fourth.Commit(), api.OK)
	reads(t, s, 0, noughts())
	reads(t, s, 1, some(1))
	reads(t, s, 2, some(3))
}

// What a change wrote is seen in it alone, until it is committed.
func TestReadInAChange(t *testing.T) {
	s, d, k := inVault(t, 2)
	commit(t, s, seeded{1, 21})
	a := begin(t, s)
	is := func(i uint64, want []byte) {
		t.Helper()
		if b, e := a.Read(i); e != api.OK || !bytes.Equal(b, want) {
			t.Fatalf("the change's Read of %d: %x, error %d", i, b, e)
		}
	}
	is(0, some(10))
	is(1, some(21))
	is(3, noughts())
	is(4, some(14))
	still(t, d, k, func() {
		for i, seed := range []int{30, 31, 32} {
			must(t, a.Write(uint64(i), some(seed)), api.OK)
		}
		must(t, a.Write(1, some(33)), api.OK)
		is(0, some(30))
		is(1, some(33))
		is(2, some(32))
		reads(t, s, 1, some(21))
	})
	reads(t, s, 0, some(10))
	reads(t, s, 2, some(12))
	must(t, a.Commit(), api.OK)
	hasAll(t, s, [][]byte{some(30), some(33), some(32), noughts(), some(14)})
}

// A change's Read is the store's: it is kept near.
func TestReadInAChangeIsTheStores(t *testing.T) {
	s, d, _ := inVault(t, 2)
	a := begin(t, s)
	asks(t, d, ops(paths[4], nil), func() {
		b, e := a.Read(4)
		if e != api.OK || !bytes.Equal(b, some(14)) {
			t.Fatalf("%x, error %d", b, e)
		}
	})
	asks(t, d, nil, func() { reads(t, s, 4, some(14)) })
}

func TestWriteAsksForABlocksBytes(t *testing.T) {
	s, d, k := fresh(t, five())
	a := begin(t, s)
	still(t, d, k, func() {
		for _, n := range []int{0, 1, 159, 161, 192, 320} {
			must(t, a.Write(4, long(1, n)), api.ErrArg)
			must(t, a.Write(5, long(1, n)), api.ErrRange)
		}
		must(t, a.Write(0, nil), api.ErrArg)
	})
	// What was refused isn't written.
	still(t, d, k, func() { must(t, a.Commit(), api.OK) })
	for i := range uint64(5) {
		reads(t, s, i, noughts())
	}
}

func TestAChangeThatIsTooGreat(t *testing.T) {
	for _, limit := range []int{1, 2, 4} {
		s, d, k := fresh(t, config(5, 4, limit, 2))
		a := begin(t, s)
		for i := range limit {
			must(t, a.Write(uint64(i), some(i)), api.OK)
		}
		still(t, d, k, func() {
			must(t, a.Write(4, some(9)), api.ErrFull)
			must(t, a.Write(uint64(limit), some(9)), api.ErrFull)
			// The others are told ahead.
			must(t, a.Write(4, nil), api.ErrArg)
			must(t, a.Write(5, some(9)), api.ErrRange)
		})
		// Those that it wrote may be written again.
		for i := range limit {
			must(t, a.Write(uint64(i), some(40+i)), api.OK)
		}
		must(t, a.Write(4, some(9)), api.ErrFull)
		must(t, a.Commit(), api.OK)
		for i := range limit {
			reads(t, s, uint64(i), some(40+i))
		}
		reads(t, s, 4, noughts())
		// The next one may write as many.
		a = begin(t, s)
		for i := range limit {
			must(t, a.Write(uint64(4-i), some(60+i)), api.OK)
		}
		must(t, a.Write(0, some(9)), api.ErrFull)
		must(t, a.Commit(), api.OK)
		must(t, s.Bad(), api.OK)
	}
}

func TestAbort(t *testing.T) {
	s, d, k := inVault(t, 2)
	commit(t, s, seeded{1, 21})
	reads(t, s, 0, some(10))
	still(t, d, k, func() {
		a := written(t, s, seeded{0, 30}, seeded{1, 31}, seeded{3, 33})
		must(t, a.Abort(), api.OK)
		reads(t, s, 0, some(10))
		reads(t, s, 1, some(21))
	})
	hasAll(t, s, [][]byte{some(10), some(21), some(12), noughts(), some(14)})
	hasAll(t, mount(t, d, k, config(5, 4, 4, 2)), [][]byte{some(10), some(21), some(12), noughts(), some(14)})
}

// Commit (P16.4)

func TestCommitOfNothing(t *testing.T) {
	s, d, k := fresh(t, five())
	commit(t, s, seeded{1, 1}, seeded{2, 2})
	goDown(t, d)
	still(t, d, k, func() {
		must(t, begin(t, s).Commit(), api.OK)
		must(t, begin(t, s).Commit(), api.OK)
	})
	must(t, s.Bad(), api.OK)
	if n, left := s.Blocks(); n != 5 || left != 2 {
		t.Errorf("Blocks: %d, %d", n, left)
	}
}

// Records are by rising numbers, each block once, with its last bytes; then the disk is flushed, then the cell is put.
func TestCommit(t *testing.T) {
	c := config(5, 8, 5, 2)
	s, d, k := fresh(t, c)
	set, _ := keys.Of(c.Master)
	a := written(t, s, seeded{3, 1}, seeded{0, 2}, seeded{4, 3}, seeded{3, 4})
	now := puts(t, k, func() {
		asks(t, d, ops(nil, []int{16, 17, 18}), func() { must(t, a.Commit(), api.OK) })
	})
	if now != (api.Cell{Counter: 3, Count: 3, Tag: chain(t, d, 16, 17, 18)}) {
		t.Fatalf("the cell is %v", now)
	}
	for i, want := range []seeded{{0, 2}, {3, 4}, {4, 3}} {
		_, plain, e := seal.Open(set.Journal, uint32(16+i), at(t, d, 16+i), 176)
		must(t, e, api.OK)
		last := byte(0)
		if i == 2 {
			last = 1
		}
		if !bytes.Equal(plain, slices.Concat([]byte{1, last, 0, 0, 0, 0, 0, 0, byte(want.block), 0, 0, 0, 0, 0, 0, 0}, some(want.seed))) {
			t.Errorf("record %d is %x", i, plain)
		}
	}
	if d.Pending() != 0 {
		t.Error("writes are under way")
	}
	a = written(t, s, seeded{4, 5}, seeded{1, 6})
	now = puts(t, k, func() {
		asks(t, d, ops(nil, []int{19, 20}), func() { must(t, a.Commit(), api.OK) })
	})
	if now != (api.Cell{Counter: 4, Count: 5, Tag: chain(t, d, 16, 17, 18, 19, 20)}) {
		t.Fatalf("the cell is %v", now)
	}
	want := [][]byte{some(2), some(6), noughts(), some(4), some(5)}
	hasAll(t, s, want)
	hasAll(t, mount(t, d, k, c), want)
}

// Room that is just enough is no reason for a checkpoint; one less is. Then the journal goes on behind what counted, round the ring.
func TestCommitMakesRoom(t *testing.T) {
	c := config(5, 4, 4, 2)
	s, d, k := fresh(t, c)
	commit(t, s, seeded{0, 1}, seeded{1, 2})
	asks(t, d, ops(nil, []int{18, 19}), func() { commit(t, s, seeded{1, 3}, seeded{2, 4}) })
	if _, left := s.Blocks(); left != 0 {
		t.Fatalf("Room: %d", left)
	}
	was := k.Get()
	a := written(t, s, seeded{4, 5})
	asks(t, d, slices.Concat(ops(nil, []int{0, 2, 4, 10, 14}), ops(nil, []int{16})), func() { must(t, a.Commit(), api.OK) })
	now := k.Get()
	if now.Counter != was.Counter+2 || now.Start != 0 || now.Count != 1 || now.Tag != chain(t, d, 16) {
		t.Fatalf("the cell is %v", now)
	}
	if now.Root != tree.Digest(2, 14, at(t, d, 14)) || now.Version != 2*version(at(t, d, 14)) {
		t.Fatalf("the cell is %v", now)
	}
	// Three are left: four are too many.
	a = written(t, s, seeded{0, 6}, seeded{1, 7}, seeded{2, 8}, seeded{3, 9})
	asks(t, d, slices.Concat(ops([]int{14}, []int{8, 12, 15}), ops(nil, []int{17, 18, 19, 16})), func() { must(t, a.Commit(), api.OK) })
	now = k.Get()
	if now.Counter != was.Counter+4 || now.Start != 1 || now.Count != 4 || now.Tag != chain(t, d, 17, 18, 19, 16) {
		t.Fatalf("the cell is %v", now)
	}
	want := [][]byte{some(6), some(7), some(8), some(9), some(5)}
	hasAll(t, s, want)
	hasAll(t, mount(t, d, k, c), want)
}

// Wherever a commit stops, it is over, nothing of it is so, and the store is bad.
func TestCommitOnADiskThatStops(t *testing.T) {
	c := config(5, 4, 4, 2)
	for after := range 8 {
		s, d, k := fresh(t, c)
		commit(t, s, seeded{0, 1}, seeded{1, 2}, seeded{4, 3})
		a := written(t, s, seeded{1, 4}, seeded{2, 5})
		// The checkpoint writes three leaves, two nodes and the top.
		d.Stop(after)
		must(t, a.Commit(), api.ErrDown)
		bad(t, s, d, k, api.ErrDown, a)
		d.Crash(slices.Repeat([]bool{true}, 9))
		bad(t, s, d, k, api.ErrDown)
		s = mount(t, d, k, c)
		hasAll(t, s, [][]byte{some(1), some(2), noughts(), noughts(), some(3)})
		must(t, s.Bad(), api.OK)
	}
}

// A disk that is down ahead of the flush: it is told, and the cell isn't put.
func TestCommitOfADiskThatIsDown(t *testing.T) {
	s, d, k := fresh(t, five())
	goDown(t, d)
	a := written(t, s, seeded{1, 4})
	still(t, d, k, func() { must(t, a.Commit(), api.ErrDown) })
	bad(t, s, d, k, api.ErrDown, a)
}

// What the checkpoint tells, a commit tells: then nothing is appended.
func TestCommitTellsWhatCheckpointTells(t *testing.T) {
	s, d, k := inVault(t, 2)
	commit(t, s, seeded{0, 1}, seeded{1, 2}, seeded{2, 3})
	spoil(t, d, 10)
	was := k.Get()
	a := written(t, s, seeded{0, 4}, seeded{3, 5})
	asks(t, d, ops([]int{14, 10}, nil), func() { must(t, a.Commit(), api.ErrIntegrity) })
	if k.Get() != was {
		t.Error("the cell was put")
	}
	bad(t, s, d, k, api.ErrIntegrity, a)
}

// A store behind which another one was mounted puts no cell any more; it isn't bad.
func TestAStoreThatIsBehind(t *testing.T) {
	c := five()
	old, d, k := fresh(t, c)
	commit(t, old, seeded{0, 1})
	s := mount(t, d, k, c)
	was := k.Get()
	a := written(t, old, seeded{1, 2})
	must(t, a.Commit(), api.ErrBack)
	must(t, a.Abort(), api.ErrState)
	must(t, old.Checkpoint(), api.ErrBack)
	must(t, old.Bad(), api.OK)
	reads(t, old, 0, some(1))
	reads(t, old, 1, noughts())
	if n, left := old.Blocks(); n != 5 || left != 3 {
		t.Errorf("Blocks: %d, %d", n, left)
	}
	if k.Get() != was {
		t.Error("the cell was put")
	}
	commit(t, s, seeded{1, 3})
	reads(t, mount(t, d, k, c), 1, some(3))
}

// With an error of the cell all is as it was: what was near, late, or behind the top.
func TestCommitAndCheckpointAtTheLastCounter(t *testing.T) {
	c := five()
	d, k := room(t, c), keeper(t, api.Cell{Counter: tooMuch - 4})
	s := mount(t, d, k, c)
	commit(t, s, seeded{0, 1})
	commit(t, s, seeded{1, 2})
	if k.Get().Counter != tooMuch-1 {
		t.Fatalf("the counter is %d", k.Get().Counter)
	}
	reads(t, s, 2, noughts())
	was := k.Get()
	for range 3 {
		a := written(t, s, seeded{1, 3}, seeded{2, 4})
		asks(t, d, ops(nil, []int{18, 19}), func() { must(t, a.Commit(), api.ErrWorn) })
		must(t, a.Commit(), api.ErrState)
		asks(t, d, ops(nil, []int{0, 2, 10, 14}), func() { must(t, s.Checkpoint(), api.ErrWorn) })
		a = written(t, s, seeded{1, 3}, seeded{2, 4}, seeded{3, 5})
		asks(t, d, ops(nil, []int{0, 2, 10, 14}), func() { must(t, a.Commit(), api.ErrWorn) })
		must(t, s.Bad(), api.OK)
		if n, left := s.Blocks(); n != 5 || left != 2 {
			t.Errorf("Blocks: %d, %d", n, left)
		}
		if got := s.cache.Blocks(); !slices.Equal(got, []uint64{2}) {
			t.Errorf("near are %v", got)
		}
		still(t, d, k, func() {
			reads(t, s, 0, some(1))
			reads(t, s, 1, some(2))
			reads(t, s, 2, noughts())
		})
	}
	if k.Get() != was {
		t.Error("the cell was put")
	}
}

// Checkpoint, Bad, Blocks (P16.5)

func TestCheckpointOfNothing(t *testing.T) {
	s, d, k := fresh(t, five())
	still(t, d, k, func() {
		must(t, s.Checkpoint(), api.OK)
		must(t, begin(t, s).Commit(), api.OK)
		must(t, s.Checkpoint(), api.OK)
	})
	commit(t, s, seeded{1, 1})
	must(t, s.Checkpoint(), api.OK)
	goDown(t, d)
	still(t, d, k, func() { must(t, s.Checkpoint(), api.OK) })
}

func TestCheckpoint(t *testing.T) {
	c := config(5, 8, 5, 2)
	s, d, k := fresh(t, c)
	commit(t, s, seeded{4, 1}, seeded{0, 2})
	commit(t, s, seeded{4, 3})
	now := puts(t, k, func() {
		asks(t, d, ops(nil, []int{0, 8, 10, 12, 14}), func() { must(t, s.Checkpoint(), api.OK) })
	})
	slot := at(t, d, 14)
	if now != (api.Cell{Root: tree.Digest(2, 14, slot), Version: 2 * version(slot), Counter: 5, Start: 3}) {
		t.Fatalf("the cell is %v", now)
	}
	if n, left := s.Blocks(); n != 5 || left != 8 {
		t.Errorf("Blocks: %d, %d", n, left)
	}
	// No block is late any more.
	asks(t, d, ops([]int{14, 12, 8}, nil), func() { reads(t, s, 4, some(3)) })
	asks(t, d, ops([]int{14, 10, 0}, nil), func() { reads(t, s, 0, some(2)) })
	asks(t, d, ops([]int{14, 10}, nil), func() { reads(t, s, 1, noughts()) })
	// The journal's places don't count any more.
	for place := 16; place < 24; place++ {
		spoil(t, d, place)
	}
	must(t, s.Checkpoint(), api.OK)
	s = mount(t, d, k, c)
	hasAll(t, s, [][]byte{some(2), noughts(), noughts(), noughts(), some(3)})
	// The next ones write what was committed since alone, and go round the ring.
	for round := range 9 {
		commit(t, s, seeded{1, 100 + round})
		now := puts(t, k, func() { must(t, s.Checkpoint(), api.OK) })
		if now.Start != uint64(4+round)%8 || now.Count != 0 || now.Tag != (api.Sum{}) {
			t.Fatalf("round %d: the cell is %v", round, now)
		}
	}
	hasAll(t, mount(t, d, k, c), [][]byte{some(2), some(108), noughts(), noughts(), some(3)})
}

// Wherever a checkpoint stops, the store is bad, and no block is another one.
func TestCheckpointOnADiskThatStops(t *testing.T) {
	c := five()
	for after := range 5 {
		s, d, k := fresh(t, c)
		commit(t, s, seeded{0, 1}, seeded{4, 2})
		was := k.Get()
		d.Stop(after)
		must(t, s.Checkpoint(), api.ErrDown)
		bad(t, s, d, k, api.ErrDown)
		if k.Get() != was {
			t.Error("the cell was put")
		}
		d.Crash(slices.Repeat([]bool{true}, 9))
		hasAll(t, mount(t, d, k, c), [][]byte{some(1), noughts(), noughts(), noughts(), some(2)})
	}
	s, d, k := inVault(t, 2)
	commit(t, s, seeded{0, 1})
	was := k.Get()
	spoil(t, d, 14)
	must(t, s.Checkpoint(), api.ErrIntegrity)
	bad(t, s, d, k, api.ErrIntegrity)
	if k.Get() != was {
		t.Error("the cell was put")
	}
}

// bad holds that a store, and its changes, answer its bad error to all calls, and ask nothing of anyone.
func bad(t *testing.T, s *Store, d *disk.Disk, k *cell.Keeper, want api.Errno, l ...*Change) {
	t.Helper()
	still(t, d, k, func() {
		for range 2 {
			must(t, s.Bad(), want)
			for _, i := range []uint64{0, 1, 3, 4, 5, top} {
				readFails(t, s, i, want)
			}
			beginFails(t, s, want)
			must(t, s.Checkpoint(), want)
			for _, a := range l {
				readFails(t, a, 0, want)
				readFails(t, a, top, want)
				must(t, a.Write(0, some(1)), want)
				must(t, a.Write(top, nil), want)
				must(t, a.Commit(), want)
				must(t, a.Abort(), want)
			}
		}
	})
}

// The first one stays, whatever the disk tells then, until it is mounted anew.
func TestTheFirstBadErrorStays(t *testing.T) {
	c := config(5, 4, 4, 2)
	s, d, k := inVault(t, 2)
	must(t, s.Bad(), api.OK)
	reads(t, s, 0, some(10))
	commit(t, s, seeded{1, 21})
	over := begin(t, s)
	must(t, over.Abort(), api.OK)
	a := written(t, s, seeded{2, 22})
	was := d.Image()
	spoil(t, d, 8)
	readFails(t, s, 4, api.ErrIntegrity)
	bad(t, s, d, k, api.ErrIntegrity, a, over)
	goDown(t, d)
	bad(t, s, d, k, api.ErrIntegrity, a, over)
	d.Crash(nil)
	must(t, d.Restore(was), api.OK)
	bad(t, s, d, k, api.ErrIntegrity, a, over)
	if n, left := s.Blocks(); n != 5 || left != 3 {
		t.Errorf("Blocks: %d, %d", n, left)
	}
	hasAll(t, mount(t, d, k, c), [][]byte{some(10), some(21), some(12), noughts(), some(14)})
	// And the other way round.
	s, d, k = inVault(t, 2)
	a = begin(t, s)
	goDown(t, d)
	readFails(t, a, 4, api.ErrDown)
	d.Crash(nil)
	spoil(t, d, 8)
	bad(t, s, d, k, api.ErrDown, a)
}

func TestBlocks(t *testing.T) {
	for _, x := range [][2]int{{1, 1}, {5, 4}, {17, 9}, {1024, 1024}} {
		s, d, k := fresh(t, config(x[0], x[1], 1, 0))
		is := func(left int) {
			t.Helper()
			still(t, d, k, func() {
				if n, room := s.Blocks(); n != x[0] || room != uint64(left) {
					t.Fatalf("Blocks: %d, %d, not %d, %d", n, room, x[0], left)
				}
			})
		}
		is(x[1])
		commit(t, s, seeded{0, 1})
		is(x[1] - 1)
		a := written(t, s, seeded{0, 2})
		is(x[1] - 1)
		must(t, a.Abort(), api.OK)
		is(x[1] - 1)
		must(t, s.Checkpoint(), api.OK)
		is(x[1])
	}
}

func TestNil(t *testing.T) {
	var s *Store
	readFails(t, s, 0, api.ErrArg)
	beginFails(t, s, api.ErrArg)
	must(t, s.Checkpoint(), api.ErrArg)
	must(t, s.Bad(), api.ErrArg)
	if n, left := s.Blocks(); n != 0 || left != 0 {
		t.Errorf("Blocks: %d, %d", n, left)
	}
	var a *Change
	readFails(t, a, 0, api.ErrArg)
	must(t, a.Write(0, some(1)), api.ErrArg)
	must(t, a.Write(0, nil), api.ErrArg)
	must(t, a.Commit(), api.ErrArg)
	must(t, a.Abort(), api.ErrArg)
}

// Stores and changes that no call made: some answer, and no panic.
func TestWhatNoCallMade(t *testing.T) {
	s := &Store{}
	s.Read(0)
	a, _ := s.Begin()
	a.Read(0)
	a.Write(0, some(1))
	a.Commit()
	s.Checkpoint()
	s.Bad()
	s.Blocks()
	a = &Change{}
	a.Read(0)
	a.Write(0, some(1))
	a.Commit()
	a.Abort()
}

// Two stores share nothing; the same calls have the same answers.
func TestTheSameCallsHaveTheSameAnswers(t *testing.T) {
	c := config(21, 9, 9, 3)
	var images [][][]byte
	var cells []api.Cell
	for range 3 {
		s, d, k := fresh(t, c)
		for round := range 12 {
			a := begin(t, s)
			for i, x := range long(round, 9) {
				must(t, a.Write(uint64(x)%21, some(10*round+i)), api.OK)
			}
			must(t, a.Commit(), api.OK)
		}
		images, cells = append(images, d.Image()), append(cells, k.Get())
	}
	if cells[0] != cells[1] || cells[0] != cells[2] || !reflect.DeepEqual(images[0], images[1]) || !reflect.DeepEqual(images[0], images[2]) {
		t.Error("the same calls have other answers")
	}
}
