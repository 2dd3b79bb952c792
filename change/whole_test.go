package change

import (
	"bytes"
	"fmt"
	"reflect"
	"slices"
	"testing"

	"reliquary/api"
	"reliquary/buffers"
	"reliquary/cell"
	"reliquary/disk"
	"reliquary/journal"
	"reliquary/keys"
	"reliquary/replay"
	"reliquary/tree"
	"reliquary/vault"
)

// draws tells numbers without a rule that a fault could hide in.
type draws struct{ x uint64 }

// below is one below n.
func (r *draws) below(n int) int {
	r.x = r.x*6364136223846793005 + 1442695040888963407
	return int((r.x >> 33) % uint64(n))
}

// told is a store as the promises' words tell it, on a disk and a keeper of its own.
type told struct {
	d       *disk.Disk
	k       *cell.Keeper
	c       Config
	v       *vault.Vault
	j       *journal.Journal
	late    map[uint64][]byte
	near    *buffers.Cache
	counter uint64
	bad     api.Errno
	begun   bool
	wrote   map[uint64][]byte
}

func (s *told) mount() api.Errno {
	set, _ := keys.Of(s.c.Master)
	first, _ := vault.Places(s.c.Blocks)
	was := s.k.Get()
	state := journal.State{Start: was.Start, Count: was.Count, Tag: was.Tag}
	l, e := replay.Load(s.d, set.Journal, first, s.c.Journal, state)
	if e != api.OK {
		return e
	}
	top := tree.Ref{Sum: was.Root, Stamp: was.Version}
	was.Counter++
	if e := s.k.Put(was); e != api.OK {
		return e
	}
	s.counter, s.bad, s.begun, s.wrote = was.Counter, api.OK, false, nil
	next, limit := s.counter<<24, (s.counter+1)<<24-1
	s.v, _ = vault.New(s.d, set.Home, s.c.Blocks, top, next, limit)
	s.j, _ = journal.New(s.d, set.Journal, first, s.c.Journal, state, next, limit)
	s.near = buffers.New(s.c.Cache)
	s.late = map[uint64][]byte{}
	for _, m := range replay.Latest(l) {
		s.late[m.Block] = m.Bytes
	}
	return api.OK
}

func (s *told) note(e api.Errno) api.Errno {
	if s.bad == api.OK && (e == api.ErrIntegrity || e == api.ErrDown) {
		s.bad = e
	}
	return e
}

func (s *told) read(i uint64) ([]byte, api.Errno) {
	if s.bad != api.OK {
		return nil, s.bad
	}
	if i >= uint64(s.c.Blocks) {
		return nil, api.ErrRange
	}
	if b, ok := s.late[i]; ok {
		return b, api.OK
	}
	if b, ok := s.near.Get(i); ok {
		return b, api.OK
	}
	b, e := s.v.Read(i)
	if e == api.OK {
		s.near.Put(i, b)
	}
	return b, s.note(e)
}

func (s *told) begin() api.Errno {
	if s.bad != api.OK {
		return s.bad
	}
	if s.begun {
		return api.ErrState
	}
	s.begun, s.wrote = true, map[uint64][]byte{}
	return api.OK
}

func (s *told) over() api.Errno {
	if s.bad != api.OK {
		return s.bad
	}
	if !s.begun {
		return api.ErrState
	}
	return api.OK
}

func (s *told) readIn(i uint64) ([]byte, api.Errno) {
	if e := s.over(); e != api.OK {
		return nil, e
	}
	if b, ok := s.wrote[i]; ok {
		return b, api.OK
	}
	return s.read(i)
}

func (s *told) write(i uint64, b []byte) api.Errno {
	if e := s.over(); e != api.OK {
		return e
	}
	if i >= uint64(s.c.Blocks) {
		return api.ErrRange
	}
	if len(b) != 160 {
		return api.ErrArg
	}
	if s.wrote[i] == nil && len(s.wrote) == s.c.Limit {
		return api.ErrFull
	}
	s.wrote[i] = b
	return api.OK
}

func (s *told) images(m map[uint64][]byte) []api.Image {
	var l []api.Image
	for i := range uint64(s.c.Blocks) {
		if b, ok := m[i]; ok {
			l = append(l, api.Image{Block: i, Bytes: b})
		}
	}
	return l
}

func (s *told) put(top tree.Ref, state journal.State) api.Errno {
	if s.counter+1 >= 1<<38-1 {
		return api.ErrWorn
	}
	e := s.k.Put(api.Cell{Root: top.Sum, Version: top.Stamp, Counter: s.counter + 1, Start: state.Start, Count: state.Count, Tag: state.Tag})
	if e != api.OK {
		return e
	}
	s.counter++
	s.v.Adopt(top, (s.counter+1)<<24-1)
	s.j.Adopt(state, (s.counter+1)<<24-1)
	return api.OK
}

func (s *told) abort() api.Errno {
	e := s.over()
	s.begun = false
	return e
}

func (s *told) commit() api.Errno {
	if e := s.over(); e != api.OK {
		return e
	}
	s.begun = false
	l := s.images(s.wrote)
	if len(l) == 0 {
		return api.OK
	}
	if uint64(len(l)) > s.j.Room() {
		if e := s.checkpoint(); e != api.OK {
			return e
		}
	}
	state, e := s.j.Append(l)
	if e != api.OK {
		return s.note(e)
	}
	if e := s.d.Flush(); e != api.OK {
		return s.note(e)
	}
	top, _ := s.v.Top()
	if e := s.put(top, state); e != api.OK {
		return e
	}
	for _, m := range l {
		s.late[m.Block] = m.Bytes
		s.near.Drop(m.Block)
	}
	return api.OK
}

func (s *told) checkpoint() api.Errno {
	if s.bad != api.OK {
		return s.bad
	}
	if s.begun {
		return api.ErrState
	}
	l := s.images(s.late)
	if state, _ := s.j.State(); len(l) == 0 && state.Count == 0 {
		return api.OK
	}
	top, e := s.v.Update(l)
	if e != api.OK {
		return s.note(e)
	}
	if e := s.d.Flush(); e != api.OK {
		return s.note(e)
	}
	if e := s.put(top, s.j.Empty()); e != api.OK {
		return e
	}
	s.late = map[uint64][]byte{}
	for _, m := range l {
		s.near.Drop(m.Block)
	}
	return api.OK
}

// pair is a store, and one as the words tell it, of which the same is asked.
type pair struct {
	t *testing.T
	s *Store
	a *Change
	d *disk.Disk
	k *cell.Keeper
	m *told
	r *draws
}

func newPair(t *testing.T, c Config, seed uint64) *pair {
	t.Helper()
	s, d, k := fresh(t, c)
	m := &told{d: room(t, c), k: cell.New(), c: c}
	must(t, m.k.Put(api.Cell{Counter: 1}), api.OK)
	must(t, m.mount(), api.OK)
	return &pair{t: t, s: s, d: d, k: k, m: m, r: &draws{seed}}
}

// same holds an error against the one that the words tell.
func (p *pair) same(what string, got, want api.Errno) {
	p.t.Helper()
	if got != want {
		p.t.Fatalf("%s: error %d, not %d", what, got, want)
	}
}

// sameBytes holds bytes and an error against those that the words tell.
func (p *pair) sameBytes(what string, b []byte, e api.Errno, wantBytes []byte, want api.Errno) {
	p.t.Helper()
	if e != want || !bytes.Equal(b, wantBytes) {
		p.t.Fatalf("%s: %x, error %d, not %x, error %d", what, b, e, wantBytes, want)
	}
}

// agree holds the disk, the cell, and what is told of the store against those of the words.
func (p *pair) agree(what string, ops int) {
	p.t.Helper()
	if got, want := p.d.Ops()[ops:], p.m.d.Ops()[ops:]; !slices.Equal(got, want) {
		p.t.Fatalf("%s: the disk was asked %v, not %v", what, got, want)
	}
	if p.k.Get() != p.m.k.Get() || p.k.Times() != p.m.k.Times() {
		p.t.Fatalf("%s: the cell is %v, not %v", what, p.k.Get(), p.m.k.Get())
	}
	if p.d.Pending() != p.m.d.Pending() || !reflect.DeepEqual(p.d.Image(), p.m.d.Image()) {
		p.t.Fatalf("%s: the disk holds something else", what)
	}
	n, left := p.s.Blocks()
	if n != p.m.c.Blocks || left != p.m.j.Room() {
		p.t.Fatalf("%s: Blocks: %d, %d, not %d, %d", what, n, left, p.m.c.Blocks, p.m.j.Room())
	}
	p.same(what+": Bad", p.s.Bad(), p.m.bad)
	if !slices.Equal(p.s.cache.Blocks(), p.m.near.Blocks()) {
		p.t.Fatalf("%s: near are %v, not %v", what, p.s.cache.Blocks(), p.m.near.Blocks())
	}
}

// remount mounts both anew; if that is refused, both stay what they were.
func (p *pair) remount() {
	p.t.Helper()
	s, e := Mount(p.d, p.k, p.m.c)
	p.same("Mount", e, p.m.mount())
	if e == api.OK {
		p.s, p.a = s, nil
	}
}

// crash lets both disks keep the same of what was under way.
func (p *pair) crash() {
	keep := make([]bool, p.d.Pending())
	for i := range keep {
		keep[i] = p.r.below(2) == 0
	}
	p.d.Crash(keep)
	p.m.d.Crash(keep)
}

// tamper lays a bit over a place of both disks.
func (p *pair) tamper() {
	place, at := p.r.below(p.d.Size()), p.r.below(192)
	for _, d := range []*disk.Disk{p.d, p.m.d} {
		b := d.Image()[place]
		b[at] ^= 16
		must(p.t, d.Tamper(place, b), api.OK)
	}
}

// step is one call, chosen by chance.
func (p *pair) step(round int) string {
	i := uint64(p.r.below(p.m.c.Blocks + 1))
	switch n := p.r.below(24); {
	case n < 6:
		b, e := p.s.Read(i)
		want, wantError := p.m.read(i)
		p.sameBytes("Read", b, e, want, wantError)
		return "Read"
	case n < 9:
		a, e := p.s.Begin()
		p.same("Begin", e, p.m.begin())
		if e == api.OK {
			p.a = a
		}
		return "Begin"
	case n < 15 && p.a != nil:
		b := long(round, 160+(p.r.below(12)+1)/12)
		p.same("Write", p.a.Write(i, b), p.m.write(i, b))
		return "Write"
	case n < 17 && p.a != nil:
		b, e := p.a.Read(i)
		want, wantError := p.m.readIn(i)
		p.sameBytes("Read in a change", b, e, want, wantError)
		return "Read in a change"
	case n < 20 && p.a != nil:
		p.same("Commit", p.a.Commit(), p.m.commit())
		return "Commit"
	case n == 20 && p.a != nil:
		p.same("Abort", p.a.Abort(), p.m.abort())
		return "Abort"
	case n == 21:
		p.same("Checkpoint", p.s.Checkpoint(), p.m.checkpoint())
		return "Checkpoint"
	case n == 22 && p.r.below(4) == 0:
		after := p.r.below(12)
		p.d.Stop(after)
		p.m.d.Stop(after)
		return "Stop"
	case n == 23 && p.r.below(4) == 0:
		p.crash()
		p.remount()
		return "Mount"
	}
	return "nothing"
}

func TestChangeAsThePromisesTellIt(t *testing.T) {
	for seed, c := range []Config{
		config(1, 1, 1, 0), config(5, 4, 3, 2), config(5, 4, 4, 1), config(5, 3, 3, 9), config(17, 8, 5, 4), config(70, 6, 6, -3), config(9, 20, 2, 3),
	} {
		p := newPair(t, c, uint64(seed))
		for round := range 2500 {
			ops := len(p.d.Ops())
			what := p.step(round)
			p.agree(fmt.Sprintf("seed %d, round %d, %s", seed, round, what), ops)
			if p.s.Bad() != api.OK && p.r.below(6) == 0 {
				p.crash()
				p.remount()
			}
		}
		must(t, p.d.Flush(), p.m.d.Flush())
	}
}

// The same on a disk that is tampered with: the same errors, and the same of the disk is asked.
func TestChangeOnADiskThatIsTamperedWith(t *testing.T) {
	for seed := range 60 {
		p := newPair(t, config(17, 8, 5, 4), uint64(seed)+1000)
		for round := range 300 {
			ops := len(p.d.Ops())
			what := p.step(round)
			p.agree(fmt.Sprintf("seed %d, round %d, %s", seed, round, what), ops)
			if p.r.below(40) == 0 {
				p.tamper()
			}
			if p.s.Bad() != api.OK && p.r.below(6) == 0 {
				p.crash()
				p.remount()
			}
		}
	}
}

// Stops (P16.6)

// script is changes, one behind the other, with checkpoints in between; nothing is a checkpoint.
var script = [][]seeded{
	{{0, 1}, {4, 2}},
	{{1, 3}},
	{{4, 4}, {2, 5}},
	{},
	{{3, 6}},
	{{0, 7}, {1, 8}, {2, 9}},
	{{4, 10}},
	{{4, 11}, {0, 12}},
	{},
	{{2, 13}},
}

// state is blocks; behind is a state behind a change.
type state [5][160]byte

func (x state) behind(l []seeded) state {
	for _, s := range l {
		x[s.block] = [160]byte(some(s.seed))
	}
	return x
}

// is holds a store's blocks against one of these states.
func (x state) is(t *testing.T, s *Store) bool {
	t.Helper()
	for i := range x {
		b, e := s.Read(uint64(i))
		must(t, e, api.OK)
		if !bytes.Equal(b, x[i][:]) {
			return false
		}
	}
	return true
}

// play does a script up to its first error: the state of what was told; that of the change that wasn't; whether there was an error.
func play(t *testing.T, s *Store, from state, l [][]seeded) (state, state, bool) {
	t.Helper()
	for _, x := range l {
		e := api.OK
		if len(x) == 0 {
			e = s.Checkpoint()
		} else {
			e = written(t, s, x...).Commit()
		}
		if e != api.OK {
			must(t, e, api.ErrDown)
			return from, from.behind(x), true
		}
		from = from.behind(x)
	}
	return from, from, false
}

// Wherever the script stops, whatever is kept: what was told stays; of what wasn't, all or nothing.
func TestStops(t *testing.T) {
	c := config(5, 4, 3, 2)
	for after := 0; ; after++ {
		kept, stopped := 1, false
		for mask := 0; mask < kept; mask++ {
			s, d, k := fresh(t, c)
			d.Stop(after)
			var told, under state
			told, under, stopped = play(t, s, state{}, script)
			kept = 1 << d.Pending()
			keep := make([]bool, d.Pending())
			for i := range keep {
				keep[i] = mask>>i&1 == 1
			}
			d.Crash(keep)
			s = mount(t, d, k, c)
			if !told.is(t, s) && !under.is(t, s) {
				t.Fatalf("stopped after %d writes, kept %v: other blocks", after, keep)
			}
			// It goes on as if nothing had been.
			if told, _, _ := play(t, s, told, script[2:6]); !told.is(t, s) || !told.is(t, mount(t, d, k, c)) {
				t.Fatalf("stopped after %d writes, kept %v: other blocks, later", after, keep)
			}
		}
		if !stopped {
			break
		}
	}
}

// The same, over and over on one disk, with changes by chance.
func TestManyStops(t *testing.T) {
	for _, c := range []Config{config(5, 4, 3, 2), config(5, 3, 3, 0), config(5, 7, 5, 5), config(5, 1, 1, 1)} {
		r := &draws{uint64(c.Journal)}
		s, d, k := fresh(t, c)
		var now state
		for round := range 400 {
			var l [][]seeded
			for i := range r.below(6) {
				var x []seeded
				for n := range r.below(c.Limit + 1) {
					x = append(x, seeded{uint64(r.below(5)), 100*round + 10*i + n})
				}
				l = append(l, x)
			}
			d.Stop(r.below(20))
			told, under, _ := play(t, s, now, l)
			keep := make([]bool, d.Pending())
			for i := range keep {
				keep[i] = r.below(2) == 0
			}
			d.Crash(keep)
			s = mount(t, d, k, c)
			if now = told; !now.is(t, s) {
				if now = under; !now.is(t, s) {
					t.Fatalf("round %d: other blocks", round)
				}
			}
		}
	}
}

// Trust (P16.6)

// sound holds that a disk, as it is now, is refused, or holds these blocks; true: all of them were read.
func sound(t *testing.T, d *disk.Disk, k *cell.Keeper, c Config, want state) bool {
	t.Helper()
	s, e := Mount(d, k, c)
	if e != api.OK {
		must(t, e, api.ErrIntegrity)
		return false
	}
	for i := range want {
		b, e := s.Read(uint64(i))
		if e != api.OK {
			must(t, e, api.ErrIntegrity)
			return false
		}
		if !bytes.Equal(b, want[i][:]) {
			t.Fatalf("block %d is another one", i)
		}
	}
	return true
}

func TestAnOlderDisk(t *testing.T) {
	c := config(5, 4, 3, 2)
	s, d, k := fresh(t, c)
	var now state
	images := [][][]byte{d.Image()}
	refused := 0
	for round := range 60 {
		now, _, _ = play(t, s, now, script[round%10:round%10+1])
		last := d.Image()
		for _, old := range images[max(0, len(images)-8):] {
			must(t, d.Restore(old), api.OK)
			if !sound(t, d, k, c, now) {
				refused++
			}
			// Some of the places are laid back alone.
			for place := range old {
				if (place+round)%3 == 0 {
					must(t, d.Restore(last), api.OK)
					must(t, d.Tamper(place, old[place]), api.OK)
					sound(t, d, k, c, now)
				}
			}
		}
		must(t, d.Restore(last), api.OK)
		if !sound(t, d, k, c, now) {
			t.Fatalf("round %d: the last disk is refused", round)
		}
		images = append(images, last)
		s = mount(t, d, k, c)
	}
	if refused == 0 {
		t.Error("no older disk was refused")
	}
}

// Whatever bit is another one, it is refused, or it doesn't count.
func TestEveryPlaceCounts(t *testing.T) {
	c := config(5, 4, 3, 2)
	s, d, k := fresh(t, c)
	now, _, _ := play(t, s, state{}, script)
	last := d.Image()
	counts := 0
	for place := range last {
		for _, at := range []int{0, 7, 8, 100, 191} {
			b := slices.Clone(last[place])
			b[at] ^= 1
			must(t, d.Tamper(place, b), api.OK)
			if !sound(t, d, k, c, now) {
				counts++
			}
			must(t, d.Restore(last), api.OK)
		}
	}
	// Of the four leaves that aren't late, the two nodes, and the top, one side; and one record.
	if counts != 5*(4+2+1+1) {
		t.Errorf("%d of them are refused", counts)
	}
}

// Secrets (T4): no place is sealed twice with one version and other bytes, whenever the disk stops.
func TestNoVersionIsUsedTwice(t *testing.T) {
	c := config(5, 4, 3, 2)
	r := &draws{7}
	s, d, k := fresh(t, c)
	var now state
	type sealed struct {
		place   int
		version uint64
	}
	seen := map[sealed][]byte{}
	for round := range 1500 {
		d.Stop(r.below(9))
		told, under, stopped := play(t, s, now, [][]seeded{{{uint64(r.below(5)), 2 * round}, {uint64(r.below(5)), 2*round + 1}}})
		if stopped {
			// All is kept, so that all that was sealed is seen.
			d.Crash(slices.Repeat([]bool{true}, d.Pending()))
		}
		for place, slot := range d.Image() {
			x := sealed{place, version(slot)}
			if b, ok := seen[x]; ok && !bytes.Equal(b, slot) {
				t.Fatalf("round %d: place %d is sealed twice with the version %d", round, place, x.version)
			}
			seen[x] = slot
		}
		if stopped {
			s = mount(t, d, k, c)
		}
		if now = told; !now.is(t, s) {
			now = under
		}
	}
}

// What is asked of the disk doesn't hang on what stands in blocks (T4).
func TestWhatIsAskedDoesntHangOnBytes(t *testing.T) {
	asked := func(seed int) []disk.Op {
		s, d, _ := fresh(t, config(5, 4, 3, 2))
		for _, x := range script {
			if len(x) == 0 {
				must(t, s.Checkpoint(), api.OK)
				continue
			}
			a := begin(t, s)
			for _, y := range x {
				b := noughts()
				if seed > 0 {
					b = some(seed * y.seed)
				}
				must(t, a.Write(y.block, b), api.OK)
			}
			must(t, a.Commit(), api.OK)
			for i := range uint64(5) {
				s.Read(i)
			}
		}
		return d.Ops()
	}
	first := asked(0)
	for seed := 1; seed < 5; seed++ {
		if !slices.Equal(asked(seed), first) {
			t.Errorf("seed %d: the disk is asked something else", seed)
		}
	}
}
