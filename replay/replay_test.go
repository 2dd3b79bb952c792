package replay

import (
	"bytes"
	"crypto/sha256"
	"encoding/binary"
	"encoding/hex"
	"math"
	"reflect"
	"slices"
	"testing"

	"reliquary/api"
	"reliquary/disk"
	"reliquary/journal"
	"reliquary/seal"
)

// The calls as chapter 14 lists them: this doesn't build if a signature is another one.
var (
	_ func(*disk.Disk, api.Sum, int, int, journal.State) ([][]api.Image, api.Errno) = Load
	_ func([][]api.Image) []api.Image                                               = Latest
)

// last is the greatest limit; top is the greatest number.
const (
	last = 1<<63 - 1
	top  = math.MaxUint64
)

// key is one of which no two bytes are the same.
var key = api.Sum(counted(0, 32))

// rings are such as stand at the disk's begin, at its end, between, and alone; each is first, size, and the disk's places.
var rings = [][3]int{{0, 1, 1}, {0, 1, 3}, {2, 1, 3}, {0, 3, 3}, {1, 3, 4}, {1, 3, 5}, {7, 8, 20}, {300, 5, 305}, {4095, 1, 4096}}

// some is so many bytes without a rule that a fault could hide in; each seed has others.
func some(seed, n int) []byte {
	out := make([]byte, n)
	x := uint32(seed)*2654435761 + 19
	for i := range out {
		x = x*1664525 + 1013904223
		out[i] = byte(x >> 24)
	}
	return out
}

// counted is so many bytes, each the one ahead and 1, from a byte on.
func counted(from byte, n int) []byte {
	out := make([]byte, n)
	for i := range out {
		out[i] = from + byte(i)
	}
	return out
}

// tag is a chain's digest; each seed has another one.
func tag(seed int) api.Sum { return api.Sum(some(seed+5000, 32)) }

// images are so many blocks; each seed has others.
func images(seed, n int) []api.Image {
	var l []api.Image
	for i := range n {
		l = append(l, api.Image{Block: uint64(seed+i) * 0x9e3779b97f4a7c15, Bytes: some(100*seed+i, 160)})
	}
	return l
}

// must holds an error against the one that is asked for.
func must(t *testing.T, got, want api.Errno) {
	t.Helper()
	if got != want {
		t.Fatalf("error %d, not %d", got, want)
	}
}

// room is a disk of so many places.
func room(t *testing.T, n int) *disk.Disk {
	t.Helper()
	d, e := disk.New(n)
	must(t, e, api.OK)
	return d
}

// over is a journal over a disk.
func over(t *testing.T, d *disk.Disk, first, size int, s journal.State) *journal.Journal {
	t.Helper()
	j, e := journal.New(d, key, first, size, s, 1, last)
	must(t, e, api.OK)
	return j
}

// adds appends a change, and adopts it: the state then.
func adds(t *testing.T, j *journal.Journal, l []api.Image) journal.State {
	t.Helper()
	s, e := j.Append(l)
	must(t, e, api.OK)
	j.Adopt(s, last)
	return s
}

// written is a disk of 9 places whose ring, from place 2 on, has 5, with two changes of 2 and 1 records, round its end; and what they are.
func written(t *testing.T) (*disk.Disk, journal.State, [][]api.Image) {
	t.Helper()
	d := room(t, 9)
	j := over(t, d, 2, 5, journal.State{Start: 3})
	l := [][]api.Image{images(1, 2), images(7, 1)}
	adds(t, j, l[0])
	return d, adds(t, j, l[1]), l
}

// places are those of the disk, in order, where the records of a state stand.
func places(first, size int, s journal.State) []int {
	var out []int
	k := int(s.Start)
	for range s.Count {
		out = append(out, first+k)
		if k++; k == size {
			k = 0
		}
	}
	return out
}

// loads holds that Load tells these changes, and reads just the places of the records, in order.
func loads(t *testing.T, d *disk.Disk, first, size int, s journal.State, want [][]api.Image) {
	t.Helper()
	asks(t, d, places(first, size, s), func() {
		t.Helper()
		got, e := Load(d, key, first, size, s)
		must(t, e, api.OK)
		if !same(got, want) {
			t.Fatalf("Load: %v, not %v", got, want)
		}
	})
}

// refuses holds that Load tells an error, and nothing beside it.
func refuses(t *testing.T, d *disk.Disk, first, size int, s journal.State, want api.Errno) {
	t.Helper()
	if l, e := Load(d, key, first, size, s); l != nil || e != want {
		t.Fatalf("Load of %d, %d, %v: %v, error %d, not %d", first, size, s, l, e, want)
	}
}

// same tells whether changes are the same; nil and empty lists are one.
func same(a, b [][]api.Image) bool {
	return slices.EqualFunc(a, b, sameImages)
}

// sameImages tells whether images are the same; nil and empty bytes are one.
func sameImages(a, b []api.Image) bool {
	return slices.EqualFunc(a, b, func(x, y api.Image) bool { return x.Block == y.Block && bytes.Equal(x.Bytes, y.Bytes) })
}

// asks holds what a call asks of a disk against reads of these places.
func asks(t *testing.T, d *disk.Disk, read []int, call func()) {
	t.Helper()
	n := len(d.Ops())
	call()
	var want []disk.Op
	for _, i := range read {
		want = append(want, disk.Op{Kind: disk.Reads, Slot: i})
	}
	if got := d.Ops()[n:]; !slices.Equal(got, want) {
		t.Fatalf("the disk was asked %v, not %v", got, want)
	}
}

// at is what stands at a place.
func at(t *testing.T, d *disk.Disk, place int) []byte {
	t.Helper()
	b, e := d.Read(place)
	must(t, e, api.OK)
	return b
}

// goDown lets a disk be down.
func goDown(t *testing.T, d *disk.Disk) {
	t.Helper()
	d.Stop(0)
	must(t, d.Write(0, make([]byte, 192)), api.ErrDown)
}

// toldLink is a link as chapter 13's words tell it.
func toldLink(tag api.Sum, place uint32, slot []byte) api.Sum {
	all := slices.Concat([]byte{255}, tag[:], binary.LittleEndian.AppendUint32(nil, place), slot)
	return sha256.Sum256(all)
}

// chained is a state with the tag of what stands at its places, from a tag on, as the promise's words tell it.
func chained(t *testing.T, d *disk.Disk, first, size int, s journal.State, from api.Sum) journal.State {
	t.Helper()
	s.Tag = from
	for _, place := range places(first, size, s) {
		s.Tag = toldLink(s.Tag, uint32(place), at(t, d, place))
	}
	return s
}

// plain is a record as chapter 12's words tell it.
func plain(m api.Image, last bool) []byte {
	out := make([]byte, 16, 176)
	out[0] = 1
	if last {
		out[1] = 1
	}
	binary.LittleEndian.PutUint64(out[8:], m.Block)
	return append(out, m.Bytes...)
}

// sealed is what stands at a place where these bytes are.
func sealed(t *testing.T, place int, version uint64, plain []byte) []byte {
	t.Helper()
	slot, e := seal.Seal(key, uint32(place), version, plain)
	must(t, e, api.OK)
	return slot
}

// unsealed are the bytes of what stands at a place.
func unsealed(t *testing.T, place int, slot []byte) []byte {
	t.Helper()
	_, b, e := seal.Open(key, uint32(place), slot, 176)
	must(t, e, api.OK)
	return b
}

// P14.1: what may not be.

func TestLoadTakesRings(t *testing.T) {
	d := room(t, 6)
	for first := -2; first < 9; first++ {
		for size := -2; size < 9; size++ {
			if first >= 0 && size > 0 && first+size <= 6 {
				loads(t, d, first, size, journal.State{}, nil)
			} else {
				refuses(t, d, first, size, journal.State{}, api.ErrArg)
			}
		}
	}
}

func TestLoadRefusesRings(t *testing.T) {
	wrong := []int{-1, -2, -4096, math.MinInt32, math.MinInt, math.MinInt + 1, 4097, math.MaxInt32, 1 << 32, 1<<32 + 1, 1 << 62, math.MaxInt - 1, math.MaxInt}
	for _, n := range []int{1, 3, 4096} {
		d := room(t, n)
		for _, x := range wrong {
			for _, y := range append([]int{0, 1, 2, 3}, wrong...) {
				for _, s := range []journal.State{{}, {Count: 1}, {Tag: tag(1)}} {
					refuses(t, d, x, y, s, api.ErrArg)
					refuses(t, d, y, x, s, api.ErrArg)
				}
			}
		}
		refuses(t, d, 0, n+1, journal.State{}, api.ErrArg)
		refuses(t, d, 1, n, journal.State{}, api.ErrArg)
		refuses(t, d, n, 1, journal.State{}, api.ErrArg)
		loads(t, d, 0, n, journal.State{}, nil)
		loads(t, d, n-1, 1, journal.State{}, nil)
	}
}

func TestLoadRefusesStates(t *testing.T) {
	for _, r := range rings {
		d, first, size := room(t, r[2]), r[0], uint64(r[1])
		for _, start := range []uint64{size, size + 1, 2*size + 1, 1 << 32, 1<<32 + size - 1, 1 << 63, 1<<63 + size - 1, top - 1, top} {
			for _, count := range []uint64{0, 1, size, size + 1, top} {
				refuses(t, d, first, r[1], journal.State{Start: start, Count: count}, api.ErrArg)
			}
		}
		for _, count := range []uint64{size + 1, size + 2, 2*size + 1, 1 << 32, 1<<32 + size, 1 << 63, 1<<63 + size, top - size, top} {
			for _, start := range []uint64{0, size / 2, size - 1} {
				refuses(t, d, first, r[1], journal.State{Start: start, Count: count}, api.ErrArg)
			}
		}
	}
}

// What New of a journal takes, with versions from 1 on, is no ErrArg here, and the other way round.
func TestLoadTakesWhatAJournalTakes(t *testing.T) {
	d := room(t, 4)
	for first := -1; first < 6; first++ {
		for size := -1; size < 6; size++ {
			for start := range uint64(6) {
				for count := range uint64(6) {
					s := journal.State{Start: start, Count: count, Tag: tag(1)}
					_, e := journal.New(d, key, first, size, s, 1, last)
					if e == api.OK {
						e = api.ErrIntegrity // the tag's
					}
					refuses(t, d, first, size, s, e)
				}
			}
		}
	}
}

func TestLoadOfNoDisk(t *testing.T) {
	for _, d := range []*disk.Disk{nil, {}} {
		for _, first := range []int{-1, 0, 1} {
			for _, size := range []int{-1, 0, 1} {
				for _, s := range []journal.State{{}, {Count: 1}, {Start: 1}, {Tag: tag(1)}} {
					refuses(t, d, first, size, s, api.ErrArg)
				}
			}
		}
	}
}

func TestErrArgStandsAheadOfTheDisk(t *testing.T) {
	d, s, _ := written(t)
	goDown(t, d)
	asks(t, d, nil, func() {
		refuses(t, d, -1, 5, s, api.ErrArg)
		refuses(t, d, 2, 0, s, api.ErrArg)
		refuses(t, d, 5, 5, s, api.ErrArg)
		refuses(t, d, 2, 3, s, api.ErrArg)
		refuses(t, d, 2, 5, journal.State{Start: 3, Count: 6, Tag: s.Tag}, api.ErrArg)
	})
}

// P14.1: what is read.

func TestLoadTellsTheDisksError(t *testing.T) {
	d, s, want := written(t)
	goDown(t, d)
	asks(t, d, nil, func() {
		refuses(t, d, 2, 5, s, api.ErrDown)
		// The disk is asked ahead of the chain.
		refuses(t, d, 2, 5, journal.State{Start: 3, Count: 3, Tag: tag(1)}, api.ErrDown)
		refuses(t, d, 2, 5, journal.State{Start: 1, Count: 1}, api.ErrDown)
	})
	d.Crash([]bool{true, true, true})
	loads(t, d, 2, 5, s, want)
}

func TestNothingIsReadOfNoRecords(t *testing.T) {
	d := room(t, 9)
	for place := range 9 {
		must(t, d.Tamper(place, some(place, 192)), api.OK)
	}
	goDown(t, d)
	for start := range uint64(5) {
		loads(t, d, 2, 5, journal.State{Start: start}, nil)
		asks(t, d, nil, func() {
			refuses(t, d, 2, 5, journal.State{Start: start, Tag: tag(1)}, api.ErrIntegrity)
		})
	}
}

func TestAllPlacesAreReadInOrder(t *testing.T) {
	for size := 1; size <= 6; size++ {
		for start := range size {
			for count := range size + 1 {
				d := room(t, size+5)
				s := journal.State{Start: uint64(start), Count: uint64(count), Tag: tag(1)}
				// None of them is a record: they are read nonetheless.
				asks(t, d, places(3, size, s), func() { refuses(t, d, 3, size, s, api.ErrIntegrity) })
			}
		}
	}
}

// Whether they are done, or under way, and whatever is wrong, the same is asked of the disk (T4).
func TestWhatIsAskedHangsOnTheStateAlone(t *testing.T) {
	d, s, _ := written(t)
	want := places(2, 5, s)
	load := func() {
		t.Helper()
		asks(t, d, want, func() { _, _ = Load(d, key, 2, 5, s) })
	}
	load()
	must(t, d.Flush(), api.OK)
	load()
	for _, place := range want {
		was := at(t, d, place)
		for _, b := range [][]byte{make([]byte, 192), some(1, 192), sealed(t, place, 9, some(2, 176))} {
			must(t, d.Tamper(place, b), api.OK)
			load()
		}
		must(t, d.Tamper(place, was), api.OK)
	}
	if !slices.Equal(want, []int{5, 6, 2}) {
		t.Errorf("places %v", want)
	}
}

func TestLoadOfWhatIsUnderWay(t *testing.T) {
	d, s, want := written(t)
	if d.Pending() != 3 {
		t.Fatalf("%d are under way", d.Pending())
	}
	loads(t, d, 2, 5, s, want)
	if d.Pending() != 3 {
		t.Errorf("%d are under way", d.Pending())
	}
	must(t, d.Flush(), api.OK)
	loads(t, d, 2, 5, s, want)
	d.Crash(nil)
	loads(t, d, 2, 5, s, want)
}

// A write that wasn't kept leaves noughts.
func TestLoadOfWhatWasNotKept(t *testing.T) {
	for kept := range 8 {
		d, s, want := written(t)
		d.Crash([]bool{kept&1 == 1, kept&2 == 2, kept&4 == 4})
		if kept == 7 {
			loads(t, d, 2, 5, s, want)
		} else {
			refuses(t, d, 2, 5, s, api.ErrIntegrity)
		}
	}
}

// P14.1: the chain.

// The chapter's example.
func TestLoadOfNone(t *testing.T) {
	for _, r := range rings {
		d := room(t, r[2])
		for start := range r[1] {
			loads(t, d, r[0], r[1], journal.State{Start: uint64(start)}, nil)
		}
	}
}

func TestLoadOfNoneAsksForATagOfNoughts(t *testing.T) {
	d := room(t, 5)
	for i := range 256 {
		var x api.Sum
		x[i/8] = 1 << (i % 8)
		refuses(t, d, 1, 3, journal.State{Tag: x}, api.ErrIntegrity)
		refuses(t, d, 1, 3, journal.State{Start: 2, Tag: x}, api.ErrIntegrity)
	}
}

// The slots and the tags were reckoned elsewhere: the ring's places 2, 0 and 1 are the disk's places 3, 1 and 2.
func TestKnownLoad(t *testing.T) {
	d := room(t, 4)
	for place, text := range map[int]string{
		3: "080706050403020140fde9fc7b7872065a3fd6cdf1699db2fba6a2b74b78731ddc9598f275e00b58c0106152207ab7cd1fe7e9209d0524bd19643093c1a980582cf436b6585c64a795b0bc17165915c7d70fde420a559b1ffe9f98425fcba97e30989100afbce3c13deb1b05cf3dbd17ac0fe64502224724da7a030c8095269707ce3ec4cdcfd10b6e51bc616b9a4b671c65974f3372fb0ffbd570831a389a6a8e2998166632065681291afcb20a2f5677eb67e7d88214d40000000000000000",
		1: "09070605040302018b43f6204ce9846d99793342c85733d6d8ae7d8b1d1761b99099c7e690c4cbf121bdf308dadacfea5a32f9e9fe7c881355ec25dd7f0fd74cf7e86d4f69d76fce869ccb61cef0ce223ed7fa793eb60c1804bd946b6564758cbb6d688c41ecf2fa957447dadfd5740d026769f806fcaabb4b5e60fcff3a1980177f8c26d83eba0f18306883462aa1b5e3d693b055b401fb78c421dba51a18256683d5842a9039cdbd167a883b2733c8d5be3298d427bf370000000000000000",
		2: "0a070605040302013a10bf526ea6a5f7f266d0549c5725485ce1364b006867b4ccfcd03cf92a8a3c1123420931ac0f882728c0d870ddd1a2993b75b89c8cfc24a8c5d7c23e8c31f0ea840f63f2fb7e6a0e4d04918dd7529a21d6d667ac0ba11018a765dea87f94d6aaf1b13bfe9e01c9a59a354f7b8fd91f181950c559bbbf08ba1f726d393fd50e3999e0e1eb42522f73474ec6b9852887dda6ac75b8ad04017ea212cc31ac43223a6a9b7f183b726de6b8d6a46af3aa590000000000000000",
	} {
		slot, err := hex.DecodeString(text)
		if err != nil {
			t.Fatal(err)
		}
		must(t, d.Tamper(place, slot), api.OK)
	}
	changes := [][]api.Image{
		{{Block: 0x8877665544332211, Bytes: counted(1, 160)}, {Block: 7, Bytes: counted(9, 160)}},
		{{Block: 0x8877665544332211, Bytes: counted(77, 160)}},
	}
	for i, text := range []string{
		"9c1666ecea21ed3ba135cebaeac7c25acb09214bd670727fa73068f58301e859",
		"82f0e67b7df1844ef1a68136761ebbf45d658ef64d2a7e7614ab39be2628bd4c",
		"c5abfeeee064d014feae71e3f2ef97c6d4651197f2d7c4b8cc58a6b4126024c1",
	} {
		sum, err := hex.DecodeString(text)
		if err != nil {
			t.Fatal(err)
		}
		s := journal.State{Start: 2, Count: uint64(i) + 1, Tag: api.Sum(sum)}
		if i == 0 {
			refuses(t, d, 1, 3, s, api.ErrIntegrity) // its one record isn't Last
		} else {
			loads(t, d, 1, 3, s, changes[:i])
		}
	}
	want := []api.Image{{Block: 7, Bytes: counted(9, 160)}, {Block: 0x8877665544332211, Bytes: counted(77, 160)}}
	if got := Latest(changes); !sameImages(got, want) {
		t.Errorf("Latest: %v, not %v", got, want)
	}
}

func TestLoadRefusesOtherTags(t *testing.T) {
	d, s, want := written(t)
	for i := range 256 {
		other := s
		other.Tag[i/8] ^= 1 << (i % 8)
		refuses(t, d, 2, 5, other, api.ErrIntegrity)
	}
	for _, x := range []api.Sum{{}, tag(1), api.Sum(bytes.Repeat([]byte{255}, 32))} {
		refuses(t, d, 2, 5, journal.State{Start: s.Start, Count: s.Count, Tag: x}, api.ErrIntegrity)
	}
	loads(t, d, 2, 5, s, want)
}

func TestTheChainBeginsWithNoughts(t *testing.T) {
	d, s, want := written(t)
	if chained(t, d, 2, 5, s, api.Sum{}) != s {
		t.Error("the tag isn't that of the promise")
	}
	refuses(t, d, 2, 5, chained(t, d, 2, 5, s, tag(1)), api.ErrIntegrity)
	refuses(t, d, 2, 5, chained(t, d, 2, 5, s, api.Sum{31: 1}), api.ErrIntegrity)
	loads(t, d, 2, 5, s, want)
}

// The links are of the disk's places, not of the ring's, and in order.
func TestTheChainIsOfPlacesInOrder(t *testing.T) {
	d, s, _ := written(t)
	var ring, back, alone api.Sum
	l := places(2, 5, s)
	for i, place := range l {
		ring = toldLink(ring, uint32(place-2), at(t, d, place))
		alone = toldLink(api.Sum{}, uint32(place), at(t, d, place))
		place = l[len(l)-1-i]
		back = toldLink(back, uint32(place), at(t, d, place))
	}
	for _, x := range []api.Sum{ring, back, alone} {
		refuses(t, d, 2, 5, journal.State{Start: 3, Count: 3, Tag: x}, api.ErrIntegrity)
	}
}

// P14.1: what hangs on the chain, and is no record.

// hung holds that Load of a disk tells ErrIntegrity where another slot stands in the place of one, though the chain is right.
func hung(t *testing.T, slot func(place int, was []byte) []byte) {
	t.Helper()
	d, s, want := written(t)
	for _, place := range places(2, 5, s) {
		was := at(t, d, place)
		must(t, d.Tamper(place, slot(place, was)), api.OK)
		other := chained(t, d, 2, 5, s, api.Sum{})
		if other == s {
			t.Fatal("it is the same one")
		}
		asks(t, d, places(2, 5, s), func() { refuses(t, d, 2, 5, other, api.ErrIntegrity) })
		must(t, d.Tamper(place, was), api.OK)
		loads(t, d, 2, 5, s, want)
	}
}

func TestLoadRefusesWhatIsNotOpened(t *testing.T) {
	hung(t, func(int, []byte) []byte { return make([]byte, 192) })
	hung(t, func(int, []byte) []byte { return bytes.Repeat([]byte{255}, 192) })
	for _, version := range []uint64{0, top} {
		hung(t, func(_ int, was []byte) []byte {
			b := slices.Clone(was)
			binary.LittleEndian.PutUint64(b, version)
			return b
		})
	}
	for i := 184; i < 192; i++ {
		for _, x := range []byte{1, 128, 255} {
			hung(t, func(_ int, was []byte) []byte {
				b := slices.Clone(was)
				b[i] = x
				return b
			})
		}
	}
}

func TestLoadRefusesWhatIsNoRecord(t *testing.T) {
	for i := range 8 {
		for _, x := range []byte{0, 1, 2, 3, 128, 255} {
			if i == 0 && x == 1 || i == 1 && x < 2 || i > 1 && x == 0 {
				continue
			}
			hung(t, func(place int, was []byte) []byte {
				b := unsealed(t, place, was)
				b[i] = x
				return sealed(t, place, 50, b)
			})
		}
	}
	hung(t, func(place int, _ []byte) []byte { return sealed(t, place, 50, make([]byte, 176)) })
	hung(t, func(place int, _ []byte) []byte { return sealed(t, place, 50, some(place, 176)) })
	hung(t, func(place int, _ []byte) []byte { return sealed(t, place, 50, some(place, 160)) })
}

// Another version than that it was sealed with lays another stream over it.
func TestLoadRefusesAnotherVersion(t *testing.T) {
	hung(t, func(_ int, was []byte) []byte {
		b := slices.Clone(was)
		b[0] ^= 64
		return b
	})
}

func TestLoadRefusesWhatWasSealedForAnotherPlace(t *testing.T) {
	for other := range 9 {
		d, s, want := written(t)
		for _, place := range places(2, 5, s) {
			if place == other {
				continue
			}
			was := at(t, d, place)
			must(t, d.Tamper(place, sealed(t, other, 50, unsealed(t, place, was))), api.OK)
			refuses(t, d, 2, 5, chained(t, d, 2, 5, s, api.Sum{}), api.ErrIntegrity)
			must(t, d.Tamper(place, was), api.OK)
		}
		loads(t, d, 2, 5, s, want)
	}
}

func TestLoadRefusesRecordsWithoutALast(t *testing.T) {
	d := room(t, 9)
	for n := range uint64(5) {
		place := int(2 + (3+n)%5)
		must(t, d.Tamper(place, sealed(t, place, 1+n, plain(images(int(n), 1)[0], false))), api.OK)
		s := chained(t, d, 2, 5, journal.State{Start: 3, Count: n + 1}, api.Sum{})
		refuses(t, d, 2, 5, s, api.ErrIntegrity)
		// With a Last at its end it is a change.
		must(t, d.Tamper(place, sealed(t, place, 1+n, plain(images(int(n), 1)[0], true))), api.OK)
		var want []api.Image
		for i := range n + 1 {
			want = append(want, images(int(i), 1)...)
		}
		s = chained(t, d, 2, 5, s, api.Sum{})
		loads(t, d, 2, 5, s, [][]api.Image{want})
		must(t, d.Tamper(place, sealed(t, place, 1+n, plain(images(int(n), 1)[0], false))), api.OK)
	}
}

// The changes ahead of those that have no Last aren't told either.
func TestLoadRefusesAPartOfAChange(t *testing.T) {
	d := room(t, 12)
	j := over(t, d, 1, 10, journal.State{Start: 6})
	var ends []bool
	var want [][]api.Image
	for _, n := range []int{2, 1, 4, 3} {
		l := images(10*n, n)
		adds(t, j, l)
		ends = append(append(ends, make([]bool, n-1)...), true)
		want = append(want, l)
	}
	changes := 0
	for i, end := range ends {
		s := chained(t, d, 1, 10, journal.State{Start: 6, Count: uint64(i) + 1}, api.Sum{})
		if end {
			changes++
			loads(t, d, 1, 10, s, want[:changes])
		} else {
			refuses(t, d, 1, 10, s, api.ErrIntegrity)
		}
	}
}

func TestLoadByAnotherKey(t *testing.T) {
	d, s, _ := written(t)
	for i := range 256 {
		other := key
		other[i/8] ^= 1 << (i % 8)
		if l, e := Load(d, other, 2, 5, s); l != nil || e != api.ErrIntegrity {
			t.Fatalf("Load: %v, error %d", l, e)
		}
	}
	for _, other := range []api.Sum{{}, tag(1)} {
		if l, e := Load(d, other, 2, 5, s); l != nil || e != api.ErrIntegrity {
			t.Fatalf("Load: %v, error %d", l, e)
		}
		// Of no records the key isn't asked.
		if l, e := Load(d, other, 2, 5, journal.State{}); len(l) != 0 || e != api.OK {
			t.Fatalf("Load: %v, error %d", l, e)
		}
	}
}

// The versions of records are whatever they are, in any order.
func TestLoadOfAnyVersions(t *testing.T) {
	versions := []uint64{1, top - 1, 1 << 63, 2, 2, last, 1}
	d := room(t, 12)
	l := images(3, len(versions))
	for i, version := range versions {
		place := 2 + (4+i)%7
		must(t, d.Tamper(place, sealed(t, place, version, plain(l[i], i%2 == 0))), api.OK)
	}
	s := chained(t, d, 2, 7, journal.State{Start: 4, Count: 7}, api.Sum{})
	loads(t, d, 2, 7, s, [][]api.Image{l[:1], l[1:3], l[3:5], l[5:]})
}

func TestLoadOfAnyBlocksNumber(t *testing.T) {
	d := room(t, 9)
	for _, block := range []uint64{0, 1, 255, 1023, 1024, 1 << 32, 0x8877665544332211, 1 << 63, top - 1, top} {
		for _, row := range [][]byte{make([]byte, 160), bytes.Repeat([]byte{255}, 160), some(1, 160)} {
			j := over(t, d, 2, 5, journal.State{Start: 4})
			l := []api.Image{{Block: block, Bytes: row}, {Block: block, Bytes: some(2, 160)}}
			loads(t, d, 2, 5, adds(t, j, l), [][]api.Image{l})
		}
	}
}

// P14.2

// latest holds what Latest tells against these images, whatever order a map is gone through in.
func latest(t *testing.T, l [][]api.Image, want ...api.Image) {
	t.Helper()
	for range 5 {
		if got := Latest(l); !sameImages(got, want) {
			t.Fatalf("Latest of %v: %v, not %v", l, got, want)
		}
	}
}

// one is an image whose bytes are all the same.
func one(block uint64, x byte) api.Image {
	return api.Image{Block: block, Bytes: bytes.Repeat([]byte{x}, 160)}
}

func TestLatestOfNothing(t *testing.T) {
	latest(t, nil)
	latest(t, [][]api.Image{})
	latest(t, [][]api.Image{nil})
	latest(t, [][]api.Image{nil, {}, nil})
}

func TestLatestOfOne(t *testing.T) {
	for _, block := range []uint64{0, 1, 1 << 32, 1 << 63, top} {
		latest(t, [][]api.Image{{one(block, 7)}}, one(block, 7))
		latest(t, [][]api.Image{nil, {one(block, 7)}, {}}, one(block, 7))
	}
}

func TestLatestOfBlocksByRisingNumbers(t *testing.T) {
	latest(t, [][]api.Image{{one(3, 1), one(1, 2), one(2, 3)}}, one(1, 2), one(2, 3), one(3, 1))
	latest(t, [][]api.Image{{one(3, 1)}, {one(1, 2)}, {one(2, 3)}}, one(1, 2), one(2, 3), one(3, 1))
	// As numbers, not as texts, nor as numbers with a sign, nor by their low half.
	latest(t, [][]api.Image{{one(10, 1), one(9, 2), one(top, 3), one(1<<32, 4), one(1<<63, 5), one(0, 6), one(1<<32+5, 7), one(last, 8), one(6, 9)}},
		one(0, 6), one(6, 9), one(9, 2), one(10, 1), one(1<<32, 4), one(1<<32+5, 7), one(last, 8), one(1<<63, 5), one(top, 3))
}

func TestLatestTakesTheLastImage(t *testing.T) {
	// Of one change.
	latest(t, [][]api.Image{{one(5, 1), one(5, 2)}}, one(5, 2))
	latest(t, [][]api.Image{{one(5, 9), one(4, 3), one(5, 2), one(4, 1)}}, one(4, 1), one(5, 2))
	// Of several ones.
	latest(t, [][]api.Image{{one(5, 9)}, {one(5, 8)}, {one(5, 7)}}, one(5, 7))
	latest(t, [][]api.Image{{one(5, 1), one(6, 1)}, {one(6, 2), one(7, 2)}, {one(7, 3), one(5, 3)}, {one(5, 4)}}, one(5, 4), one(6, 2), one(7, 3))
	// The last image may be like the first one.
	latest(t, [][]api.Image{{one(5, 1)}, {one(5, 2)}, {one(5, 1)}}, one(5, 1))
}

// What bytes an image has isn't asked.
func TestLatestOfBytesOfAnyLength(t *testing.T) {
	for _, n := range []int{0, 1, 159, 160, 161, 1000} {
		latest(t, [][]api.Image{{{Block: 3, Bytes: some(1, 160)}, {Block: 3, Bytes: some(n, n)}}}, api.Image{Block: 3, Bytes: some(n, n)})
	}
	latest(t, [][]api.Image{{one(3, 1)}, {{Block: 3}}}, api.Image{Block: 3})
	latest(t, [][]api.Image{{{Block: 3}, {Block: 2}}}, api.Image{Block: 2}, api.Image{Block: 3})
}

func TestLatestOfManyBlocks(t *testing.T) {
	for seed := range 20 {
		blocks := 1 + 37*seed
		told := map[uint64][]byte{}
		var l [][]api.Image
		for i := range 30 {
			var change []api.Image
			for k := range 1 + (seed+i)%9 {
				draw := some(1000*seed+50*i+k, 4)
				m := api.Image{Block: uint64(binary.LittleEndian.Uint32(draw)) % uint64(blocks), Bytes: some(i*k, 160)}
				change = append(change, m)
				told[m.Block] = m.Bytes
			}
			l = append(l, change)
		}
		var want []api.Image
		for block := range uint64(blocks) {
			if b, ok := told[block]; ok {
				want = append(want, api.Image{Block: block, Bytes: b})
			}
		}
		latest(t, l, want...)
	}
}

// P14.3

func TestWhatWasAppendedIsLoaded(t *testing.T) {
	for _, r := range rings {
		first, size := r[0], r[1]
		for start := range size {
			d := room(t, r[2])
			j := over(t, d, first, size, journal.State{Start: uint64(start)})
			var all [][]api.Image
			for n := 1; j.Room() > 0; n++ {
				l := images(10*start+n, 1+(n+start)%min(3, int(j.Room())))
				all = append(all, l)
				s := adds(t, j, l)
				loads(t, d, first, size, s, all)
				must(t, d.Flush(), api.OK)
				loads(t, d, first, size, s, all)
			}
		}
	}
}

func TestAllPlacesOfTheGreatestDisk(t *testing.T) {
	d := room(t, 4096)
	j := over(t, d, 0, 4096, journal.State{Start: 4000})
	var all [][]api.Image
	for j.Room() > 0 {
		l := images(len(all), 64)
		all = append(all, l)
		adds(t, j, l)
	}
	s, _ := j.State()
	if s.Count != 4096 {
		t.Fatalf("%d records", s.Count)
	}
	loads(t, d, 0, 4096, s, all)
}

// Emptied and filled on and on, round the ring.
func TestWhatWasAppendedToAJournalMadeEmptyIsLoaded(t *testing.T) {
	d := room(t, 9)
	j := over(t, d, 2, 5, journal.State{})
	for round := range 40 {
		var all [][]api.Image
		for n := 1 + round%3; uint64(n) <= j.Room(); n++ {
			all = append(all, images(100*round+n, n))
			loads(t, d, 2, 5, adds(t, j, all[len(all)-1]), all)
		}
		j.Adopt(j.Empty(), last)
		s, _ := j.State()
		loads(t, d, 2, 5, s, nil)
	}
}

// What was appended, and not adopted, isn't loaded, whatever of it is kept.
func TestWhatIsNotAdoptedIsNotLoaded(t *testing.T) {
	d, s, want := written(t)
	must(t, d.Flush(), api.OK)
	j, e := journal.New(d, key, 2, 5, s, 100, last)
	must(t, e, api.OK)
	for kept := range 4 {
		then, e := j.Append(images(20+kept, 2))
		must(t, e, api.OK)
		loads(t, d, 2, 5, s, want)
		d.Crash([]bool{kept&1 == 1, kept&2 == 2})
		loads(t, d, 2, 5, s, want)
		if kept == 3 {
			loads(t, d, 2, 5, then, append(want, images(20+kept, 2)))
		} else {
			refuses(t, d, 2, 5, then, api.ErrIntegrity)
		}
	}
}

func TestAnyOtherBitIsRefused(t *testing.T) {
	d, s, want := written(t)
	for _, place := range places(2, 5, s) {
		was := at(t, d, place)
		for i := range 8 * 192 {
			b := slices.Clone(was)
			b[i/8] ^= 1 << (i % 8)
			must(t, d.Tamper(place, b), api.OK)
			refuses(t, d, 2, 5, s, api.ErrIntegrity)
		}
		must(t, d.Tamper(place, was), api.OK)
	}
	loads(t, d, 2, 5, s, want)
}

// Not even other bytes that the key's owner sealed for the place are taken.
func TestOtherRecordsAreRefused(t *testing.T) {
	d, s, want := written(t)
	for i, place := range places(2, 5, s) {
		was := at(t, d, place)
		for version := uint64(1); version < 6; version++ {
			for _, end := range []bool{false, true} {
				must(t, d.Tamper(place, sealed(t, place, version, plain(images(40, 1)[0], end))), api.OK)
				refuses(t, d, 2, 5, s, api.ErrIntegrity)
			}
		}
		// The same record with another version.
		must(t, d.Tamper(place, sealed(t, place, uint64(i)+50, unsealed(t, place, was))), api.OK)
		refuses(t, d, 2, 5, s, api.ErrIntegrity)
		must(t, d.Tamper(place, was), api.OK)
	}
	loads(t, d, 2, 5, s, want)
}

func TestRecordsThatChangedPlacesAreRefused(t *testing.T) {
	d, s, want := written(t)
	l := places(2, 5, s)
	for _, a := range l {
		for _, b := range l {
			if a == b {
				continue
			}
			x, y := at(t, d, a), at(t, d, b)
			must(t, d.Tamper(b, x), api.OK)
			refuses(t, d, 2, 5, s, api.ErrIntegrity)
			must(t, d.Tamper(a, y), api.OK)
			refuses(t, d, 2, 5, s, api.ErrIntegrity)
			must(t, d.Tamper(a, x), api.OK)
			must(t, d.Tamper(b, y), api.OK)
		}
	}
	loads(t, d, 2, 5, s, want)
}

// An older disk is refused, or has just these records.
func TestADiskThatIsLaidBackIsRefused(t *testing.T) {
	d := room(t, 9)
	j := over(t, d, 2, 5, journal.State{})
	older := [][][]byte{d.Image()}
	for round := range 20 {
		n := 1 + round%2
		if uint64(n) > j.Room() {
			j.Adopt(j.Empty(), last)
		}
		s := adds(t, j, images(round, n))
		must(t, d.Flush(), api.OK)
		want, e := Load(d, key, 2, 5, s)
		must(t, e, api.OK)
		now := d.Image()
		for _, old := range older {
			must(t, d.Restore(old), api.OK)
			refuses(t, d, 2, 5, s, api.ErrIntegrity)
		}
		must(t, d.Restore(now), api.OK)
		loads(t, d, 2, 5, s, want)
		older = append(older, now)
	}
}

func TestAnotherPartOfTheRingIsRefused(t *testing.T) {
	d, s, want := written(t)
	for first := range 5 {
		for size := 1; first+size <= 9; size++ {
			for start := range uint64(size) {
				for count := range uint64(size) + 1 {
					other := journal.State{Start: start, Count: count, Tag: s.Tag}
					if slices.Equal(places(first, size, other), places(2, 5, s)) {
						loads(t, d, first, size, other, want)
					} else {
						refuses(t, d, first, size, other, api.ErrIntegrity)
					}
				}
			}
		}
	}
}

// A ring that stands elsewhere, with the same slots, isn't it.
func TestARingThatWasMovedIsRefused(t *testing.T) {
	d, s, want := written(t)
	other := room(t, 40)
	for first := range 30 {
		for place := range 5 {
			must(t, other.Tamper(first+place, at(t, d, 2+place)), api.OK)
		}
		if first == 2 {
			loads(t, other, first, 5, s, want)
		} else {
			refuses(t, other, first, 5, s, api.ErrIntegrity)
		}
	}
}

// What stands at all other places doesn't count.
func TestOtherPlacesDoNotCount(t *testing.T) {
	d, s, want := written(t)
	for place := range 9 {
		if !slices.Contains(places(2, 5, s), place) {
			for seed := range 5 {
				must(t, d.Tamper(place, some(seed, 192)), api.OK)
				loads(t, d, 2, 5, s, want)
			}
		}
	}
}

// Whenever the disk stops, and whatever it keeps, what was adopted last is loaded.
func TestLoadOffADiskThatStops(t *testing.T) {
	const first, size = 3, 6
	d := room(t, 12)
	j := over(t, d, first, size, journal.State{Start: 4})
	var held [][]api.Image
	for round := range 400 {
		draw := some(round, 8)
		if draw[0]%3 == 0 {
			d.Stop(int(draw[1]) % 5)
		}
		l := images(round, 1+int(draw[2])%3)
		s, e := j.Append(l)
		switch e {
		case api.OK:
			must(t, d.Flush(), api.OK)
			if draw[3]%2 == 0 {
				j.Adopt(s, last)
				held = append(held, l)
			}
		case api.ErrFull:
			j.Adopt(j.Empty(), last)
			held = nil
		default:
			must(t, e, api.ErrDown)
			keep := make([]bool, d.Pending())
			for k := range keep {
				keep[k] = draw[4]>>k&1 == 1
			}
			d.Crash(keep)
		}
		d.Stop(-1)
		s, _ = j.State()
		loads(t, d, first, size, s, held)
	}
}

// What is loaded, and the last of each block, is what the changes leave if they are done one by one.
func TestLatestOfWhatIsLoaded(t *testing.T) {
	d := room(t, 30)
	j := over(t, d, 4, 25, journal.State{Start: 20})
	blocks := make([][]byte, 8)
	for n := 1; uint64(n) <= j.Room(); n++ {
		var l []api.Image
		for k := range n {
			m := api.Image{Block: uint64(n*k+3*k*k) % 8, Bytes: some(100*n+k, 160)}
			l, blocks[m.Block] = append(l, m), m.Bytes
		}
		s := adds(t, j, l)
		changes, e := Load(d, key, 4, 25, s)
		must(t, e, api.OK)
		var want []api.Image
		for block, b := range blocks {
			if b != nil {
				want = append(want, api.Image{Block: uint64(block), Bytes: b})
			}
		}
		latest(t, changes, want...)
	}
}

// Memory of their own (rules 3 and 4)

// spoil changes all that lists of images are made of, and what is behind their ends, as far as their memory goes.
func spoil(l []api.Image) {
	l = l[:cap(l)]
	for i, m := range l {
		b := m.Bytes[:cap(m.Bytes)]
		for k := range b {
			b[k] ^= 0xff
		}
		l[i] = api.Image{Block: top - m.Block, Bytes: []byte{9}}
	}
}

func TestLoadChangesNothing(t *testing.T) {
	d, s, want := written(t)
	must(t, d.Flush(), api.OK)
	must(t, d.Write(8, some(1, 192)), api.OK)
	was := d.Image()
	loads(t, d, 2, 5, s, want)
	refuses(t, d, 2, 5, journal.State{Start: 3, Count: 3}, api.ErrIntegrity)
	refuses(t, d, 2, 5, journal.State{Start: 5}, api.ErrArg)
	if !reflect.DeepEqual(d.Image(), was) || d.Pending() != 1 {
		t.Error("the disk changed")
	}
}

func TestWhatIsLoadedIsNewMemory(t *testing.T) {
	d, s, want := written(t)
	a, e := Load(d, key, 2, 5, s)
	must(t, e, api.OK)
	b, e := Load(d, key, 2, 5, s)
	must(t, e, api.OK)
	spoil(a[0])
	_ = append(a[0], one(5, 5))
	if !sameImages(a[1], want[1]) {
		t.Error("two changes share memory")
	}
	spoil(a[1])
	if !same(b, want) {
		t.Error("two answers share memory")
	}
	for i := range b {
		for k := range b[i] {
			row := b[i][k].Bytes
			clear(row[:cap(row)])
			b[i][k].Bytes = nil
			for n, m := range slices.Concat(b...) {
				if m.Bytes != nil && !bytes.Equal(m.Bytes, slices.Concat(want...)[n].Bytes) {
					t.Fatal("two images share memory")
				}
			}
		}
	}
	loads(t, d, 2, 5, s, want)
}

func TestLatestChangesAndKeepsNothing(t *testing.T) {
	long := some(9, 400)
	change := append(make([]api.Image, 0, 9), one(3, 1), one(1, 2), one(3, 4), api.Image{Block: 2, Bytes: long[100:260]})
	l := append(make([][]api.Image, 0, 5), change, []api.Image{one(1, 5)})
	want := []api.Image{one(1, 5), {Block: 2, Bytes: some(9, 400)[100:260]}, one(3, 4)}
	got := Latest(l)
	if !sameImages(got, want) {
		t.Fatalf("Latest: %v, not %v", got, want)
	}
	spoil(got)
	if !same(l, [][]api.Image{{one(3, 1), one(1, 2), one(3, 4), want[1]}, {one(1, 5)}}) || !bytes.Equal(long, some(9, 400)) {
		t.Fatal("what is handed in changed")
	}
	if !reflect.DeepEqual(change[:9][4:], make([]api.Image, 5)) || !reflect.DeepEqual(l[:5][2:], make([][]api.Image, 3)) {
		t.Fatal("what is behind the end of what is handed in changed")
	}
	got = Latest(l)
	clear(long)
	spoil(l[0])
	spoil(l[1])
	clear(l)
	if !sameImages(got, want) {
		t.Error("what was handed in is kept")
	}
}

// Images that share their bytes are told with bytes of their own.
func TestLatestOfSharedBytes(t *testing.T) {
	row := some(1, 160)
	l := [][]api.Image{{{Block: 1, Bytes: row}, {Block: 2, Bytes: row}}, {{Block: 3, Bytes: row[:80]}, {Block: 4, Bytes: row[40:]}}}
	got := Latest(l)
	for i := range got {
		b := got[i].Bytes
		clear(b[:cap(b)])
		got[i].Bytes = nil
		for k, m := range got[i+1:] {
			if want := slices.Concat(l...)[i+1+k]; !bytes.Equal(m.Bytes, want.Bytes) {
				t.Fatal("two images share memory")
			}
		}
	}
	if !bytes.Equal(row, some(1, 160)) {
		t.Error("what is handed in changed")
	}
}

func TestTheSameCallsHaveTheSameAnswers(t *testing.T) {
	d, s, want := written(t)
	for range 5 {
		other, then, _ := written(t)
		loads(t, other, 2, 5, then, want)
		loads(t, d, 2, 5, s, want)
		refuses(t, d, 2, 5, journal.State{Start: 3, Count: 2, Tag: s.Tag}, api.ErrIntegrity)
		if !sameImages(Latest(want), Latest(want)) {
			t.Error("Latest has two answers")
		}
	}
}
