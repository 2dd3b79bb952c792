package record

import (
	"bytes"
	"encoding/binary"
	"math"
	"slices"
	"testing"

	"reliquary/api"
)

// The calls as chapter 12 lists them: this doesn't build if a signature, or a record's fields, are others.
var (
	_ func(Record) ([]byte, api.Errno)          = Put
	_ func([]byte) (Record, api.Errno)          = Get
	_ func([]api.Image) ([]Record, api.Errno)   = Of
	_ func([]Record) ([][]api.Image, api.Errno) = Changes
	_ struct {
		Image api.Image
		Last  bool
	} = Record{}
)

// top is the greatest number.
const top = math.MaxUint64

// numbers are blocks' numbers: those at the ends, some between, and one each byte of which is another one.
var numbers = []uint64{0, 1, 2, 255, 256, 1023, 1024, 65535, 1<<32 - 1, 1 << 32, 0x8877665544332211, 1<<63 - 1, 1 << 63, top - 1, top}

// some is so many bytes without a rule that a fault could hide in; each seed has others.
func some(seed, n int) []byte {
	out := make([]byte, n)
	x := uint32(seed)*2654435761 + 13
	for i := range out {
		x = x*1664525 + 1013904223
		out[i] = byte(x >> 24)
	}
	return out
}

// image is one of 160 bytes; each seed has another one.
func image(seed int) api.Image {
	return api.Image{Block: uint64(seed)*0x9e3779b97f4a7c15 + 5, Bytes: some(seed, 160)}
}

// images are so many of them, from a seed on.
func images(seed, n int) []api.Image {
	var out []api.Image
	for i := range n {
		out = append(out, image(seed+i))
	}
	return out
}

// told is a record's bytes as the promise's words tell them.
func told(r Record) []byte {
	out := make([]byte, 176)
	out[0] = 1
	if r.Last {
		out[1] = 1
	}
	binary.LittleEndian.PutUint64(out[8:], r.Image.Block)
	copy(out[16:], r.Image.Bytes)
	return out
}

// must holds an error against the one that is asked for.
func must(t *testing.T, got, want api.Errno) {
	t.Helper()
	if got != want {
		t.Fatalf("error %d, not %d", got, want)
	}
}

// put is what Put tells of a record that may be.
func put(t *testing.T, r Record) []byte {
	t.Helper()
	b, e := Put(r)
	must(t, e, api.OK)
	return b
}

// of is what Of tells of images that may be.
func of(t *testing.T, l []api.Image) []Record {
	t.Helper()
	out, e := Of(l)
	must(t, e, api.OK)
	return out
}

// changes is what Changes tells of records that may be.
func changes(t *testing.T, l []Record) [][]api.Image {
	t.Helper()
	out, e := Changes(l)
	must(t, e, api.OK)
	return out
}

// sameImage tells whether two images are the same; nil and empty bytes are one.
func sameImage(a, b api.Image) bool { return a.Block == b.Block && bytes.Equal(a.Bytes, b.Bytes) }

// sameRecord tells whether two records are the same.
func sameRecord(a, b Record) bool { return a.Last == b.Last && sameImage(a.Image, b.Image) }

// sameImages tells whether two lists of images are the same.
func sameImages(a, b []api.Image) bool { return slices.EqualFunc(a, b, sameImage) }

// sameRecords tells whether two lists of records are the same.
func sameRecords(a, b []Record) bool { return slices.EqualFunc(a, b, sameRecord) }

// sameChanges tells whether two lists of changes are the same.
func sameChanges(a, b [][]api.Image) bool { return slices.EqualFunc(a, b, sameImages) }

// copyRecords is a copy of records down to their bytes.
func copyRecords(l []Record) []Record {
	out := slices.Clone(l)
	for i := range out {
		out[i].Image.Bytes = slices.Clone(out[i].Image.Bytes)
	}
	return out
}

// copyImages is a copy of images down to their bytes.
func copyImages(l []api.Image) []api.Image {
	out := slices.Clone(l)
	for i := range out {
		out[i].Bytes = slices.Clone(out[i].Bytes)
	}
	return out
}

// spoil changes all bytes of a row, and those behind its end, as far as its memory goes.
func spoil(b []byte) {
	b = b[:cap(b)]
	for i := range b {
		b[i] ^= 0xff
	}
}

// P12.1: Put.

func TestPutOfBytesThatDiffer(t *testing.T) {
	r := Record{Image: api.Image{Block: 0x8877665544332211}}
	for i := range 160 {
		r.Image.Bytes = append(r.Image.Bytes, byte(i+3))
	}
	want := []byte{1, 0, 0, 0, 0, 0, 0, 0, 0x11, 0x22, 0x33, 0x44, 0x55, 0x66, 0x77, 0x88}
	for i := range 160 {
		want = append(want, byte(i+3))
	}
	if got := put(t, r); !bytes.Equal(got, want) {
		t.Errorf("Put: %v, not %v", got, want)
	}
	r.Last, want[1] = true, 1
	if got := put(t, r); !bytes.Equal(got, want) {
		t.Errorf("Put of the last one: %v, not %v", got, want)
	}
}

func TestPutAsThePromiseTellsIt(t *testing.T) {
	rows := [][]byte{make([]byte, 160), bytes.Repeat([]byte{255}, 160), some(1, 160), some(2, 160)}
	for _, n := range numbers {
		for _, row := range rows {
			for _, last := range []bool{false, true} {
				r := Record{Image: api.Image{Block: n, Bytes: row}, Last: last}
				if got := put(t, r); !bytes.Equal(got, told(r)) {
					t.Fatalf("Put of block %d: %v, not %v", n, got, told(r))
				}
			}
		}
	}
}

func TestPutLaysEachByteAtItsPlace(t *testing.T) {
	for i := range 160 {
		r := Record{Image: api.Image{Bytes: make([]byte, 160)}}
		r.Image.Bytes[i] = 0xa5
		want := make([]byte, 176)
		want[0], want[16+i] = 1, 0xa5
		if got := put(t, r); !bytes.Equal(got, want) {
			t.Errorf("byte %d: %v", i, got)
		}
	}
	for i := range 8 {
		want := make([]byte, 176)
		want[0], want[8+i] = 1, 0xa5
		if got := put(t, Record{Image: api.Image{Block: 0xa5 << (8 * i), Bytes: make([]byte, 160)}}); !bytes.Equal(got, want) {
			t.Errorf("byte %d of the number: %v", i, got)
		}
	}
}

func TestPutRefusesOtherLengths(t *testing.T) {
	long := some(1, 400)
	for n := range len(long) + 1 {
		if n == 160 {
			continue
		}
		for _, last := range []bool{false, true} {
			// The capacity goes on behind the end: only the length may count.
			for _, row := range [][]byte{long[:n], slices.Clone(long[:n])} {
				if b, e := Put(Record{Image: api.Image{Block: 3, Bytes: row}, Last: last}); e != api.ErrArg || b != nil {
					t.Errorf("Put of %d bytes: %v, error %d", n, b, e)
				}
			}
		}
	}
	if b, e := Put(Record{}); e != api.ErrArg || b != nil {
		t.Errorf("Put of nothing: %v, error %d", b, e)
	}
}

func TestPutOfAPieceOfALongerRow(t *testing.T) {
	long := some(1, 400)
	r := Record{Image: api.Image{Block: 3, Bytes: long[100:260]}, Last: true}
	if got := put(t, r); !bytes.Equal(got, told(r)) {
		t.Errorf("Put: %v, not %v", got, told(r))
	}
}

// P12.1: Get.

// notGot holds that Get tells ErrForm, and nothing beside it.
func notGot(t *testing.T, b []byte) {
	t.Helper()
	if r, e := Get(b); e != api.ErrForm || r.Last || r.Image.Block != 0 || r.Image.Bytes != nil {
		t.Errorf("Get of %v: %v, error %d", b, r, e)
	}
}

// got holds that Get tells this record.
func got(t *testing.T, b []byte, want Record) {
	t.Helper()
	r, e := Get(b)
	must(t, e, api.OK)
	if !sameRecord(r, want) {
		t.Fatalf("Get of %v: %v, not %v", b, r, want)
	}
}

func TestGetOfBytesThatDiffer(t *testing.T) {
	b := []byte{1, 0, 0, 0, 0, 0, 0, 0, 0x11, 0x22, 0x33, 0x44, 0x55, 0x66, 0x77, 0x88}
	want := Record{Image: api.Image{Block: 0x8877665544332211}}
	for i := range 160 {
		b = append(b, byte(i+3))
		want.Image.Bytes = append(want.Image.Bytes, byte(i+3))
	}
	got(t, b, want)
	b[1], want.Last = 1, true
	got(t, b, want)
}

func TestGetAsThePromiseTellsIt(t *testing.T) {
	rows := [][]byte{make([]byte, 160), bytes.Repeat([]byte{255}, 160), some(1, 160), some(2, 160)}
	for _, n := range numbers {
		for _, row := range rows {
			for _, last := range []bool{false, true} {
				r := Record{Image: api.Image{Block: n, Bytes: row}, Last: last}
				got(t, told(r), r)
			}
		}
	}
}

func TestGetRefusesOtherLengths(t *testing.T) {
	for _, last := range []bool{false, true} {
		long := slices.Concat(told(Record{Image: image(1), Last: last}), make([]byte, 200))
		for n := range len(long) + 1 {
			if n == 176 {
				continue
			}
			// The capacity goes on behind the end: only the length may count.
			notGot(t, long[:n])
			notGot(t, slices.Clone(long[:n]))
		}
	}
	notGot(t, nil)
	notGot(t, []byte{})
}

func TestGetRefusesAnyOtherFirstByte(t *testing.T) {
	for _, last := range []bool{false, true} {
		b := told(Record{Image: image(1), Last: last})
		for x := range 256 {
			b[0] = byte(x)
			if x == 1 {
				got(t, b, Record{Image: image(1), Last: last})
			} else {
				notGot(t, b)
			}
		}
	}
}

func TestGetRefusesAnySecondByteButTwo(t *testing.T) {
	b := told(Record{Image: image(1)})
	for x := range 256 {
		b[1] = byte(x)
		if x < 2 {
			got(t, b, Record{Image: image(1), Last: x == 1})
		} else {
			notGot(t, b)
		}
	}
}

func TestGetRefusesWhatIsNoNought(t *testing.T) {
	for _, last := range []bool{false, true} {
		for i := 2; i < 8; i++ {
			for x := 1; x < 256; x++ {
				b := told(Record{Image: image(1), Last: last})
				b[i] = byte(x)
				notGot(t, b)
			}
		}
		// Two that together are nought, or cover each other.
		b := told(Record{Image: image(1), Last: last})
		b[2], b[7] = 128, 128
		notGot(t, b)
		b[2], b[7] = 1, 255
		notGot(t, b)
	}
}

// What stands at a place that was never written is no record.
func TestGetOfNoughtsAlone(t *testing.T) {
	notGot(t, make([]byte, 176))
	notGot(t, bytes.Repeat([]byte{255}, 176))
	notGot(t, bytes.Repeat([]byte{1}, 176))
}

// All bytes from 8 on may be whatever they are.
func TestGetOfAnyByteBehindTheHead(t *testing.T) {
	for i := 8; i < 176; i++ {
		for _, x := range []byte{1, 2, 127, 128, 255} {
			b := told(Record{Image: image(1)})
			b[i] ^= x
			r, e := Get(b)
			must(t, e, api.OK)
			if r.Last || r.Image.Block != binary.LittleEndian.Uint64(b[8:]) || !bytes.Equal(r.Image.Bytes, b[16:]) {
				t.Fatalf("Get, byte %d: %v", i, r)
			}
		}
	}
}

func TestGetWithinALongerRow(t *testing.T) {
	r := Record{Image: image(1), Last: true}
	long := slices.Concat(some(1, 50), told(r), some(2, 50))
	got(t, long[50:226], r)
}

// P12.2: Of.

// The chapter's example.
func TestOfOfNothing(t *testing.T) {
	for _, l := range [][]api.Image{nil, {}, images(1, 3)[:0]} {
		if r, e := Of(l); e != api.ErrArg || r != nil {
			t.Errorf("Of of nothing: %v, error %d", r, e)
		}
	}
}

func TestOfOfImages(t *testing.T) {
	for n := 1; n <= 40; n++ {
		l := images(n, n)
		var want []Record
		for i, m := range l {
			want = append(want, Record{Image: m, Last: i == n-1})
		}
		if r := of(t, l); !sameRecords(r, want) {
			t.Fatalf("Of of %d: %v, not %v", n, r, want)
		}
	}
}

func TestOfOfNumbersAtTheEnds(t *testing.T) {
	var l []api.Image
	for i, n := range numbers {
		l = append(l, api.Image{Block: n, Bytes: some(i, 160)})
	}
	r := of(t, l)
	for i := range l {
		if !sameImage(r[i].Image, l[i]) {
			t.Errorf("record %d: %v, not %v", i, r[i], l[i])
		}
	}
}

// A block that comes twice, with the same bytes or with others, has two records.
func TestOfLeavesNoneOut(t *testing.T) {
	a, b := image(1), image(2)
	b.Block = a.Block
	l := []api.Image{a, b, a, a}
	r := of(t, l)
	want := []Record{{a, false}, {b, false}, {a, false}, {a, true}}
	if !sameRecords(r, want) {
		t.Errorf("Of: %v, not %v", r, want)
	}
}

func TestOfRefusesOtherLengths(t *testing.T) {
	long := some(1, 400)
	for size := range len(long) + 1 {
		if size == 160 {
			continue
		}
		for n := 1; n <= 4; n++ {
			for at := range n {
				l := images(1, n)
				l[at].Bytes = long[:size]
				if r, e := Of(l); e != api.ErrArg || r != nil {
					t.Errorf("Of, %d bytes in %d of %d: %v, error %d", size, at, n, r, e)
				}
			}
		}
	}
	for at := range 3 {
		l := images(1, 3)
		l[at].Bytes = nil
		if r, e := Of(l); e != api.ErrArg || r != nil {
			t.Errorf("Of, no bytes in %d: %v, error %d", at, r, e)
		}
	}
}

// P12.2: Changes.

func TestChangesOfNothing(t *testing.T) {
	for _, l := range [][]Record{nil, {}, {{image(1), false}}} {
		if c, e := Changes(l[:0]); e != api.OK || len(c) != 0 {
			t.Errorf("Changes of nothing: %v, error %d", c, e)
		}
	}
}

// Which of the records are Last, in all ways that there are; the changes are told by a plain rule of the test's own.
func TestChangesOfAllWaysToEnd(t *testing.T) {
	for n := 1; n <= 9; n++ {
		for ends := range 1 << n {
			var l []Record
			var want [][]api.Image
			var open []api.Image
			for i := range n {
				r := Record{Image: image(i), Last: ends>>i&1 == 1}
				l, open = append(l, r), append(open, r.Image)
				if r.Last {
					want, open = append(want, open), nil
				}
			}
			c, e := Changes(l)
			if len(open) > 0 {
				if e != api.ErrForm || c != nil {
					t.Fatalf("Changes of %d, ends %b: %v, error %d", n, ends, c, e)
				}
				continue
			}
			if e != api.OK || !sameChanges(c, want) {
				t.Fatalf("Changes of %d, ends %b: %v, error %d, not %v", n, ends, c, e, want)
			}
		}
	}
}

// What stands behind a list's end isn't of it.
func TestChangesGoesByTheLength(t *testing.T) {
	l := []Record{{image(1), false}, {image(2), true}, {image(3), false}, {image(4), true}}
	if c, e := Changes(l[:3]); e != api.ErrForm || c != nil {
		t.Errorf("Changes of three: %v, error %d", c, e)
	}
	if c := changes(t, l[:2]); !sameChanges(c, [][]api.Image{{image(1), image(2)}}) {
		t.Errorf("Changes of two: %v", c)
	}
}

func TestChangesLeavesNoneOut(t *testing.T) {
	a, b := image(1), image(2)
	b.Block = a.Block
	l := []Record{{a, false}, {b, false}, {a, true}, {a, true}, {a, true}}
	if c := changes(t, l); !sameChanges(c, [][]api.Image{{a, b, a}, {a}, {a}}) {
		t.Errorf("Changes: %v", c)
	}
}

// Changes asks for the ends alone: the bytes are told as they are, however many.
func TestChangesOfAnyBytes(t *testing.T) {
	for _, n := range []int{0, 1, 159, 161, 400} {
		m := api.Image{Block: top, Bytes: some(n, n)}
		l := []Record{{m, false}, {image(1), true}, {image(2), false}, {m, true}}
		if c := changes(t, l); !sameChanges(c, [][]api.Image{{m, image(1)}, {image(2), m}}) {
			t.Errorf("Changes of %d bytes: %v", n, c)
		}
	}
	if c := changes(t, []Record{{Last: true}}); !sameChanges(c, [][]api.Image{{{}}}) {
		t.Errorf("Changes of a record of nothing: %v", c)
	}
	if c, e := Changes([]Record{{}}); e != api.ErrForm || c != nil {
		t.Errorf("Changes of a record of nothing that isn't the last: %v, error %d", c, e)
	}
}

// P12.3

func TestWhatIsPutIsGot(t *testing.T) {
	for seed := range 300 {
		r := Record{Image: image(seed), Last: seed%3 == 0}
		r.Image.Block >>= seed % 64
		got(t, put(t, r), r)
	}
}

func TestWhatIsGotIsPutAsItWas(t *testing.T) {
	for seed := range 300 {
		b := some(seed, 176)
		copy(b, []byte{1, byte(seed % 2), 0, 0, 0, 0, 0, 0})
		r, e := Get(b)
		must(t, e, api.OK)
		if again := put(t, r); !bytes.Equal(again, b) {
			t.Fatalf("Put of Get: %v, not %v", again, b)
		}
	}
}

func TestRecordsThatPartInABitHaveOtherBytes(t *testing.T) {
	b := told(Record{Image: image(1)})
	seen := map[string]int{string(b): -1}
	for i := range 176 * 8 {
		other := slices.Clone(b)
		other[i/8] ^= 1 << (i % 8)
		r, e := Get(other)
		// Of the head just one bit may be another one: that of Last.
		if i < 64 && i != 8 {
			must(t, e, api.ErrForm)
			continue
		}
		must(t, e, api.OK)
		again := string(put(t, r))
		if j, ok := seen[again]; ok {
			t.Fatalf("bits %d and %d make one record", j, i)
		}
		seen[again] = i
	}
}

func TestRecordsOfChangesAreTheseChanges(t *testing.T) {
	for seed := range 100 {
		var want [][]api.Image
		var l []Record
		for i := range seed % 12 {
			change := images(100*seed+10*i, 1+(seed+3*i*i)%7)
			want = append(want, change)
			l = append(l, of(t, change)...)
		}
		if c := changes(t, l); !sameChanges(c, want) {
			t.Fatalf("Changes of Of: %v, not %v", c, want)
		}
		if len(l) > 0 {
			l[len(l)-1].Last = false
			if c, e := Changes(l); e != api.ErrForm || c != nil {
				t.Fatalf("Changes without an end: %v, error %d", c, e)
			}
		}
	}
}

// The way through the bytes, as a journal goes it.
func TestRecordsThroughTheirBytes(t *testing.T) {
	want := [][]api.Image{images(1, 3), images(9, 1), images(20, 5)}
	var l []Record
	for _, change := range want {
		for _, r := range of(t, change) {
			again, e := Get(put(t, r))
			must(t, e, api.OK)
			l = append(l, again)
		}
	}
	if c := changes(t, l); !sameChanges(c, want) {
		t.Errorf("Changes: %v, not %v", c, want)
	}
	if c, e := Changes(l[:8]); e != api.ErrForm || c != nil {
		t.Errorf("Changes of a row that is cut: %v, error %d", c, e)
	}
}

func TestChangesAreTheirRecords(t *testing.T) {
	l := []Record{{image(1), false}, {image(2), true}, {image(3), true}, {image(4), false}, {image(5), false}, {image(6), true}}
	var again []Record
	for _, c := range changes(t, l) {
		again = append(again, of(t, c)...)
	}
	if !sameRecords(again, l) {
		t.Errorf("Of of Changes: %v, not %v", again, l)
	}
}

// Memory of their own (section 'Words')

func TestPutTellsNewMemory(t *testing.T) {
	room := some(1, 400)
	r := Record{Image: api.Image{Block: 3, Bytes: room[:160]}, Last: true}
	want := told(r)
	b, again := put(t, r), put(t, r)
	spoil(b)
	_ = append(b, 9, 9, 9)
	if !bytes.Equal(again, want) || !bytes.Equal(room, some(1, 400)) {
		t.Error("two answers, or the record, share memory")
	}
	spoil(room)
	if !bytes.Equal(again, want) {
		t.Error("the record and its bytes share memory")
	}
}

func TestGetTellsNewMemory(t *testing.T) {
	r := Record{Image: image(1), Last: true}
	room := append(told(r), some(2, 100)...)
	before := slices.Clone(room)
	one, e := Get(room[:176])
	must(t, e, api.OK)
	other, e := Get(room[:176])
	must(t, e, api.OK)
	spoil(one.Image.Bytes)
	if !bytes.Equal(room, before) || !sameRecord(other, r) {
		t.Error("two answers, or the bytes, share memory with a record")
	}
	spoil(room)
	if !sameRecord(other, r) {
		t.Error("the bytes and their record share memory")
	}
}

func TestGetOfNoRecordChangesNothing(t *testing.T) {
	for _, b := range [][]byte{some(1, 0), some(2, 175), make([]byte, 176), some(3, 176), some(4, 177)} {
		before := slices.Clone(b)
		notGot(t, b)
		if !bytes.Equal(b, before) {
			t.Errorf("%d bytes: %v", len(b), b)
		}
	}
}

func TestOfTellsNewMemory(t *testing.T) {
	row := some(7, 160)
	l := append(images(1, 3), api.Image{Block: 9, Bytes: row}, api.Image{Block: 10, Bytes: row})
	before := copyImages(l)
	want := make([]Record, len(l))
	for i, m := range before {
		want[i] = Record{Image: m, Last: i == len(l)-1}
	}
	apart(t, "Of", func() []api.Image {
		r := of(t, l)
		if !sameRecords(r, want) || !sameImages(l, before) {
			t.Fatalf("Of: %v, of %v", r, l)
		}
		var out []api.Image
		for _, x := range r {
			out = append(out, x.Image)
		}
		return out
	}, l)
	r := of(t, l)
	for i := range l {
		l[i].Block = 77
		spoil(l[i].Bytes)
	}
	spoil(row)
	if !sameRecords(r, want) {
		t.Error("images and their records share memory")
	}
}

func TestChangesTellsNewMemory(t *testing.T) {
	row := some(7, 160)
	l := []Record{{image(1), false}, {image(2), true}, {image(3), true}, {api.Image{Block: 9, Bytes: row}, false}, {api.Image{Block: 10, Bytes: row}, true}}
	before := copyRecords(l)
	var handed, flat []api.Image
	for i := range l {
		handed, flat = append(handed, l[i].Image), append(flat, before[i].Image)
	}
	want := [][]api.Image{flat[:2], flat[2:3], flat[3:]}
	apart(t, "Changes", func() []api.Image {
		c := changes(t, l)
		if !sameChanges(c, want) || !sameRecords(l, before) {
			t.Fatalf("Changes: %v, of %v", c, l)
		}
		return slices.Concat(c...)
	}, handed)
	c := changes(t, l)
	for i := range l {
		l[i] = Record{}
		spoil(handed[i].Bytes)
	}
	if !sameChanges(c, want) {
		t.Error("records and their changes share memory")
	}
}

// apart holds that no bytes of an answer change when others of it, or of another answer, are changed; and that those handed in don't.
func apart(t *testing.T, what string, call func() []api.Image, handed []api.Image) {
	t.Helper()
	before := copyImages(handed)
	for i := range handed {
		l, other := call(), call()
		want := copyImages(l)
		spoil(l[i].Bytes)
		for j := range l {
			if j != i && !sameImage(l[j], want[j]) {
				t.Errorf("%s: %d and %d share memory", what, i, j)
			}
		}
		if !sameImages(other, want) {
			t.Errorf("%s: two answers share memory at %d", what, i)
		}
		if !sameImages(handed, before) {
			t.Fatalf("%s: what is handed in shares memory with %d", what, i)
		}
	}
}

// Whoever adds to a change, or changes it, leaves the others as they are.
func TestChangesAreCutOffEachOther(t *testing.T) {
	l := slices.Concat(of(t, images(1, 2)), of(t, images(5, 1)), of(t, images(9, 3)))
	want := [][]api.Image{images(1, 2), images(5, 1), images(9, 3)}
	for i := range want {
		c := changes(t, l)
		if cap(c[i]) != len(c[i]) {
			t.Errorf("change %d has room for %d behind its %d", i, cap(c[i]), len(c[i]))
		}
		_ = append(c[i], image(77), image(78))
		whole := c[i][:cap(c[i])]
		for j := range whole {
			whole[j] = image(79)
		}
		for j := range c {
			if j != i && !sameImages(c[j], want[j]) {
				t.Errorf("change %d changed with %d", j, i)
			}
		}
	}
}

func TestOfAndChangesThatRefuseChangeNothing(t *testing.T) {
	l := images(1, 3)
	l[2].Bytes = l[2].Bytes[:159]
	before := copyImages(l)
	if _, e := Of(l); e != api.ErrArg || !sameImages(l, before) {
		t.Errorf("Of: error %d, %v", e, l)
	}
	r := []Record{{image(1), true}, {image(2), false}}
	was := copyRecords(r)
	if _, e := Changes(r); e != api.ErrForm || !sameRecords(r, was) {
		t.Errorf("Changes: error %d, %v", e, r)
	}
}

func TestTheSameCallsHaveTheSameAnswers(t *testing.T) {
	for seed := range 50 {
		l := images(seed, 1+seed%5)
		r := of(t, l)
		b, c := put(t, r[0]), changes(t, r)
		put(t, Record{Image: image(seed + 500)})
		changes(t, of(t, images(seed+500, 3)))
		if !sameRecords(of(t, l), r) || !bytes.Equal(put(t, r[0]), b) || !sameChanges(changes(t, r), c) {
			t.Fatal("the same call has another answer")
		}
	}
}
