package seal

import (
	"bytes"
	"encoding/binary"
	"encoding/hex"
	"math"
	"slices"
	"testing"

	"reliquary/api"
	"reliquary/cipher"
)

// The calls as chapter 8 lists them: this doesn't build if a signature is another one.
var (
	_ func(api.Sum, uint32, uint64, []byte) ([]byte, api.Errno)      = Seal
	_ func(api.Sum, uint32, []byte, int) (uint64, []byte, api.Errno) = Open
)

// top is the greatest number.
const top = math.MaxUint64

// sizes are how many bytes may be sealed: a block's, and a record's.
var sizes = []int{160, 176}

// places are those at the ends, and some between, each byte of one another one.
var places = []uint32{0, 1, 2, 255, 256, 4095, 4096, 0x04030201, 1<<31 - 1, 1 << 31, math.MaxUint32 - 1, math.MaxUint32}

// versions are those that may be, at the ends, and some between.
var versions = []uint64{1, 2, 255, 256, 65535, 1<<32 - 1, 1 << 32, 0x0807060504030201, 1<<63 - 1, 1 << 63, top - 2, top - 1}

// some is so many bytes without a rule that a fault could hide in; each seed has others.
func some(seed, n int) []byte {
	out := make([]byte, n)
	x := uint32(seed)*2654435761 + 11
	for i := range out {
		x = x*1664525 + 1013904223
		out[i] = byte(x >> 24)
	}
	return out
}

// key is a key; each seed has another one.
func key(seed int) api.Sum { return api.Sum(some(seed+1000, 32)) }

// testKeys are keys: the least, the greatest, and some.
func testKeys() []api.Sum {
	return []api.Sum{{}, api.Sum(bytes.Repeat([]byte{255}, 32)), key(1), key(2)}
}

// must holds an error against the one that is asked for.
func must(t *testing.T, got, want api.Errno) {
	t.Helper()
	if got != want {
		t.Fatalf("error %d, not %d", got, want)
	}
}

// sealed is what Seal tells of what may be sealed.
func sealed(t *testing.T, k api.Sum, place uint32, version uint64, plain []byte) []byte {
	t.Helper()
	slot, e := Seal(k, place, version, plain)
	must(t, e, api.OK)
	return slot
}

// toldSlot is a slot as the promise's words tell it.
func toldSlot(k api.Sum, place uint32, version uint64, plain []byte) []byte {
	out := make([]byte, 192)
	binary.LittleEndian.PutUint64(out, version)
	hidden, _ := cipher.Crypt(k, 0, cipher.Nonce(place, version), plain)
	copy(out[8:], hidden)
	return out
}

// notSealed holds that Seal tells this error, and nothing beside it.
func notSealed(t *testing.T, version uint64, plain []byte, want api.Errno) {
	t.Helper()
	if slot, e := Seal(key(1), 5, version, plain); e != want || slot != nil {
		t.Errorf("Seal of version %d and %d bytes: %x, error %d, not %d", version, len(plain), slot, e, want)
	}
}

// notOpened holds that Open tells this error, and nothing beside it.
func notOpened(t *testing.T, slot []byte, n int, want api.Errno) {
	t.Helper()
	if v, b, e := Open(key(1), 5, slot, n); e != want || v != 0 || b != nil {
		t.Errorf("Open of %d bytes for %d: version %d, %x, error %d, not %d", len(slot), n, v, b, e, want)
	}
}

// opens holds that Open tells this version and these bytes.
func opens(t *testing.T, k api.Sum, place uint32, slot []byte, version uint64, plain []byte) {
	t.Helper()
	v, b, e := Open(k, place, slot, len(plain))
	must(t, e, api.OK)
	if v != version || !bytes.Equal(b, plain) {
		t.Fatalf("Open: version %d, %x, not %d, %x", v, b, version, plain)
	}
}

// P8.1

// The key's bytes are 0 to 31, the place's 1 to 4, the version's 1 to 8, and what is sealed 1 and on; the slots were reckoned elsewhere.
const (
	knownPlace   = 0x04030201
	knownVersion = 0x0807060504030201
	known        = "0102030405060708" +
		"7ec67061bd21584745edbf08bf95eac236b7f07a4f08e8a8932ed1f60bc71274" +
		"2396435efb76d82df26e615f37e781d5d5ca44a7ee07edf148727923b5d66475" +
		"b8c42c1cc8002d52e6f91700e22055fbf2d7f9970248a470d8974d7c00bcee94" +
		"3e46262991a319bb625ed62b3f7fc1969381d6550ab15fd75db85cd8eae52a81" +
		"d538b5776a642eaeeeac5b9986c3ec80f6e5e3eaf80cd54f5e9c65215d6c5e68"
	knownBlock  = known + "000000000000000000000000000000000000000000000000"
	knownRecord = known + "3a84dd5ea51e950edbd2b94e0807ccc9" + "0000000000000000"
)

// counted is so many bytes, each the one ahead and 1, from a byte on.
func counted(from byte, n int) []byte {
	out := make([]byte, n)
	for i := range out {
		out[i] = from + byte(i)
	}
	return out
}

func TestKnownSlots(t *testing.T) {
	k := api.Sum(counted(0, 32))
	for i, text := range []string{knownBlock, knownRecord} {
		plain := counted(1, sizes[i])
		slot := sealed(t, k, knownPlace, knownVersion, plain)
		if got := hex.EncodeToString(slot); got != text {
			t.Errorf("Seal of %d bytes: %s, not %s", len(plain), got, text)
		}
		want, err := hex.DecodeString(text)
		if err != nil {
			t.Fatal(err)
		}
		opens(t, k, knownPlace, want, knownVersion, plain)
	}
}

func TestSealAsThePromiseTellsIt(t *testing.T) {
	for i, n := range sizes {
		for _, k := range testKeys() {
			for _, place := range places {
				for j, version := range versions {
					plain := some(100*i+j, n)
					got, want := sealed(t, k, place, version, plain), toldSlot(k, place, version, plain)
					if !bytes.Equal(got, want) {
						t.Fatalf("Seal at %d, version %d: %x, not %x", place, version, got, want)
					}
				}
			}
		}
	}
}

func TestSealLaysEachByteAtItsPlace(t *testing.T) {
	for _, n := range sizes {
		plain := some(1, n)
		slot := sealed(t, key(1), 5, 7, plain)
		if len(slot) != 192 || !bytes.Equal(slot[:8], []byte{7, 0, 0, 0, 0, 0, 0, 0}) {
			t.Fatalf("Seal: %d bytes, %x", len(slot), slot)
		}
		if !bytes.Equal(slot[8+n:], make([]byte, 184-n)) {
			t.Errorf("behind %d: %x", 8+n, slot[8+n:])
		}
		for i := range n {
			other := slices.Clone(plain)
			other[i] ^= 0xa5
			want := slices.Clone(slot)
			want[8+i] ^= 0xa5
			if got := sealed(t, key(1), 5, 7, other); !bytes.Equal(got, want) {
				t.Errorf("byte %d: %x, not %x", i, got, want)
			}
		}
	}
}

// Noughts show the stream itself.
func TestSealOfNoughtsIsTheStreamFromItsBeginning(t *testing.T) {
	slot := sealed(t, key(1), 5, 7, make([]byte, 176))
	var stream []byte
	for i := range 3 {
		b := cipher.Block(key(1), uint32(i), [12]byte{5, 0, 0, 0, 7})
		stream = append(stream, b[:]...)
	}
	if !bytes.Equal(slot[8:184], stream[:176]) {
		t.Errorf("Seal: %x, not %x", slot[8:184], stream[:176])
	}
}

func TestSealRefusesOtherLengths(t *testing.T) {
	long := some(1, 600)
	for n := range len(long) + 1 {
		if n == 160 || n == 176 {
			continue
		}
		// The capacity goes on behind the end: only the length may count.
		notSealed(t, 7, long[:n], api.ErrArg)
		notSealed(t, 7, slices.Clone(long[:n]), api.ErrArg)
	}
	notSealed(t, 7, nil, api.ErrArg)
	notSealed(t, 7, []byte{}, api.ErrArg)
}

// The chapter's example.
func TestSealRefusesVersionNought(t *testing.T) {
	for _, n := range sizes {
		notSealed(t, 0, some(1, n), api.ErrArg)
	}
}

func TestSealRefusesTheLastVersion(t *testing.T) {
	for _, n := range sizes {
		notSealed(t, top, some(1, n), api.ErrWorn)
	}
}

func TestSealOfVersionsAtTheEnds(t *testing.T) {
	for _, n := range sizes {
		first, last := sealed(t, key(1), 5, 1, some(1, n)), sealed(t, key(1), 5, top-1, some(1, n))
		if !bytes.Equal(first[:8], []byte{1, 0, 0, 0, 0, 0, 0, 0}) {
			t.Errorf("version 1: %x", first[:8])
		}
		if !bytes.Equal(last[:8], []byte{254, 255, 255, 255, 255, 255, 255, 255}) {
			t.Errorf("version 2^64 - 2: %x", last[:8])
		}
	}
}

func TestSealTellsErrArgAheadOfErrWorn(t *testing.T) {
	for _, n := range []int{0, 1, 159, 161, 175, 177, 192} {
		notSealed(t, top, some(1, n), api.ErrArg)
		notSealed(t, 0, some(1, n), api.ErrArg)
	}
	notSealed(t, top, nil, api.ErrArg)
}

// P8.2

func TestOpenAsThePromiseTellsIt(t *testing.T) {
	for i, n := range sizes {
		for _, k := range testKeys() {
			for _, place := range places {
				for j, version := range versions {
					plain := some(100*i+j, n)
					opens(t, k, place, toldSlot(k, place, version, plain), version, plain)
				}
			}
		}
	}
}

func TestOpenRefusesOtherNumbers(t *testing.T) {
	for _, size := range sizes {
		slot := sealed(t, key(1), 5, 7, some(1, size))
		for n := -400; n <= 400; n++ {
			if n != 160 && n != 176 {
				notOpened(t, slot, n, api.ErrArg)
			}
		}
		for _, n := range []int{math.MinInt, math.MinInt + 160, -1 << 31, 1<<31 - 1, 1<<32 + 160, 1<<32 + 176, math.MaxInt - 8, math.MaxInt} {
			notOpened(t, slot, n, api.ErrArg)
		}
	}
}

func TestOpenRefusesOtherLengths(t *testing.T) {
	slot := sealed(t, key(1), 5, 7, some(1, 160))
	long := append(slices.Clone(slot), make([]byte, 300)...)
	for length := range len(long) + 1 {
		if length == 192 {
			continue
		}
		for _, n := range sizes {
			notOpened(t, long[:length], n, api.ErrForm)
			notOpened(t, slices.Clone(long[:length]), n, api.ErrForm)
		}
	}
	for _, n := range sizes {
		notOpened(t, nil, n, api.ErrForm)
	}
}

func TestOpenRefusesVersionsThatMayNotBe(t *testing.T) {
	for _, n := range sizes {
		for _, version := range []uint64{0, top} {
			notOpened(t, toldSlot(key(1), 5, version, some(1, n)), n, api.ErrForm)
		}
	}
	// A place of a new disk.
	notOpened(t, make([]byte, 192), 160, api.ErrForm)
	notOpened(t, make([]byte, 192), 176, api.ErrForm)
}

func TestOpenOfVersionsOneByteAway(t *testing.T) {
	for _, n := range sizes {
		for i := range 8 {
			plain := some(i, n)
			one := uint64(1) << (8 * i)
			opens(t, key(1), 5, toldSlot(key(1), 5, one, plain), one, plain)
			opens(t, key(1), 5, toldSlot(key(1), 5, top-one, plain), top-one, plain)
		}
	}
}

func TestOpenRefusesAnyByteBehind(t *testing.T) {
	for _, n := range sizes {
		slot := sealed(t, key(1), 5, 7, some(1, n))
		for i := 8 + n; i < 192; i++ {
			for _, x := range []byte{1, 2, 127, 128, 255} {
				other := slices.Clone(slot)
				other[i] = x
				notOpened(t, other, n, api.ErrForm)
			}
		}
		// Two that together are nought, or cover each other.
		other := slices.Clone(slot)
		other[190], other[191] = 128, 128
		notOpened(t, other, n, api.ErrForm)
	}
}

// All bytes ahead of 8 + n may be whatever they are.
func TestOpenOfAnyByteAhead(t *testing.T) {
	for _, n := range sizes {
		plain := some(1, n)
		slot := sealed(t, key(1), 5, 7, plain)
		for i := range n {
			other, want := slices.Clone(slot), slices.Clone(plain)
			other[8+i] ^= 0x81
			want[i] ^= 0x81
			opens(t, key(1), 5, other, 7, want)
		}
		opens(t, key(1), 5, toldSlot(key(1), 5, 7, make([]byte, n)), 7, make([]byte, n))
	}
}

func TestARecordIsNoBlock(t *testing.T) {
	plain := some(1, 176)
	slot := sealed(t, key(1), 5, 7, plain)
	notOpened(t, slot, 160, api.ErrForm)
	// A block is a record, whose last bytes are the stream's: nothing of the slot tells them apart.
	hidden := toldSlot(key(1), 5, 7, plain[:160])
	stream, _ := cipher.Crypt(key(1), 0, cipher.Nonce(5, 7), make([]byte, 176))
	opens(t, key(1), 5, hidden, 7, slices.Concat(plain[:160], stream[160:]))
}

func TestOpenTellsErrArgAheadOfErrForm(t *testing.T) {
	for _, n := range []int{math.MinInt, -1, 0, 1, 159, 161, 175, 177, 184, 192, math.MaxInt} {
		notOpened(t, nil, n, api.ErrArg)
		notOpened(t, some(1, 191), n, api.ErrArg)
		notOpened(t, make([]byte, 192), n, api.ErrArg)
		notOpened(t, bytes.Repeat([]byte{255}, 192), n, api.ErrArg)
	}
}

// P8.3

func TestWhatWasSealedIsOpened(t *testing.T) {
	for seed := range 300 {
		n := sizes[seed%2]
		place, version := uint32(seed)<<(seed%32), uint64(seed+1)<<(seed%56)
		plain := some(seed, n)
		opens(t, key(seed), place, sealed(t, key(seed), place, version, plain), version, plain)
	}
	for _, n := range sizes {
		for _, x := range []byte{0, 1, 255} {
			plain := bytes.Repeat([]byte{x}, n)
			opens(t, key(1), 5, sealed(t, key(1), 5, 7, plain), 7, plain)
		}
	}
}

func TestWhatIsOpenedIsSealedAsItWas(t *testing.T) {
	for seed := range 300 {
		n := sizes[seed%2]
		slot := some(seed, 192)
		clear(slot[8+n:])
		v, plain, e := Open(key(seed), uint32(seed), slot, n)
		must(t, e, api.OK)
		if len(plain) != n || v != binary.LittleEndian.Uint64(slot) {
			t.Fatalf("Open: version %d, %d bytes", v, len(plain))
		}
		if got := sealed(t, key(seed), uint32(seed), v, plain); !bytes.Equal(got, slot) {
			t.Fatalf("Seal of Open: %x, not %x", got, slot)
		}
	}
}

// Two slots of noughts show two streams: those of one place part wherever the versions part.
func TestVersionsAtAPlaceNeverHaveOneStream(t *testing.T) {
	for _, place := range []uint32{0, 5, math.MaxUint32} {
		seen := map[string]uint64{}
		all := slices.Clone(versions)
		for i := range 64 {
			all = append(all, 1<<i, 0x123456789abcdef^1<<i)
		}
		slices.Sort(all)
		for _, version := range slices.Compact(all) {
			stream := string(sealed(t, key(1), place, version, make([]byte, 160))[8:168])
			if other, ok := seen[stream]; ok {
				t.Fatalf("at %d, versions %d and %d have one stream", place, version, other)
			}
			seen[stream] = version
		}
	}
}

func TestPlacesNeverHaveOneStream(t *testing.T) {
	seen := map[string]uint32{}
	all := slices.Clone(places)
	for i := range 32 {
		all = append(all, 1<<i, 0x12345678^1<<i)
	}
	slices.Sort(all)
	for _, place := range slices.Compact(all) {
		stream := string(sealed(t, key(1), place, 7, make([]byte, 160))[8:168])
		if other, ok := seen[stream]; ok {
			t.Fatalf("places %d and %d have one stream", place, other)
		}
		seen[stream] = place
	}
}

func TestAnotherKeyPlaceOrVersionOpensOtherBytes(t *testing.T) {
	for _, n := range sizes {
		plain := some(1, n)
		slot := sealed(t, key(1), 5, 7, plain)
		other := slices.Clone(slot)
		other[0] = 8
		for i := range 32 {
			k := key(1)
			k[i] ^= 1
			if v, b, e := Open(k, 5, slot, n); v != 7 || e != api.OK || bytes.Equal(b, plain) {
				t.Errorf("key byte %d: version %d, error %d", i, v, e)
			}
		}
		if v, b, e := Open(key(1), 6, slot, n); v != 7 || e != api.OK || bytes.Equal(b, plain) {
			t.Errorf("another place: version %d, error %d", v, e)
		}
		if v, b, e := Open(key(1), 5, other, n); v != 8 || e != api.OK || bytes.Equal(b, plain) {
			t.Errorf("another version: version %d, error %d", v, e)
		}
	}
}

// Memory of their own (section 'Words')

func TestSealSharesNoMemory(t *testing.T) {
	for _, n := range sizes {
		// Room behind the bytes, that must not be written to.
		room := some(1, 300)
		plain := room[:n]
		slot, again := sealed(t, key(1), 5, 7, plain), sealed(t, key(1), 5, 7, plain)
		if !bytes.Equal(room, some(1, 300)) {
			t.Fatal("Seal changes what is handed in")
		}
		want := toldSlot(key(1), 5, 7, plain)
		clear(plain)
		if !bytes.Equal(slot, want) {
			t.Error("what is handed in and the slot share memory")
		}
		clear(slot[:cap(slot)])
		_ = append(slot, 9, 9)
		if !bytes.Equal(again, want) || !bytes.Equal(room[n:], some(1, 300)[n:]) {
			t.Error("two slots, or a slot and what is handed in, share memory")
		}
	}
}

func TestOpenSharesNoMemory(t *testing.T) {
	for _, n := range sizes {
		want := some(1, n)
		room := append(sealed(t, key(1), 5, 7, want), some(2, 100)...)
		was := slices.Clone(room)
		slot := room[:192]
		_, one, e := Open(key(1), 5, slot, n)
		must(t, e, api.OK)
		_, other, e := Open(key(1), 5, slot, n)
		must(t, e, api.OK)
		if !bytes.Equal(room, was) {
			t.Fatal("Open changes what is handed in")
		}
		clear(slot)
		if !bytes.Equal(one, want) {
			t.Error("the slot and its bytes share memory")
		}
		clear(one[:cap(one)])
		_ = append(one, 9, 9)
		if !bytes.Equal(other, want) || !bytes.Equal(slot, make([]byte, 192)) || !bytes.Equal(room[192:], was[192:]) {
			t.Error("two answers, or an answer and the slot, share memory")
		}
	}
}

func TestRefusalsChangeNothing(t *testing.T) {
	plain, slot := some(1, 160), some(2, 192)
	for _, version := range []uint64{0, top} {
		if _, e := Seal(key(1), 5, version, plain); e == api.OK || !bytes.Equal(plain, some(1, 160)) {
			t.Errorf("Seal of version %d: error %d, %x", version, e, plain)
		}
	}
	for _, n := range []int{0, 160, 176} {
		if _, _, e := Open(key(1), 5, slot, n); e == api.OK || !bytes.Equal(slot, some(2, 192)) {
			t.Errorf("Open for %d: error %d, %x", n, e, slot)
		}
	}
}

func TestTheSameCallsHaveTheSameAnswers(t *testing.T) {
	for seed := range 20 {
		n := sizes[seed%2]
		first := sealed(t, key(seed), uint32(seed), 9, some(seed, n))
		sealed(t, key(seed+1), uint32(seed+1), 10, some(seed+1, n))
		if !bytes.Equal(sealed(t, key(seed), uint32(seed), 9, some(seed, n)), first) {
			t.Fatal("the same call has another answer")
		}
	}
}
