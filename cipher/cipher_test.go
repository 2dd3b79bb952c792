package cipher

import (
	"bytes"
	"encoding/binary"
	"encoding/hex"
	"math"
	"slices"
	"testing"

	"reliquary/api"
)

// The calls as chapter 4 lists them: this doesn't build if a signature is another one.
var (
	_ func(api.Sum, uint32, [api.Nonce]byte) [64]byte                    = Block
	_ func(api.Sum, uint32, [api.Nonce]byte, []byte) ([]byte, api.Errno) = Crypt
	_ func(uint32, uint64) [api.Nonce]byte                               = Nonce
)

// counters are those at their ends, and some between.
var counters = []uint32{0, 1, 2, 255, 256, 65535, 65536, 1 << 24, 0x12345678, 1<<31 - 1, 1 << 31, math.MaxUint32 - 1, math.MaxUint32}

// lengths are numbers of bytes: nothing, and about the ends of blocks.
var lengths = []int{0, 1, 2, 3, 31, 32, 62, 63, 64, 65, 66, 127, 128, 129, 160, 176, 191, 192, 193, 639, 640, 641, 5000}

// some is so many bytes, without a rule that a block could hide in.
func some(n int) []byte {
	out := make([]byte, n)
	x := uint32(n) + 5
	for i := range out {
		x = x*1664525 + 1013904223
		out[i] = byte(x >> 24)
	}
	return out
}

// keyOf is a key of bytes, with noughts behind.
func keyOf(b ...byte) api.Sum {
	var out api.Sum
	copy(out[:], b)
	return out
}

// nonceOf is a nonce of bytes, with noughts behind.
func nonceOf(b ...byte) [api.Nonce]byte {
	var out [api.Nonce]byte
	copy(out[:], b)
	return out
}

// testKeys are keys: the least, the greatest, each byte another one, and some.
func testKeys() []api.Sum {
	var up [32]byte
	for i := range up {
		up[i] = byte(i)
	}
	return []api.Sum{{}, keyOf(bytes.Repeat([]byte{255}, 32)...), up, keyOf(1), keyOf(append(make([]byte, 31), 128)...), keyOf(some(32)...)}
}

// testNonces are nonces: the least, the greatest, each byte another one, and some.
func testNonces() [][api.Nonce]byte {
	return [][api.Nonce]byte{{}, nonceOf(bytes.Repeat([]byte{255}, 12)...), {0, 1, 2, 3, 4, 5, 6, 7, 8, 9, 10, 11}, {1}, {11: 128}, nonceOf(some(12)...)}
}

// toldQuarter is a quarter as the chapter's words tell it, reckoned by rests of greater numbers.
func toldQuarter(w []uint64, a, b, c, d int) {
	const all = 1 << 32
	left := func(x uint64, n uint) uint64 { return (x<<n | x>>(32-n)) % all }
	w[a] = (w[a] + w[b]) % all
	w[d] = left(w[d]^w[a], 16)
	w[c] = (w[c] + w[d]) % all
	w[b] = left(w[b]^w[c], 12)
	w[a] = (w[a] + w[b]) % all
	w[d] = left(w[d]^w[a], 8)
	w[c] = (w[c] + w[d]) % all
	w[b] = left(w[b]^w[c], 7)
}

// toldBlock is a block as the promise's words tell it.
func toldBlock(key api.Sum, counter uint32, nonce [api.Nonce]byte) []byte {
	first := []uint64{0x61707865, 0x3320646e, 0x79622d32, 0x6b206574}
	for i := 0; i < 32; i += 4 {
		first = append(first, uint64(binary.LittleEndian.Uint32(key[i:])))
	}
	first = append(first, uint64(counter))
	for i := 0; i < 12; i += 4 {
		first = append(first, uint64(binary.LittleEndian.Uint32(nonce[i:])))
	}
	w := slices.Clone(first)
	for time := 0; time < 10; time++ {
		toldQuarter(w, 0, 4, 8, 12)
		toldQuarter(w, 1, 5, 9, 13)
		toldQuarter(w, 2, 6, 10, 14)
		toldQuarter(w, 3, 7, 11, 15)
		toldQuarter(w, 0, 5, 10, 15)
		toldQuarter(w, 1, 6, 11, 12)
		toldQuarter(w, 2, 7, 8, 13)
		toldQuarter(w, 3, 4, 9, 14)
	}
	var out []byte
	for i := range w {
		out = binary.LittleEndian.AppendUint32(out, uint32((w[i]+first[i])%(1<<32)))
	}
	return out
}

// toldCrypt is bytes under the stream as the promise's words tell it.
func toldCrypt(key api.Sum, counter uint32, nonce [api.Nonce]byte, b []byte) []byte {
	var stream []byte
	for c := counter; len(stream) < len(b); c++ {
		stream = append(stream, toldBlock(key, c, nonce)...)
	}
	out := []byte{}
	for i := range b {
		out = append(out, b[i]^stream[i])
	}
	return out
}

// P4.1

func TestBlockAsThePromiseTellsIt(t *testing.T) {
	for _, key := range testKeys() {
		for _, nonce := range testNonces() {
			for _, counter := range counters {
				if got, want := Block(key, counter, nonce), toldBlock(key, counter, nonce); !bytes.Equal(got[:], want) {
					t.Errorf("Block(%x, %d, %x) = %x, want %x", key, counter, nonce, got, want)
				}
			}
		}
	}
}

// up is a key whose bytes are 0, 1, 2 ..
const up = "000102030405060708090a0b0c0d0e0f101112131415161718191a1b1c1d1e1f"

// noughts and ones are keys of one bit alone.
const (
	noughts = "0000000000000000000000000000000000000000000000000000000000000000"
	ones    = "ffffffffffffffffffffffffffffffffffffffffffffffffffffffffffffffff"
)

// known are blocks that are told elsewhere.
var known = []struct {
	key     string
	counter uint32
	nonce   string
	want    string
}{
	{noughts, 0, "000000000000000000000000", "76b8e0ada0f13d90405d6ae55386bd28bdd219b8a08ded1aa836efcc8b770dc7da41597c5157488d7724e03fb8d84a376a43b8f41518a11cc387b669b2ee6586"},
	{noughts, 1, "000000000000000000000000", "9f07e7be5551387a98ba977c732d080dcb0f29a048e3656912c6533e32ee7aed29b721769ce64e43d57133b074d839d531ed1f28510afb45ace10a1f4b794d6f"},
	{noughts[:62] + "01", 1, "000000000000000000000000", "3aeb5224ecf849929b9d828db1ced4dd832025e8018b8160b82284f3c949aa5a8eca00bbb4a73bdad192b5c42f73f2fd4e273644c8b36125a64addeb006c13a0"},
	{"00ff" + noughts[:60], 2, "000000000000000000000000", "72d54dfbf12ec44b362692df94137f328fea8da73990265ec1bbbea1ae9af0ca13b25aa26cb4a648cb9b9d1be65b2c0924a66c54d545ec1b7374f4872e99f096"},
	{noughts, 0, "000000000000000000000002", "c2c64d378cd536374ae204b9ef933fcd1a8b2288b3dfa49672ab765b54ee27c78a970e0e955c14f3a88e741b97c286f75f8fc299e8148362fa198a39531bed6d"},
	{up, 1, "000000090000004a00000000", "10f1e7e4d13b5915500fdd1fa32071c4c7d1f4c733c068030422aa9ac3d46c4ed2826446079faa0914c2d705d98b02a2b5129cd1de164eb9cbd083e8a2503c4e"},
	{up, 128, "000102030405060708090a0b", "2fa79f36d7db477f2199c2416f8324fe73c3b3c393f5d76ef78f5d2f51a9295c64b3abce31f41bb329ce15c6d31630ad616324956026d56ef31a43dd456293c2"},
	{noughts, math.MaxUint32, "000000000000000000000000", "ace4cd09e294d1912d4ad205d06f95d9c2f2bfcf453e8753f128765b62215f4d92c74f2f626c6a640c0b1284d839ec81f1696281dafc3e684593937023b58b1d"},
	{ones, math.MaxUint32, "ffffffffffffffffffffffff", "d72b21cfa4b6b0c41d61f62b8a11159c6a4f63bc56c2035796c7ad37811121bbec56d54a530f3a933dd28a50feb23bfaf64f405be985f3718bdf4683e96be749"},
}

// unhex are the bytes of digits.
func unhex(t *testing.T, s string) []byte {
	t.Helper()
	b, err := hex.DecodeString(s)
	if err != nil {
		t.Fatal(err)
	}
	return b
}

func TestBlockOfKnownKeys(t *testing.T) {
	for _, c := range known {
		got := Block(keyOf(unhex(t, c.key)...), c.counter, nonceOf(unhex(t, c.nonce)...))
		if text := hex.EncodeToString(got[:]); text != c.want {
			t.Errorf("Block(%s, %d, %s) = %s, want %s", c.key, c.counter, c.nonce, text, c.want)
		}
	}
}

func TestBlockTellsEveryBitApart(t *testing.T) {
	seen := map[[64]byte]bool{}
	look := func(what string, key api.Sum, counter uint32, nonce [api.Nonce]byte) {
		b := Block(key, counter, nonce)
		if seen[b] {
			t.Errorf("another %s has a block that there was", what)
		}
		seen[b] = true
		if want := toldBlock(key, counter, nonce); !bytes.Equal(b[:], want) {
			t.Errorf("another %s: Block(%x, %d, %x) = %x, want %x", what, key, counter, nonce, b, want)
		}
	}
	key, counter, nonce := keyOf(some(32)...), uint32(0x89abcdef), nonceOf(some(12)...)
	look("thing", key, counter, nonce)
	for i := range 256 {
		other := key
		other[i/8] ^= 1 << (i % 8)
		look("key", other, counter, nonce)
	}
	for i := range 32 {
		look("counter", key, counter^1<<i, nonce)
	}
	for i := range 96 {
		other := nonce
		other[i/8] ^= 1 << (i % 8)
		look("nonce", key, counter, other)
	}
}

func TestBlockKeepsNothing(t *testing.T) {
	key, nonce := keyOf(some(32)...), nonceOf(some(12)...)
	first := Block(key, 7, nonce)
	Block(api.Sum{}, 8, [api.Nonce]byte{})
	if Block(key, 7, nonce) != first {
		t.Error("the same key, counter and nonce have another block")
	}
	if key != keyOf(some(32)...) || nonce != nonceOf(some(12)...) {
		t.Error("Block changed what it was given")
	}
}

// P4.2

func TestCryptAsThePromiseTellsIt(t *testing.T) {
	for _, key := range testKeys() {
		for _, nonce := range testNonces()[:4] {
			for _, counter := range []uint32{0, 1, 2, 255, 65535, 1<<31 - 1, math.MaxUint32 - 100, math.MaxUint32 - 79} {
				for _, n := range lengths {
					b := some(n)
					got, e := Crypt(key, counter, nonce, b)
					if e != api.OK || !bytes.Equal(got, toldCrypt(key, counter, nonce, b)) {
						t.Errorf("Crypt(%x, %d, %x) of %d bytes = %x, %d", key, counter, nonce, n, got[:min(len(got), 200)], int(e))
					}
				}
			}
		}
	}
}

func TestCryptIsTheBlocksLaidOver(t *testing.T) {
	key, nonce := keyOf(some(32)...), nonceOf(some(12)...)
	for _, counter := range []uint32{0, 1, 255, 1<<31 - 2, math.MaxUint32 - 4} {
		for n := range 5*64 + 1 {
			b := some(n)
			got, e := Crypt(key, counter, nonce, b)
			if e != api.OK || len(got) != n {
				t.Fatalf("Crypt of %d bytes from counter %d on: %d bytes, %d", n, counter, len(got), int(e))
			}
			for i := range b {
				if stream := Block(key, counter+uint32(i/64), nonce); got[i] != b[i]^stream[i%64] {
					t.Errorf("Crypt of %d bytes from counter %d on: byte %d is %d", n, counter, i, got[i])
				}
			}
		}
	}
}

func TestCryptOfAKnownText(t *testing.T) {
	const text = "Ladies and Gentlemen of the class of '99: If I could offer you only one tip for the future, sunscreen would be it."
	const want = "6e2e359a2568f98041ba0728dd0d6981e97e7aec1d4360c20a27afccfd9fae0bf91b65c5524733ab8f593dabcd62b3571639d624e65152ab8f530c359f0861d807ca0dbf500d6a6156a38e088a22b65e52bc514d16ccf806818ce91ab77937365af90bbf74a35be6b40b8eedf2785e42874d"
	got, e := Crypt(keyOf(unhex(t, up)...), 1, nonceOf(unhex(t, "000000000000004a00000000")...), []byte(text))
	if hex.EncodeToString(got) != want || e != api.OK {
		t.Errorf("Crypt of a known text = %x, %d", got, int(e))
	}
}

func TestCryptOfNoughtsIsTheStream(t *testing.T) {
	for _, c := range known {
		if got, e := Crypt(keyOf(unhex(t, c.key)...), c.counter, nonceOf(unhex(t, c.nonce)...), make([]byte, 64)); hex.EncodeToString(got) != c.want || e != api.OK {
			t.Errorf("Crypt of noughts by %s from counter %d on = %x, %d", c.key, c.counter, got, int(e))
		}
	}
}

func TestCryptOfNothing(t *testing.T) {
	for _, counter := range counters {
		for _, b := range [][]byte{nil, {}, some(9)[:0], some(9)[9:]} {
			if got, e := Crypt(keyOf(some(32)...), counter, nonceOf(some(12)...), b); len(got) != 0 || e != api.OK {
				t.Errorf("Crypt of nothing from counter %d on = %x, %d", counter, got, int(e))
			}
		}
	}
}

func TestCryptUpToTheLastBlock(t *testing.T) {
	key, nonce := keyOf(some(32)...), nonceOf(some(12)...)
	for blocks := 1; blocks <= 20; blocks++ {
		counter := uint32(1<<32 - blocks)
		// The counter and the begun 64s are just 2^32, wherever in the last block the bytes end.
		for _, n := range []int{blocks*64 - 63, blocks*64 - 62, blocks*64 - 32, blocks*64 - 1, blocks * 64} {
			b := some(n)
			if got, e := Crypt(key, counter, nonce, b); e != api.OK || !bytes.Equal(got, toldCrypt(key, counter, nonce, b)) {
				t.Errorf("Crypt of %d bytes from counter %d on = %x, %d", n, counter, got, int(e))
			}
		}
	}
}

func TestCryptOverTheCounter(t *testing.T) {
	key, nonce := keyOf(some(32)...), nonceOf(some(12)...)
	refused := func(counter uint32, n int) {
		t.Helper()
		if got, e := Crypt(key, counter, nonce, some(n)); len(got) != 0 || e != api.ErrArg {
			t.Errorf("Crypt of %d bytes from counter %d on = %d bytes, %d, want none, %d", n, counter, len(got), int(e), int(api.ErrArg))
		}
	}
	for blocks := 1; blocks <= 20; blocks++ {
		counter := uint32(1<<32 - blocks)
		for _, more := range []int{1, 2, 32, 63, 64, 65, 128, 1000, 1 << 16} {
			refused(counter, blocks*64+more)
		}
	}
	refused(math.MaxUint32, 1<<22)
	refused(math.MaxUint32-(1<<16)+1, 1<<22+1)
	// One block fewer goes just up to the end.
	if got, e := Crypt(key, math.MaxUint32-(1<<16)+1, nonce, some(1<<22)); len(got) != 1<<22 || e != api.OK {
		t.Errorf("Crypt of 2^22 bytes, just up to the last block: %d bytes, %d", len(got), int(e))
	}
}

// flip makes each byte another one, and those behind the end, too.
func flip(b []byte) {
	b = b[:cap(b)]
	for i := range b {
		b[i] ^= 255
	}
}

func TestCryptAnswersNewMemory(t *testing.T) {
	key, nonce := keyOf(some(32)...), nonceOf(some(12)...)
	for _, n := range lengths {
		// The memory goes on behind the end, but those aren't bytes to be enciphered.
		whole := some(n + 200)
		before := slices.Clone(whole)
		got, e := Crypt(key, 3, nonce, whole[:n])
		want := toldCrypt(key, 3, nonce, before[:n])
		if e != api.OK || !bytes.Equal(got, want) {
			t.Errorf("Crypt of %d bytes, with more behind = %x, %d", n, got, int(e))
		}
		if !bytes.Equal(whole, before) {
			t.Errorf("Crypt of %d bytes changed what it was given", n)
		}
		flip(whole)
		if !bytes.Equal(got, want) {
			t.Errorf("Crypt of %d bytes: the answer changes with what was given", n)
		}
		flip(whole)
		flip(got)
		if !bytes.Equal(whole, before) {
			t.Errorf("Crypt of %d bytes: what was given changes with the answer", n)
		}
		if again, e := Crypt(key, 3, nonce, whole[:n]); e != api.OK || !bytes.Equal(again, want) {
			t.Errorf("Crypt of the same %d bytes = %x, %d", n, again, int(e))
		}
	}
}

func TestCryptRefusingChangesNothing(t *testing.T) {
	b := some(200)
	if _, e := Crypt(keyOf(1), math.MaxUint32, nonceOf(2), b); e != api.ErrArg || !bytes.Equal(b, some(200)) {
		t.Errorf("Crypt over the counter: %d, or it changed what it was given", int(e))
	}
}

func TestCryptAnswersShareNothing(t *testing.T) {
	b := some(100)
	one, _ := Crypt(keyOf(1), 0, nonceOf(2), b)
	two, _ := Crypt(keyOf(1), 0, nonceOf(2), b)
	flip(one)
	if !bytes.Equal(two, toldCrypt(keyOf(1), 0, nonceOf(2), b)) {
		t.Error("two answers share memory")
	}
}

// P4.3

func TestNonce(t *testing.T) {
	for _, c := range []struct {
		place   uint32
		version uint64
		want    [api.Nonce]byte
	}{
		{1, 2, [12]byte{1, 0, 0, 0, 2, 0, 0, 0, 0, 0, 0, 0}},
		{2, 1, [12]byte{2, 0, 0, 0, 1, 0, 0, 0, 0, 0, 0, 0}},
		{0, 0, [12]byte{}},
		{0, 1, [12]byte{4: 1}},
		{1, 0, [12]byte{0: 1}},
		{258, 0, [12]byte{2, 1}},
		{0, 258, [12]byte{4: 2, 5: 1}},
		{0x44332211, 0xccbbaa9988776655, [12]byte{0x11, 0x22, 0x33, 0x44, 0x55, 0x66, 0x77, 0x88, 0x99, 0xaa, 0xbb, 0xcc}},
		{math.MaxUint32, 0, [12]byte{255, 255, 255, 255}},
		{0, math.MaxUint64, [12]byte{4: 255, 5: 255, 6: 255, 7: 255, 8: 255, 9: 255, 10: 255, 11: 255}},
		{math.MaxUint32, math.MaxUint64, [12]byte(bytes.Repeat([]byte{255}, 12))},
		{1 << 31, 1 << 63, [12]byte{3: 128, 11: 128}},
		{api.MaxSlots - 1, 1 << 32, [12]byte{0: 255, 1: 15, 8: 1}},
		{0, math.MaxUint64 - 1, [12]byte{4: 254, 5: 255, 6: 255, 7: 255, 8: 255, 9: 255, 10: 255, 11: 255}},
	} {
		if got := Nonce(c.place, c.version); got != c.want {
			t.Errorf("Nonce(%d, %d) = %v, want %v", c.place, c.version, got, c.want)
		}
	}
}

// places are those at their ends, and each bit of one alone.
func places() []uint32 {
	out := []uint32{0, 3, 258, math.MaxUint32 - 1, math.MaxUint32, 0x12345678}
	for i := range 32 {
		out = append(out, 1<<i)
	}
	return out
}

// versions are those at their ends, and each bit of one alone.
func versions() []uint64 {
	out := []uint64{0, 3, 258, math.MaxUint32, math.MaxUint64 - 1, math.MaxUint64, 0x123456789abcdef0}
	for i := range 64 {
		out = append(out, 1<<i)
	}
	return out
}

func TestNonceLowestFirst(t *testing.T) {
	for _, p := range places() {
		for _, v := range versions() {
			want := binary.LittleEndian.AppendUint64(binary.LittleEndian.AppendUint32(nil, p), v)
			if got := Nonce(p, v); !bytes.Equal(got[:], want) {
				t.Errorf("Nonce(%d, %d) = %v, want %v", p, v, got, want)
			}
		}
	}
}

// P4.4

func TestCryptOfCryptIsWhatWas(t *testing.T) {
	for _, key := range testKeys() {
		for _, nonce := range testNonces() {
			for _, counter := range []uint32{0, 1, 77, math.MaxUint32 - 79} {
				for _, n := range lengths {
					one, e := Crypt(key, counter, nonce, some(n))
					two, f := Crypt(key, counter, nonce, one)
					if e != api.OK || f != api.OK || !bytes.Equal(two, some(n)) {
						t.Errorf("Crypt of Crypt of %d bytes from counter %d on: %d, %d, or other bytes", n, counter, int(e), int(f))
					}
				}
			}
		}
	}
}

func TestCryptByAnotherIsNotWhatWas(t *testing.T) {
	b := some(160)
	one, _ := Crypt(keyOf(1), 0, Nonce(1, 2), b)
	if bytes.Equal(one, b) {
		t.Error("Crypt leaves bytes as they are")
	}
	for _, c := range []struct {
		what    string
		key     api.Sum
		counter uint32
		nonce   [api.Nonce]byte
	}{
		{"key", keyOf(2), 0, Nonce(1, 2)},
		{"counter", keyOf(1), 1, Nonce(1, 2)},
		{"place", keyOf(1), 0, Nonce(2, 2)},
		{"version", keyOf(1), 0, Nonce(1, 3)},
	} {
		if two, e := Crypt(c.key, c.counter, c.nonce, one); e != api.OK || bytes.Equal(two, b) {
			t.Errorf("another %s opens what was enciphered, or tells %d", c.what, int(e))
		}
	}
}

func TestNoncesDiffer(t *testing.T) {
	type at struct {
		place   uint32
		version uint64
	}
	seen := map[[api.Nonce]byte]at{}
	for _, p := range places() {
		for _, v := range versions() {
			n := Nonce(p, v)
			if other, there := seen[n]; there {
				t.Errorf("place %d, version %d and place %d, version %d have one nonce", p, v, other.place, other.version)
			}
			seen[n] = at{p, v}
		}
	}
	if len(seen) != len(places())*len(versions()) {
		t.Errorf("%d nonces", len(seen))
	}
}
