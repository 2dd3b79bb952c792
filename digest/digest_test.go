package digest

import (
	"bytes"
	"crypto/sha256"
	"encoding/hex"
	"slices"
	"strings"
	"testing"

	"reliquary/api"
)

// The calls as chapter 2 lists them: this doesn't build if a signature is another one.
var (
	_ func([]byte) api.Sum              = Of
	_ func(...[]byte) api.Sum           = Pieces
	_ func(api.Sum) string              = Hex
	_ func(string) (api.Sum, api.Errno) = Read
)

// nothing is the digest of nothing, as the chapter gives it.
const nothing = "e3b0c44298fc1c149afbf4c8996fb92427ae41e4649b934ca495991b7852b855"

// known are digests that are told elsewhere.
var known = []struct{ text, want string }{
	{"", nothing},
	{"abc", "ba7816bf8f01cfea414140de5dae2223b00361a396177a9cb410ff61f20015ad"},
	{"abcdbcdecdefdefgefghfghighijhijkijkljklmklmnlmnomnopnopq", "248d6a61d20638b8e5c026930c3e6039a33ce45964ff2167f6ecedd419db06c1"},
	{"abcdefghbcdefghicdefghijdefghijkefghijklfghijklmghijklmnhijklmnoijklmnopjklmnopqklmnopqrlmnopqrsmnopqrstnopqrstu", "cf5b16a778af8380036ce59e7b0492370b249b11e8f07a51afac45037afee9d1"},
	{strings.Repeat("a", 1000000), "cdc76e5c9914fb9281a1c7e284d73e67f1809a48a497200e046d39ccc7112cd0"},
	{strings.Repeat("a", 55), "9f4390f8d30c2dd92ec9f095b65e2b9ae9b0a925a5258e241c9f1e910f734318"},
	{strings.Repeat("a", 56), "b35439a4ac6f0948b6d6f9e3c6af0f5f590ce20f1bde7090ef7970686ec6738a"},
	{strings.Repeat("a", 64), "ffe054fe7ae0cb6dc65c3af9b61d5209f439851db43d0ba5997337df154668eb"},
}

// ends are numbers of bytes about the ends of parts.
var ends = []int{0, 1, 2, 3, 4, 54, 55, 56, 57, 59, 60, 61, 62, 63, 64, 65, 66, 118, 119, 120, 121, 126, 127, 128, 129, 183, 184, 191, 192, 193, 247, 248, 255, 256, 257, 1000, 1023, 1024, 1025, 8191, 8192, 8193, 65535, 65536, 65537}

// some is so many bytes, without a rule that a part could hide in.
func some(n int) []byte {
	out := make([]byte, n)
	x := uint32(n) + 1
	for i := range out {
		x = x*1664525 + 1013904223
		out[i] = byte(x >> 24)
	}
	return out
}

// P2.1

func TestOfNothing(t *testing.T) {
	want, err := hex.DecodeString(nothing)
	if err != nil {
		t.Fatal(err)
	}
	for _, s := range []api.Sum{Of(nil), Of([]byte{}), Of(make([]byte, 5)[:0])} {
		if !bytes.Equal(s[:], want) {
			t.Errorf("the digest of nothing is %x", s)
		}
	}
}

func TestOfKnownTexts(t *testing.T) {
	for _, c := range known {
		s := Of([]byte(c.text))
		if got := hex.EncodeToString(s[:]); got != c.want {
			t.Errorf("Of %d bytes = %s, want %s", len(c.text), got, c.want)
		}
	}
}

func TestOfEveryNumberOfBytes(t *testing.T) {
	for n := range 400 {
		if b := some(n); Of(b) != sha256.Sum256(b) {
			t.Errorf("Of %d bytes = %x", n, Of(b))
		}
	}
	for _, n := range ends {
		for _, b := range [][]byte{some(n), make([]byte, n), bytes.Repeat([]byte{128}, n), bytes.Repeat([]byte{255}, n)} {
			if Of(b) != sha256.Sum256(b) {
				t.Errorf("Of %d bytes (the first: %v) = %x", n, b[:min(n, 4)], Of(b))
			}
		}
	}
}

func TestOfTellsEveryBitApart(t *testing.T) {
	for _, n := range []int{1, 55, 56, 63, 64, 65, 128} {
		b := make([]byte, n)
		for i := range 8 * n {
			b[i/8] ^= 1 << (i % 8)
			if Of(b) != sha256.Sum256(b) {
				t.Errorf("Of %d bytes with the bit %d = %x", n, i, Of(b))
			}
			b[i/8] ^= 1 << (i % 8)
		}
	}
}

// What is told of how many bits there are goes over four bytes here.
func TestOfManyBits(t *testing.T) {
	if testing.Short() {
		t.Skip("it takes some seconds")
	}
	b := some(1 << 24)
	l := make([][]byte, 33)
	h := sha256.New()
	for i := range l {
		l[i] = b
		if i == len(l)-1 {
			l[i] = b[:3]
		}
		h.Write(l[i])
	}
	if got := Pieces(l...); !bytes.Equal(got[:], h.Sum(nil)) {
		t.Errorf("Pieces of 2^29 + 3 bytes = %x", got)
	}
}

func TestOfChangesNothing(t *testing.T) {
	for _, n := range ends {
		whole := some(n + 200)
		before := slices.Clone(whole)
		// The memory goes on behind the end, but those aren't bytes of b.
		if Of(whole[:n]) != sha256.Sum256(before[:n]) {
			t.Errorf("Of %d bytes with more behind = %x", n, Of(whole[:n]))
		}
		if !bytes.Equal(whole, before) {
			t.Errorf("Of %d bytes changed what it was given", n)
		}
	}
}

func TestOfKeepsNothing(t *testing.T) {
	b := some(100)
	before := Of(b)
	b[0]++
	if Of(b) == before {
		t.Error("another first byte has the same digest")
	}
	b[0]--
	if Of(b) != before {
		t.Error("the same bytes have another digest")
	}
}

// P2.2: Pieces.

func TestPiecesOfNone(t *testing.T) {
	want := Of(nil)
	for _, l := range [][][]byte{nil, {}, {nil}, {{}}, {nil, {}, nil}, make([][]byte, 70)} {
		if got := Pieces(l...); got != want {
			t.Errorf("Pieces of %d empty pieces = %x", len(l), got)
		}
	}
	if got := Pieces(); got != want {
		t.Errorf("Pieces() = %x", got)
	}
}

func TestPiecesAreInTheirOrder(t *testing.T) {
	a, b := []byte("ab"), []byte("c")
	if Pieces(a, b) != Of([]byte("abc")) || Pieces(b, a) != Of([]byte("cab")) || Pieces(a, b) == Pieces(b, a) {
		t.Error("pieces are not told in their order")
	}
	if Pieces(a) != Of(a) || Pieces(a, a, a) != Of([]byte("ababab")) {
		t.Error("one piece, or one piece thrice")
	}
}

func TestPiecesWithEmptyOnesBetween(t *testing.T) {
	want := Of([]byte("abc"))
	for _, l := range [][][]byte{
		{[]byte("abc"), nil},
		{nil, []byte("abc")},
		{{}, []byte("a"), nil, {}, []byte("bc"), {}},
		{[]byte("a"), []byte("b"), []byte("c")},
	} {
		if got := Pieces(l...); got != want {
			t.Errorf("Pieces(%q) = %x", l, got)
		}
	}
}

func TestPiecesChangesNothing(t *testing.T) {
	whole := some(300)
	before := slices.Clone(whole)
	l := [][]byte{whole[:63], whole[63:66], nil, whole[66:130], whole[130:131]}
	kept := slices.Clone(l)
	if Pieces(l...) != sha256.Sum256(before[:131]) {
		t.Error("pieces of one memory have another digest")
	}
	if !bytes.Equal(whole, before) {
		t.Error("Pieces changed the bytes")
	}
	for i := range l {
		if len(l[i]) != len(kept[i]) || len(l[i]) > 0 && &l[i][0] != &kept[i][0] {
			t.Errorf("Pieces changed its list at %d", i)
		}
	}
}

// P2.2: Hex.

func TestHex(t *testing.T) {
	if got := Hex(Of(nil)); got != nothing {
		t.Errorf("Hex of the digest of nothing = %s", got)
	}
	if got := Hex(api.Sum{}); got != strings.Repeat("0", 64) {
		t.Errorf("Hex of noughts = %s", got)
	}
	s := api.Sum{0x01, 0x10, 0x0f, 0xf0, 0x9a, 0xa9}
	s[31] = 0xfe
	if got := Hex(s); got != "01100ff09aa9"+strings.Repeat("0", 50)+"fe" {
		t.Errorf("Hex = %s", got)
	}
}

func TestHexOfEveryByte(t *testing.T) {
	for b := range 256 {
		for _, at := range []int{0, 1, 15, 30, 31} {
			var s api.Sum
			s[at] = byte(b)
			if got := Hex(s); got != hex.EncodeToString(s[:]) {
				t.Errorf("Hex with the byte %d at %d = %s", b, at, got)
			}
		}
	}
}

// P2.2: Read.

func TestReadOfWhatHexTold(t *testing.T) {
	for n := range 200 {
		s := Of(some(n))
		if got, e := Read(Hex(s)); got != s || e != api.OK {
			t.Errorf("Read(%s) = %x, %d", Hex(s), got, int(e))
		}
	}
	for b := range 256 {
		for at := range api.Digest {
			var s api.Sum
			s[at] = byte(b)
			if got, e := Read(hex.EncodeToString(s[:])); got != s || e != api.OK {
				t.Errorf("Read of the byte %d at %d = %x, %d", b, at, got, int(e))
			}
		}
	}
	if got, e := Read(strings.Repeat("0", 64)); got != (api.Sum{}) || e != api.OK {
		t.Errorf("Read of noughts = %x, %d", got, int(e))
	}
}

// refused tells an error unless a text is no digest.
func refused(t *testing.T, s string) {
	t.Helper()
	if got, e := Read(s); got != (api.Sum{}) || e != api.ErrForm {
		t.Errorf("Read(%q) = %x, %d, want noughts, %d", s, got, int(e), int(api.ErrForm))
	}
}

func TestReadOfAnotherLength(t *testing.T) {
	for n := range 200 {
		if n != 64 {
			refused(t, strings.Repeat("a", n))
		}
	}
	refused(t, nothing[:63])
	refused(t, nothing+"0")
	refused(t, nothing+"\n")
	refused(t, nothing+" ")
	refused(t, " "+nothing)
	refused(t, "0x"+nothing)
	refused(t, nothing+nothing)
	refused(t, strings.Repeat("0", 1<<20))
}

func TestReadOfNoDigit(t *testing.T) {
	for c := range 256 {
		if c >= '0' && c <= '9' || c >= 'a' && c <= 'f' {
			continue
		}
		for _, at := range []int{0, 1, 2, 31, 32, 33, 61, 62, 63} {
			b := []byte(nothing)
			b[at] = byte(c)
			refused(t, string(b))
		}
	}
	for at := range 64 {
		b := []byte(nothing)
		for _, c := range []byte{'g', 'A', 'F', '/', ':', '`', '@', '-', 0, 255} {
			b[at] = c
			refused(t, string(b))
		}
	}
	refused(t, strings.ToUpper(nothing))
	// 64 signs, but more than 64 bytes; and 64 bytes, but fewer signs.
	refused(t, nothing[:63]+"é")
	refused(t, nothing[:62]+"é")
	refused(t, nothing[:61]+"０")
}

// P2.3

func TestOneDigestHoweverCut(t *testing.T) {
	for _, n := range []int{1, 2, 55, 56, 57, 63, 64, 65, 119, 120, 127, 128, 129, 200} {
		b := some(n)
		want := sha256.Sum256(b)
		for i := range n + 1 {
			if Pieces(b[:i], b[i:]) != want {
				t.Errorf("%d bytes cut at %d", n, i)
			}
			for j := i; j <= n; j += 7 {
				if Pieces(b[:i], b[i:j], nil, b[j:]) != want {
					t.Errorf("%d bytes cut at %d and %d", n, i, j)
				}
			}
		}
	}
}

func TestOneDigestInPiecesOfOneSize(t *testing.T) {
	b := some(700)
	want := sha256.Sum256(b)
	for size := 1; size <= len(b)+1; size++ {
		if Pieces(slices.Collect(slices.Chunk(b, size))...) != want {
			t.Errorf("pieces of %d bytes", size)
		}
	}
}
