package keys

import (
	"bytes"
	"crypto/hmac"
	"crypto/sha256"
	"encoding/hex"
	"slices"
	"strings"
	"testing"

	"reliquary/api"
)

// The calls as chapter 3 lists them: this doesn't build if a signature is another one.
var (
	_ func([]byte, []byte) api.Sum              = Mac
	_ func([]byte, string) (api.Sum, api.Errno) = Derive
	_ func([]byte) (Set, api.Errno)             = Of
	_                                           = struct{ Home, Journal, Check api.Sum }(Set{})
)

// keyLengths are numbers of bytes of keys, about the ends of parts.
var keyLengths = []int{0, 1, 2, 31, 32, 33, 62, 63, 64, 65, 66, 95, 96, 127, 128, 129, 200, 1000}

// messageLengths are numbers of bytes of messages: nothing, short ones, about the ends of parts, and long ones.
var messageLengths = []int{0, 1, 2, 3, 31, 32, 54, 55, 56, 57, 63, 64, 65, 119, 120, 127, 128, 129, 1000, 65537}

// some is so many bytes, without a rule that a part could hide in.
func some(n int) []byte {
	out := make([]byte, n)
	x := uint32(n) + 3
	for i := range out {
		x = x*1664525 + 1013904223
		out[i] = byte(x >> 24)
	}
	return out
}

// told is the code of a message as the promise's words tell it, by the library's digests.
func told(key, message []byte) api.Sum {
	if len(key) > 64 {
		s := sha256.Sum256(key)
		key = s[:]
	}
	var one, two []byte
	for i := range 64 {
		b := byte(0)
		if i < len(key) {
			b = key[i]
		}
		one, two = append(one, b^92), append(two, b^54)
	}
	behind := sha256.Sum256(append(two, message...))
	return sha256.Sum256(append(one, behind[:]...))
}

// P3.1

func TestMacAsThePromiseTellsIt(t *testing.T) {
	for _, k := range keyLengths {
		for _, m := range messageLengths {
			for _, key := range [][]byte{some(k), make([]byte, k), bytes.Repeat([]byte{255}, k), bytes.Repeat([]byte{92}, k), bytes.Repeat([]byte{54}, k)} {
				message := some(m)
				if got := Mac(key, message); got != told(key, message) {
					t.Errorf("Mac of a key of %d bytes (the first: %v) and a message of %d = %x", k, key[:min(k, 4)], m, got)
				}
			}
		}
	}
}

func TestMacOfEveryLengthOfKey(t *testing.T) {
	message := some(70)
	for n := range 200 {
		key := some(n)
		h := hmac.New(sha256.New, key)
		h.Write(message)
		if got := Mac(key, message); !bytes.Equal(got[:], h.Sum(nil)) {
			t.Errorf("Mac of a key of %d bytes = %x", n, got)
		}
	}
}

// known are codes that are told elsewhere.
var known = []struct {
	key, message []byte
	want         string
}{
	{nil, nil, "b613679a0814d9ec772f95d778c35fc5ff1697c493715653c6c712144292c5ad"},
	{[]byte("key"), []byte("The quick brown fox jumps over the lazy dog"), "f7bc83f430538424b13298e6aa6fb143ef4d59a14946175997479dbc2d1a3cd8"},
	{bytes.Repeat([]byte{11}, 20), []byte("Hi There"), "b0344c61d8db38535ca8afceaf0bf12b881dc200c9833da726e9376c2e32cff7"},
	{[]byte("Jefe"), []byte("what do ya want for nothing?"), "5bdcc146bf60754e6a042426089575c75a003f089d2739839dec58b964ec3843"},
	{bytes.Repeat([]byte{170}, 131), []byte("Test Using Larger Than Block-Size Key - Hash Key First"), "60e431591ee0b67f0d8a26aacbf5b77f8e0bc6213728c5140546040f0ee37f54"},
	{bytes.Repeat([]byte{170}, 131), []byte("This is a test using a larger than block-size key and a larger than block-size data. The key needs to be hashed before being used by the HMAC algorithm."), "9b09ffa71b942fcb27635fbcd5b0e944bfdc63644f0713938a7f51535c3a35e2"},
}

func TestMacOfKnownTexts(t *testing.T) {
	for _, c := range known {
		got := Mac(c.key, c.message)
		if text := hex.EncodeToString(got[:]); text != c.want {
			t.Errorf("Mac(%q, %q) = %s, want %s", c.key, c.message, text, c.want)
		}
	}
}

func TestMacOfALongKeyIsThatOfItsDigest(t *testing.T) {
	message := some(100)
	for _, n := range []int{65, 66, 127, 128, 129, 1000} {
		s := sha256.Sum256(some(n))
		if Mac(some(n), message) != Mac(s[:], message) {
			t.Errorf("a key of %d bytes isn't taken as its digest", n)
		}
		if Mac(some(n), message) == Mac(some(n)[:64], message) {
			t.Errorf("a key of %d bytes is taken as its first 64", n)
		}
	}
	// A key of just 64 bytes is taken as it is.
	s := sha256.Sum256(some(64))
	if Mac(some(64), message) == Mac(s[:], message) {
		t.Error("a key of 64 bytes is taken as its digest")
	}
}

func TestMacOfNothing(t *testing.T) {
	want := told(nil, nil)
	for _, l := range [][2][]byte{{nil, nil}, {{}, nil}, {nil, {}}, {{}, {}}, {some(9)[:0], some(9)[:0]}} {
		if got := Mac(l[0], l[1]); got != want {
			t.Errorf("Mac(%v, %v) = %x", l[0], l[1], got)
		}
	}
}

func TestMacTellsEveryByteApart(t *testing.T) {
	for _, k := range []int{1, 64, 65} {
		for _, m := range []int{1, 64, 65} {
			key, message := some(k), some(m)
			seen := map[api.Sum]int{Mac(key, message): -1}
			for _, b := range [][]byte{key, message} {
				for i := range b {
					b[i] ^= 1
					s := Mac(key, message)
					if _, there := seen[s]; there {
						t.Errorf("a key of %d and a message of %d bytes: another byte %d has a code that there was", k, m, i)
					}
					seen[s] = i
					b[i] ^= 1
				}
			}
		}
	}
}

func TestMacChangesNothing(t *testing.T) {
	for _, k := range keyLengths {
		for _, m := range []int{0, 1, 63, 64, 65, 1000} {
			// The memory goes on behind the ends, but those aren't bytes of the key and the message.
			key, message := some(k+200), some(m+200)
			keyBefore, messageBefore := slices.Clone(key), slices.Clone(message)
			if got := Mac(key[:k], message[:m]); got != told(keyBefore[:k:k], messageBefore[:m:m]) {
				t.Errorf("Mac of a key of %d and a message of %d bytes, with more behind = %x", k, m, got)
			}
			if !bytes.Equal(key, keyBefore) || !bytes.Equal(message, messageBefore) {
				t.Errorf("Mac of a key of %d and a message of %d bytes changed what it was given", k, m)
			}
		}
	}
}

func TestMacOfOneMemory(t *testing.T) {
	whole := some(300)
	before := slices.Clone(whole)
	for _, n := range []int{1, 32, 64, 65, 150} {
		if Mac(whole[:n], whole[:n]) != told(before[:n:n], before[:n:n]) {
			t.Errorf("a message that is its own key, of %d bytes", n)
		}
		if Mac(whole[:n], whole[n/2:]) != told(before[:n:n], before[n/2:]) {
			t.Errorf("a message that begins within its key of %d bytes", n)
		}
	}
	if !bytes.Equal(whole, before) {
		t.Error("Mac changed what it was given")
	}
}

func TestMacKeepsNothing(t *testing.T) {
	key, message := some(32), some(40)
	first := Mac(key, message)
	Mac(some(100), some(100))
	if Mac(key, message) != first {
		t.Error("the same key and message have another code")
	}
}

// P3.2: Derive.

// labels are texts that a label may be.
var labels = []string{
	"a", "home", "journal", "check", "Home", "home ", " ", "\x00", "\x01", "home\x01", "home\x00",
	strings.Repeat("l", 2), strings.Repeat("l", 63), strings.Repeat("l", 64), strings.Repeat("\x00", 64),
	// Counted are bytes, not signs; and they needn't be a text's.
	strings.Repeat("é", 32), "\xff", strings.Repeat("\xff", 64), "é",
}

func TestDerive(t *testing.T) {
	for _, master := range [][]byte{some(32), make([]byte, 32), bytes.Repeat([]byte{255}, 32)} {
		for _, label := range labels {
			want := told(master, append([]byte(label), 1))
			if got, e := Derive(master, label); got != want || e != api.OK {
				t.Errorf("Derive(%x, %q) = %x, %d, want %x", master, label, got, int(e), want)
			}
		}
	}
}

func TestDeriveIsACode(t *testing.T) {
	master := some(32)
	for _, label := range labels {
		if got, e := Derive(master, label); got != Mac(master, []byte(label+"\x01")) || e != api.OK {
			t.Errorf("Derive(.., %q) = %x, %d", label, got, int(e))
		}
		if got, _ := Derive(master, label); got == Mac(master, []byte(label)) {
			t.Errorf("Derive(.., %q) has no byte behind the label", label)
		}
	}
}

func TestDeriveTellsApart(t *testing.T) {
	seen := map[api.Sum]string{}
	for _, label := range labels {
		s, _ := Derive(some(32), label)
		if other, there := seen[s]; there {
			t.Errorf("the labels %q and %q have one key", label, other)
		}
		seen[s] = label
	}
	for i := range 32 {
		master := some(32)
		master[i] ^= 1
		s, _ := Derive(master, "a")
		if _, there := seen[s]; there {
			t.Errorf("a master key with another byte %d has a key that there was", i)
		}
		seen[s] = "another master key"
	}
}

// refused tells an error unless no key is derived.
func refused(t *testing.T, master []byte, label string) {
	t.Helper()
	if got, e := Derive(master, label); got != (api.Sum{}) || e != api.ErrArg {
		t.Errorf("Derive of %d bytes and %q = %x, %d, want noughts, %d", len(master), label, got, int(e), int(api.ErrArg))
	}
}

func TestDeriveOfAnotherMaster(t *testing.T) {
	for n := range 200 {
		if n == 32 {
			continue
		}
		for _, label := range []string{"a", "home", strings.Repeat("l", 64), "", strings.Repeat("l", 65)} {
			refused(t, some(n), label)
		}
	}
	refused(t, nil, "a")
	refused(t, []byte{}, "a")
	// The memory goes on behind the end, or ahead of it, but those aren't bytes of the master key.
	refused(t, some(64)[:31], "a")
	refused(t, some(64)[31:], "a")
	refused(t, some(1<<20), "a")
}

func TestDeriveOfAnotherLabel(t *testing.T) {
	master := some(32)
	refused(t, master, "")
	for n := 65; n < 300; n++ {
		refused(t, master, strings.Repeat("l", n))
	}
	// 64 signs at most, but more than 64 bytes.
	refused(t, master, strings.Repeat("l", 63)+"é")
	refused(t, master, strings.Repeat("é", 33))
	refused(t, master, strings.Repeat("é", 64))
	refused(t, master, strings.Repeat("l", 1<<20))
	for n := 1; n <= 64; n++ {
		if _, e := Derive(master, strings.Repeat("l", n)); e != api.OK {
			t.Errorf("Derive of a label of %d bytes: %d", n, int(e))
		}
	}
}

func TestDeriveChangesNothing(t *testing.T) {
	whole := some(100)
	before := slices.Clone(whole)
	first, e := Derive(whole[:32], "home")
	if e != api.OK || first != told(before[:32:32], []byte("home\x01")) {
		t.Errorf("Derive with more behind the master key = %x, %d", first, int(e))
	}
	Derive(whole[:32], "")
	Derive(whole[:31], "home")
	if !bytes.Equal(whole, before) {
		t.Error("Derive changed what it was given")
	}
	// Nothing is kept of the master key, or of an earlier call.
	Derive(some(32), "journal")
	if again, _ := Derive(whole[:32], "home"); again != first {
		t.Error("the same master key and label have another key")
	}
}

// P3.2: Of.

func TestOf(t *testing.T) {
	for _, master := range [][]byte{some(32), make([]byte, 32), bytes.Repeat([]byte{255}, 32), some(64)[32:]} {
		before := slices.Clone(master)
		s, e := Of(master)
		if e != api.OK {
			t.Errorf("Of(%x): %d", master, int(e))
		}
		for _, c := range []struct {
			label string
			got   api.Sum
		}{
			{"home", s.Home},
			{"journal", s.Journal},
			{"check", s.Check},
		} {
			if want, e := Derive(master, c.label); c.got != want || e != api.OK {
				t.Errorf("Of(%x): the key of %s is %x, want %x, %d", master, c.label, c.got, want, int(e))
			}
			if c.got != told(before, []byte(c.label+"\x01")) {
				t.Errorf("Of(%x): the key of %s is %x", master, c.label, c.got)
			}
		}
		if !bytes.Equal(master, before) {
			t.Errorf("Of changed %x to %x", before, master)
		}
	}
}

func TestOfAnotherMaster(t *testing.T) {
	for n := range 200 {
		if n == 32 {
			continue
		}
		if s, e := Of(some(n)); s != (Set{}) || e != api.ErrArg {
			t.Errorf("Of %d bytes = %x, %d, want noughts, %d", n, s, int(e), int(api.ErrArg))
		}
	}
	for _, master := range [][]byte{nil, {}, some(64)[:31], some(64)[:33], some(1 << 20)} {
		if s, e := Of(master); s != (Set{}) || e != api.ErrArg {
			t.Errorf("Of %d bytes = %x, %d, want noughts, %d", len(master), s, int(e), int(api.ErrArg))
		}
	}
}

func TestOfChangesNothing(t *testing.T) {
	whole := some(100)
	before := slices.Clone(whole)
	first, _ := Of(whole[:32])
	Of(whole[:31])
	Of(whole[:33])
	if !bytes.Equal(whole, before) {
		t.Error("Of changed what it was given")
	}
	Of(some(64)[32:])
	if again, e := Of(whole[:32]); again != first || e != api.OK {
		t.Error("the same master key has other keys")
	}
}

// P3.3

func TestNoughtsBehindAShortKeyChangeNothing(t *testing.T) {
	for _, m := range []int{0, 1, 64, 65, 200} {
		message := some(m)
		for n := range 65 {
			want := Mac(some(n), message)
			for more := range 64 - n + 1 {
				if Mac(append(some(n), make([]byte, more)...), message) != want {
					t.Errorf("a key of %d bytes with %d noughts behind it, and a message of %d", n, more, m)
				}
			}
		}
	}
}

func TestNoughtsOfALongKeyCount(t *testing.T) {
	message := some(20)
	for _, n := range []int{0, 1, 32, 63, 64, 65} {
		// Above 64 bytes it is the digest that counts, and noughts change that.
		long := append(some(n), make([]byte, 65-min(n, 64))...)
		if Mac(long, message) == Mac(some(n), message) {
			t.Errorf("noughts behind a key of %d bytes, up to %d, change nothing", n, len(long))
		}
	}
	// Behind the digest that is taken for a long key they change nothing.
	s := sha256.Sum256(some(65))
	if Mac(append(s[:], make([]byte, 32)...), message) != Mac(some(65), message) {
		t.Error("a digest with noughts behind it isn't taken as the key that it is the digest of")
	}
	// Ahead of a key they do change it.
	if Mac(append([]byte{0}, some(20)...), message) == Mac(some(20), message) {
		t.Error("a nought ahead of a key changes nothing")
	}
}
