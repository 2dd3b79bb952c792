package tree

import (
	"bytes"
	"crypto/sha256"
	"encoding/binary"
	"encoding/hex"
	"math"
	"slices"
	"testing"

	"reliquary/api"
)

// The calls and types as chapter 10 lists them: this doesn't build if one is another.
var (
	_ func(uint64, int) (uint64, api.Errno) = Stamp
	_ func(uint64) uint64                   = Version
	_ func(uint64) int                      = Side
	_ func(Node) []byte                     = Put
	_ func([]byte) (Node, api.Errno)        = Get
	_ func(int, uint32, []byte) api.Sum     = Digest
	_ func(Ref, int, uint32, []byte) bool   = Check
	_ [4]Ref                                = [4]Ref(Node{})
	_                                       = struct {
		Sum   api.Sum
		Stamp uint64
	}(Ref{})
)

// top is the greatest number.
const top = math.MaxUint64

// versions are those that may be, at the ends, and some between.
var versions = []uint64{1, 2, 3, 4, 255, 256, 1<<31 - 1, 1 << 31, 1<<32 - 1, 1 << 32, 1<<62 - 1, 1 << 62, 1<<62 + 1, 1<<63 - 2, 1<<63 - 1}

// wrongVersions are those that may not be.
var wrongVersions = []uint64{0, 1 << 63, 1<<63 + 1, 1<<63 + 3, 3 << 62, top - 1, top}

// wrongSides are numbers that are no side, some of which have a side's lowest bits.
var wrongSides = []int{
	-1, -2, -3, -255, -256, -1 << 31, -1 << 32, 1 - 1<<32, math.MinInt, math.MinInt + 1,
	2, 3, 4, 255, 256, 257, 1 << 31, 1 << 32, 1<<32 + 1, math.MaxInt - 1, math.MaxInt,
}

// stamps are any: odd and even, small and great.
var stamps = []uint64{0, 1, 2, 3, 4, 5, 6, 7, 255, 256, 1<<32 - 1, 1 << 32, 1<<32 + 1, 1<<63 - 1, 1 << 63, 1<<63 + 1, top - 1, top}

// levels are those that a tree has, those of which only the lowest bits count, and those below nought.
var levels = []int{
	0, 1, 2, 5, 127, 128, 254, 255, 256, 257, 511, 512, 65535, 65536, 1<<31 - 1, 1 << 31, 1 << 32, 1<<32 + 1, math.MaxInt - 1, math.MaxInt,
	-1, -2, -127, -128, -129, -255, -256, -257, -1 << 31, -1 << 32, math.MinInt, math.MinInt + 1,
}

// places are those at the ends, and some between, each byte of one another one.
var places = []uint32{0, 1, 2, 255, 256, 4095, 4096, 65536, 0x04030201, 0x01020304, 1<<31 - 1, 1 << 31, math.MaxUint32 - 1, math.MaxUint32}

// some is so many bytes without a rule that a fault could hide in; each seed has others.
func some(seed, n int) []byte {
	out := make([]byte, n)
	x := uint32(seed)*2654435761 + 13
	for i := range out {
		x = x*1664525 + 1013904223
		out[i] = byte(x >> 24)
	}
	return out
}

// slots are rows of none, one and many bytes.
func slots() [][]byte {
	return [][]byte{
		nil, {0}, {3}, {255}, {0, 0}, some(1, 50), some(2, 51), some(3, 58), some(4, 59), some(5, 160), some(6, 192),
		make([]byte, 192), bytes.Repeat([]byte{255}, 192), some(7, 5000),
	}
}

// counted is the bytes 1 to 160: no two are the same, and none is 0.
func counted() []byte {
	out := make([]byte, 160)
	for i := range out {
		out[i] = byte(i + 1)
	}
	return out
}

// countedNode is the node of these, written out by hand.
func countedNode() Node {
	return Node{
		{Sum: api.Sum{
			1, 2, 3, 4, 5, 6, 7, 8, 9, 10, 11, 12, 13, 14, 15, 16,
			17, 18, 19, 20, 21, 22, 23, 24, 25, 26, 27, 28, 29, 30, 31, 32,
		}, Stamp: 0x2827262524232221},
		{Sum: api.Sum{
			41, 42, 43, 44, 45, 46, 47, 48, 49, 50, 51, 52, 53, 54, 55, 56,
			57, 58, 59, 60, 61, 62, 63, 64, 65, 66, 67, 68, 69, 70, 71, 72,
		}, Stamp: 0x504f4e4d4c4b4a49},
		{Sum: api.Sum{
			81, 82, 83, 84, 85, 86, 87, 88, 89, 90, 91, 92, 93, 94, 95, 96,
			97, 98, 99, 100, 101, 102, 103, 104, 105, 106, 107, 108, 109, 110, 111, 112,
		}, Stamp: 0x7877767574737271},
		{Sum: api.Sum{
			121, 122, 123, 124, 125, 126, 127, 128, 129, 130, 131, 132, 133, 134, 135, 136,
			137, 138, 139, 140, 141, 142, 143, 144, 145, 146, 147, 148, 149, 150, 151, 152,
		}, Stamp: 0xa09f9e9d9c9b9a99},
	}
}

// someNode is a node whose refs differ; each seed has another one.
func someNode(seed int) Node {
	var n Node
	for i := range n {
		n[i] = Ref{Sum: api.Sum(some(10*seed+i, 32)), Stamp: binary.LittleEndian.Uint64(some(10*seed+i+5000, 8))}
	}
	return n
}

// toldBytes are a node's bytes as the promise's words tell them.
func toldBytes(n Node) []byte {
	var out []byte
	for i := range 4 {
		out = append(out, n[i].Sum[:]...)
		out = binary.LittleEndian.AppendUint64(out, n[i].Stamp)
	}
	return out
}

// toldSum is the digest as the promise's words tell it, by a library's SHA-256.
func toldSum(level int, place uint32, slot []byte) api.Sum {
	all := []byte{byte((level%256 + 256) % 256)}
	all = binary.LittleEndian.AppendUint32(all, place)
	return sha256.Sum256(append(all, slot...))
}

// must holds an error against the one that is asked for.
func must(t *testing.T, got, want api.Errno) {
	t.Helper()
	if got != want {
		t.Fatalf("error %d, not %d", got, want)
	}
}

// noStamp holds that Stamp tells ErrArg, and nothing beside it.
func noStamp(t *testing.T, version uint64, side int) {
	t.Helper()
	if s, e := Stamp(version, side); s != 0 || e != api.ErrArg {
		t.Errorf("Stamp of %d, %d: %d, error %d", version, side, s, e)
	}
}

// noNode holds that Get tells ErrForm, and nothing beside it.
func noNode(t *testing.T, b []byte) {
	t.Helper()
	if n, e := Get(b); n != (Node{}) || e != api.ErrForm {
		t.Errorf("Get of %d bytes: %v, error %d", len(b), n, e)
	}
}

// P10.1

func TestKnownStamps(t *testing.T) {
	for _, x := range []struct {
		version uint64
		side    int
		want    uint64
	}{
		{1, 0, 2}, {1, 1, 3}, {2, 0, 4}, {2, 1, 5}, {3, 0, 6}, {3, 1, 7},
		{1 << 62, 0, 0x8000000000000000}, {1 << 62, 1, 0x8000000000000001},
		{1<<63 - 1, 0, 0xfffffffffffffffe}, {1<<63 - 1, 1, 0xffffffffffffffff},
	} {
		if s, e := Stamp(x.version, x.side); s != x.want || e != api.OK {
			t.Errorf("Stamp of %d, %d: %d, error %d, not %d", x.version, x.side, s, e, x.want)
		}
	}
}

func TestStampRefusesVersions(t *testing.T) {
	for _, version := range wrongVersions {
		noStamp(t, version, 0)
		noStamp(t, version, 1)
	}
}

func TestStampRefusesSides(t *testing.T) {
	for _, side := range wrongSides {
		for _, version := range slices.Concat(versions, wrongVersions) {
			noStamp(t, version, side)
		}
	}
}

func TestKnownVersionsAndSides(t *testing.T) {
	for _, x := range []struct {
		stamp, version uint64
		side           int
	}{
		{0, 0, 0}, {1, 0, 1}, {2, 1, 0}, {3, 1, 1}, {4, 2, 0}, {5, 2, 1}, {6, 3, 0}, {7, 3, 1},
		{1<<32 - 1, 1<<31 - 1, 1}, {1 << 32, 1 << 31, 0}, {1<<63 - 1, 1<<62 - 1, 1},
		{1 << 63, 1 << 62, 0}, {1<<63 + 1, 1 << 62, 1}, {top - 1, 1<<63 - 1, 0}, {top, 1<<63 - 1, 1},
	} {
		if v, s := Version(x.stamp), Side(x.stamp); v != x.version || s != x.side {
			t.Errorf("of %d: version %d, side %d, not %d, %d", x.stamp, v, s, x.version, x.side)
		}
	}
}

func TestVersionAndSideOfAStamp(t *testing.T) {
	for _, version := range versions {
		for side := range 2 {
			s, e := Stamp(version, side)
			must(t, e, api.OK)
			if Version(s) != version || Side(s) != side {
				t.Errorf("Stamp of %d, %d: version %d, side %d", version, side, Version(s), Side(s))
			}
		}
	}
}

func TestStampOfAVersionAndSide(t *testing.T) {
	all := slices.Clone(stamps)
	for i := range 64 {
		all = append(all, 1<<i, 1<<i+1, top>>i)
	}
	for _, stamp := range all {
		s, e := Stamp(Version(stamp), Side(stamp))
		if stamp < 2 {
			// There is no version 0.
			must(t, e, api.ErrArg)
			continue
		}
		must(t, e, api.OK)
		if s != stamp {
			t.Errorf("Stamp of the version and side of %d: %d", stamp, s)
		}
	}
}

// P10.2: Put.

func TestPutOfANodeWhoseBytesDiffer(t *testing.T) {
	if got := Put(countedNode()); !bytes.Equal(got, counted()) {
		t.Errorf("Put: %v, not %v", got, counted())
	}
}

func TestPutOfNoughts(t *testing.T) {
	if got := Put(Node{}); !bytes.Equal(got, make([]byte, 160)) {
		t.Errorf("Put: %v", got)
	}
}

func TestPutOfTheGreatest(t *testing.T) {
	r := Ref{Sum: api.Sum(bytes.Repeat([]byte{255}, 32)), Stamp: top}
	if got := Put(Node{r, r, r, r}); !bytes.Equal(got, bytes.Repeat([]byte{255}, 160)) {
		t.Errorf("Put: %v", got)
	}
}

func TestPutLaysEachByteAtItsPlace(t *testing.T) {
	for i := range 4 {
		for k := range 40 {
			var n Node
			if k < 32 {
				n[i].Sum[k] = 0xa5
			} else {
				n[i].Stamp = 0xa5 << (8 * (k - 32))
			}
			want := make([]byte, 160)
			want[40*i+k] = 0xa5
			if got := Put(n); !bytes.Equal(got, want) {
				t.Errorf("ref %d, byte %d: %v", i, k, got)
			}
		}
	}
}

func TestPutAsThePromiseTellsIt(t *testing.T) {
	for seed := range 200 {
		n := someNode(seed)
		if got, want := Put(n), toldBytes(n); len(got) != 160 || !bytes.Equal(got, want) {
			t.Fatalf("Put of %v: %v, not %v", n, got, want)
		}
	}
	for _, stamp := range stamps {
		for i := range 4 {
			n := someNode(i)
			n[i].Stamp = stamp
			if got, want := Put(n), toldBytes(n); !bytes.Equal(got, want) {
				t.Errorf("Put of %v: %v, not %v", n, got, want)
			}
		}
	}
}

// P10.2: Get.

func TestGetOfBytesThatDiffer(t *testing.T) {
	n, e := Get(counted())
	must(t, e, api.OK)
	if n != countedNode() {
		t.Errorf("Get: %v, not %v", n, countedNode())
	}
}

func TestGetOfNoughts(t *testing.T) {
	n, e := Get(make([]byte, 160))
	must(t, e, api.OK)
	if n != (Node{}) {
		t.Errorf("Get: %v", n)
	}
}

func TestGetFindsEachByteAtItsPlace(t *testing.T) {
	for at := range 160 {
		b := make([]byte, 160)
		b[at] = 0xa5
		var want Node
		if k := at % 40; k < 32 {
			want[at/40].Sum[k] = 0xa5
		} else {
			want[at/40].Stamp = 0xa5 << (8 * (k - 32))
		}
		n, e := Get(b)
		must(t, e, api.OK)
		if n != want {
			t.Errorf("byte %d: %v, not %v", at, n, want)
		}
	}
}

func TestGetRefusesOtherLengths(t *testing.T) {
	long := some(1, 500)
	for n := range len(long) + 1 {
		if n == 160 {
			continue
		}
		// The capacity goes on behind the end: only the length may count.
		noNode(t, long[:n])
		noNode(t, slices.Clone(long[:n]))
	}
	noNode(t, nil)
	noNode(t, []byte{})
	// As many as a slot, a record, or a node of three or five refs have.
	for _, n := range []int{192, 176, 120, 200, 1<<16 + 160} {
		noNode(t, make([]byte, n))
	}
}

func TestGetWithinALongerRow(t *testing.T) {
	long := slices.Concat(some(1, 70), counted(), some(2, 70))
	n, e := Get(long[70:230])
	must(t, e, api.OK)
	if n != countedNode() {
		t.Errorf("Get: %v", n)
	}
}

// P10.3: Digest. These were reckoned elsewhere.

func TestKnownDigests(t *testing.T) {
	row := make([]byte, 192)
	for i := range row {
		row[i] = byte(i)
	}
	for _, x := range []struct {
		level int
		place uint32
		slot  []byte
		want  string
	}{
		{0, 0, nil, "8855508aade16ec573d21e6a485dfd0a7624085c1a14b5ecdd6485de0c6839a4"},
		{1, 2, []byte{3}, "e5db9746f01512abbc8cd753d49b18688febcca12583568fa81c7e1e4fbbb6b8"},
		{257, 2, []byte{3}, "e5db9746f01512abbc8cd753d49b18688febcca12583568fa81c7e1e4fbbb6b8"},
		{-255, 2, []byte{3}, "e5db9746f01512abbc8cd753d49b18688febcca12583568fa81c7e1e4fbbb6b8"},
		{255, math.MaxUint32, []byte("abc"), "b99fd0efedf23b4ce943da55ddb157b77e91d9d9658e1b786cf77ad52e0be4a3"},
		{-1, math.MaxUint32, []byte("abc"), "b99fd0efedf23b4ce943da55ddb157b77e91d9d9658e1b786cf77ad52e0be4a3"},
		{-1, 0x04030201, row, "9c785e0a808aceed95543d2b00f3110503a4223271df3f7be5f3515720ca57d2"},
	} {
		if s := Digest(x.level, x.place, x.slot); hex.EncodeToString(s[:]) != x.want {
			t.Errorf("Digest of %d, %d, %x: %x, not %s", x.level, x.place, x.slot, s, x.want)
		}
	}
}

func TestDigestAsThePromiseTellsIt(t *testing.T) {
	for _, slot := range slots() {
		for _, level := range levels {
			for _, place := range places {
				if got, want := Digest(level, place, slot), toldSum(level, place, slot); got != want {
					t.Fatalf("Digest of %d, %d, %x: %x, not %x", level, place, slot, got, want)
				}
			}
		}
	}
}

func TestDigestOfAllLowLevels(t *testing.T) {
	seen := map[api.Sum]int{}
	for level := range 256 {
		s := Digest(level, 5, some(1, 192))
		if other, ok := seen[s]; ok {
			t.Fatalf("levels %d and %d have one digest", other, level)
		}
		seen[s] = level
		for _, also := range []int{level + 256, level + 512, level - 256, level - 1024, level + 1<<32, level - 1<<32, level + math.MinInt} {
			if Digest(also, 5, some(1, 192)) != s {
				t.Errorf("levels %d and %d have two digests", level, also)
			}
		}
	}
}

func TestDigestOfSlotsOfAllLengths(t *testing.T) {
	long := some(1, 300)
	for n := range len(long) + 1 {
		if got, want := Digest(3, 9, long[:n]), toldSum(3, 9, long[:n]); got != want {
			t.Fatalf("Digest of %d bytes: %x, not %x", n, got, want)
		}
	}
	if Digest(3, 9, nil) != Digest(3, 9, []byte{}) {
		t.Error("nil and an empty slot have two digests")
	}
}

func TestOtherBytesHaveOtherDigests(t *testing.T) {
	slot := some(1, 192)
	seen := map[api.Sum]bool{Digest(1, 5, slot): true}
	for i := range 192 * 8 {
		other := slices.Clone(slot)
		other[i/8] ^= 1 << (i % 8)
		s := Digest(1, 5, other)
		if seen[s] {
			t.Fatalf("bit %d of the slot isn't seen", i)
		}
		seen[s] = true
	}
	for i := range 32 {
		s := Digest(1, 5^1<<i, slot)
		if seen[s] {
			t.Fatalf("bit %d of the place isn't seen", i)
		}
		seen[s] = true
	}
}

// P10.3: Check.

func TestCheckByTheRightSum(t *testing.T) {
	for _, slot := range slots() {
		for _, level := range levels {
			for i, place := range places {
				r := Ref{Sum: toldSum(level, place, slot), Stamp: stamps[i%len(stamps)]}
				if !Check(r, level, place, slot) {
					t.Fatalf("Check at %d, %d of %x says no", level, place, slot)
				}
			}
		}
	}
}

func TestCheckByASumThatPartsInABit(t *testing.T) {
	for _, slot := range [][]byte{nil, {3}, some(1, 192)} {
		sum := toldSum(1, 2, slot)
		for i := range 256 {
			other := sum
			other[i/8] ^= 1 << (i % 8)
			if Check(Ref{Sum: other, Stamp: 7}, 1, 2, slot) {
				t.Errorf("Check doesn't see bit %d", i)
			}
		}
		// Two bytes that cover each other.
		sum[0] ^= 1
		sum[31] ^= 1
		if Check(Ref{Sum: sum}, 1, 2, slot) {
			t.Error("Check doesn't see two bits")
		}
	}
}

func TestCheckByOtherSums(t *testing.T) {
	slot := some(1, 192)
	ones := api.Sum(bytes.Repeat([]byte{255}, 32))
	for _, sum := range []api.Sum{{}, ones, sha256.Sum256(slot), sha256.Sum256(nil)} {
		for _, stamp := range stamps {
			if Check(Ref{Sum: sum, Stamp: stamp}, 0, 0, slot) || Check(Ref{Sum: sum, Stamp: stamp}, 0, 0, nil) {
				t.Errorf("Check by %x, stamp %d says yes", sum, stamp)
			}
		}
	}
}

func TestCheckIsTheSameWhateverTheStamp(t *testing.T) {
	slot := some(1, 192)
	sum := toldSum(1, 2, slot)
	wrong := sum
	wrong[17] ^= 64
	for _, stamp := range stamps {
		if !Check(Ref{sum, stamp}, 1, 2, slot) {
			t.Errorf("Check by the right sum, stamp %d, says no", stamp)
		}
		if Check(Ref{wrong, stamp}, 1, 2, slot) {
			t.Errorf("Check by a wrong sum, stamp %d, says yes", stamp)
		}
	}
}

func TestCheckAtAnotherLevel(t *testing.T) {
	slot := some(1, 192)
	r := Ref{toldSum(1, 2, slot), 7}
	for _, level := range levels {
		if want := byte(level) == 1; Check(r, level, 2, slot) != want {
			t.Errorf("Check at level %d says %v", level, !want)
		}
	}
	for bit := range 8 {
		if Check(r, 1^1<<bit, 2, slot) {
			t.Errorf("Check doesn't see bit %d of the level", bit)
		}
	}
}

func TestCheckAtAnotherPlace(t *testing.T) {
	slot := some(1, 192)
	r := Ref{toldSum(1, 2, slot), 7}
	for _, place := range places {
		if want := place == 2; Check(r, 1, place, slot) != want {
			t.Errorf("Check at place %d says %v", place, !want)
		}
	}
	for bit := range 32 {
		if Check(r, 1, 2^1<<bit, slot) {
			t.Errorf("Check doesn't see bit %d of the place", bit)
		}
	}
}

func TestCheckOfAnotherSlot(t *testing.T) {
	slot := some(1, 192)
	r := Ref{toldSum(1, 2, slot), 7}
	for i := range 192 * 8 {
		other := slices.Clone(slot)
		other[i/8] ^= 1 << (i % 8)
		if Check(r, 1, 2, other) {
			t.Errorf("Check doesn't see bit %d of the slot", i)
		}
	}
	for n := range 192 {
		if Check(r, 1, 2, slot[:n]) {
			t.Errorf("Check of the first %d bytes says yes", n)
		}
	}
	for _, other := range append(slots()[:10], append(slices.Clone(slot), 0), slices.Concat(slot, slot)) {
		if Check(r, 1, 2, other) {
			t.Errorf("Check of %x says yes", other)
		}
	}
}

// Bytes that go over from the slot to the place, or back, aren't what was written.
func TestCheckOfBytesMovedAlong(t *testing.T) {
	r := Ref{Sum: toldSum(1, 0x05040302, []byte{6, 7}), Stamp: 7}
	if Check(r, 2, 0x06050403, []byte{7}) || Check(r, 1, 0x05040302, []byte{7, 6}) || Check(r, 1, 0x02030405, []byte{6, 7}) {
		t.Error("Check says yes of bytes that were moved")
	}
}

// P10.4

func TestGetOfPut(t *testing.T) {
	nodes := []Node{{}, countedNode()}
	for seed := range 300 {
		nodes = append(nodes, someNode(seed))
	}
	for i := range 4 {
		for _, stamp := range stamps {
			var bare, full Node
			bare[i].Stamp = stamp
			full[i] = Ref{Sum: api.Sum{31: 9}, Stamp: stamp}
			nodes = append(nodes, bare, full)
		}
	}
	for _, want := range nodes {
		n, e := Get(Put(want))
		must(t, e, api.OK)
		if n != want {
			t.Fatalf("Get of Put: %v, not %v", n, want)
		}
	}
}

func TestPutOfGet(t *testing.T) {
	rows := [][]byte{make([]byte, 160), bytes.Repeat([]byte{255}, 160), counted()}
	for seed := range 300 {
		rows = append(rows, some(seed, 160))
	}
	for _, want := range rows {
		n, e := Get(want)
		must(t, e, api.OK)
		if b := Put(n); !bytes.Equal(b, want) {
			t.Fatalf("Put of Get: %v, not %v", b, want)
		}
	}
}

func TestNodesThatPartInABitHaveOtherBytes(t *testing.T) {
	for _, b := range [][]byte{make([]byte, 160), counted(), some(1, 160)} {
		first, e := Get(b)
		must(t, e, api.OK)
		seen := map[Node]int{first: -1}
		for i := range 160 * 8 {
			other := slices.Clone(b)
			other[i/8] ^= 1 << (i % 8)
			n, e := Get(other)
			must(t, e, api.OK)
			if j, ok := seen[n]; ok {
				t.Fatalf("bits %d and %d make one node", j, i)
			}
			seen[n] = i
			if !bytes.Equal(Put(n), other) {
				t.Fatalf("bit %d isn't put as it was got", i)
			}
		}
	}
}

// Memory of their own (section 'Words')

func TestPutTellsNewMemory(t *testing.T) {
	n := countedNode()
	b, again := Put(n), Put(n)
	clear(b[:cap(b)])
	_ = append(b, 9, 9, 9)
	if !bytes.Equal(again, counted()) || !bytes.Equal(Put(n), counted()) || n != countedNode() {
		t.Error("two answers, or the node, share memory")
	}
	n[0].Sum[0], n[3].Stamp = 0, 0
	if !bytes.Equal(again, counted()) {
		t.Error("the node and its bytes share memory")
	}
}

func TestGetKeepsNothing(t *testing.T) {
	b := counted()
	n, e := Get(b)
	must(t, e, api.OK)
	if !bytes.Equal(b, counted()) {
		t.Error("Get changes what is handed in")
	}
	clear(b)
	if n != countedNode() {
		t.Error("the bytes and their node share memory")
	}
	m, _ := Get(counted())
	m[0].Sum[0], m[3].Stamp = 0, 0
	if n != countedNode() {
		t.Error("two nodes share memory")
	}
}

func TestGetOfOtherLengthsChangesNothing(t *testing.T) {
	for _, n := range []int{0, 1, 159} {
		b := counted()
		noNode(t, b[:n])
		if !bytes.Equal(b, counted()) {
			t.Errorf("%d bytes: %v", n, b)
		}
	}
}

// The room behind a slot's end stays, too.
func TestDigestAndCheckChangeNothing(t *testing.T) {
	for _, n := range []int{0, 1, 50, 58, 59, 192} {
		room := some(1, 400)
		slot := room[:n]
		s := Digest(1, 2, slot)
		r := Ref{s, 7}
		if !Check(r, 1, 2, slot) || Check(r, 2, 2, slot) {
			t.Errorf("Check of %d bytes", n)
		}
		if !bytes.Equal(room, some(1, 400)) || r != (Ref{s, 7}) {
			t.Errorf("%d bytes: what is handed in changed", n)
		}
		clear(room)
		if s != toldSum(1, 2, some(1, 400)[:n]) {
			t.Errorf("%d bytes: the digest changed with the slot", n)
		}
	}
}

func TestTheSameCallsHaveTheSameAnswers(t *testing.T) {
	for seed := range 50 {
		n, slot := someNode(seed), some(seed, 192)
		b, s := Put(n), Digest(seed, uint32(seed), slot)
		Put(someNode(seed + 1))
		Digest(seed+1, uint32(seed), some(seed+1, 192))
		if !bytes.Equal(Put(n), b) || Digest(seed, uint32(seed), slot) != s {
			t.Fatal("the same call has another answer")
		}
	}
}
