package digest_test

import (
	"crypto/sha256"
	"encoding/hex"
	"math/rand/v2"
	"strings"
	"testing"

	"intrusion/digest"
)

const (
	hexOfNothing = "e3b0c44298fc1c149afbf4c8996fb92427ae41e4649b934ca495991b7852b855"
	hexOfAbc     = "ba7816bf8f01cfea414140de5dae2223b00361a396177a9cb410ff61f20015ad"
)

// known are published strings with their hashes.
var known = map[string]string{
	"":    hexOfNothing,
	"abc": hexOfAbc,
	"abcdbcdecdefdefgefghfghighijhijkijkljklmklmnlmnomnopnopq":                                                         "248d6a61d20638b8e5c026930c3e6039a33ce45964ff2167f6ecedd419db06c1",
	"abcdefghbcdefghicdefghijdefghijkefghijklfghijklmghijklmnhijklmnoijklmnopjklmnopqklmnopqrlmnopqrsmnopqrstnopqrstu": "cf5b16a778af8380036ce59e7b0492370b249b11e8f07a51afac45037afee9d1",
	strings.Repeat("a", 1000000): "cdc76e5c9914fb9281a1c7e284d73e67f1809a48a497200e046d39ccc7112cd0",
}

// source returns pseudo random numbers, the same ones in every run.
func source(seed uint64) *rand.Rand { return rand.New(rand.NewPCG(seed, 0)) }

func mixed(r *rand.Rand, n int) string {
	b := make([]byte, n)
	for k := range b {
		b[k] = byte(r.Uint32())
	}
	return string(b)
}

// samples are strings of all lengths around the first blocks, of extreme and of mixed bytes, and some long ones.
func samples() []string {
	r := source(3)
	some := []string{"\x80", "\x00\x80\x00", "\xff\xfe\xc3\x28", "häß 日本", "line\r\nline\n"}
	for n := range 200 {
		some = append(some, mixed(r, n), strings.Repeat("\xff", n), strings.Repeat("\x00", n))
	}
	return append(some, mixed(r, 1500), mixed(r, 8191), mixed(r, 8192), mixed(r, 65535))
}

// sumOf is the hash of s by another implementation.
func sumOf(s string) string {
	sum := sha256.Sum256([]byte(s))
	return string(sum[:])
}

// hexOf returns the digits that the chapter describes, for a hash by another implementation.
func hexOf(s string) string { return hex.EncodeToString([]byte(sumOf(s))) }

// written returns a hash to which the pieces were written in order.
func written(pieces ...string) *digest.Hash {
	h := digest.NewHash()
	for _, piece := range pieces {
		h.Write(piece)
	}
	return h
}

// expect checks both results of a hash to which s was written.
func expect(t *testing.T, h *digest.Hash, s string) {
	t.Helper()
	if got := h.Len(); got != len(s) {
		t.Fatalf("Len is %d, not %d", got, len(s))
	}
	if got, want := h.Hex(), hexOf(s); got != want {
		t.Fatalf("Hex of %d bytes is %s, not %s", len(s), got, want)
	}
}

// P3.1

func TestSumOfKnownStrings(t *testing.T) {
	for s, digits := range known {
		if got := hex.EncodeToString([]byte(digest.Sum(s))); got != digits {
			t.Errorf("Sum of %d bytes is %s, not %s", len(s), got, digits)
		}
	}
	if got := digest.Sum("abc"); !strings.HasPrefix(got, string([]byte{186})) {
		t.Errorf("Sum(abc) is %q", got)
	}
}

func TestSumIsTheHash(t *testing.T) {
	for _, s := range samples() {
		got := digest.Sum(s)
		if len(got) != 32 {
			t.Fatalf("Sum of %d bytes has %d bytes", len(s), len(got))
		}
		if want := sumOf(s); got != want {
			t.Errorf("Sum of %d bytes is %x, not %x", len(s), got, want)
		}
	}
}

// P3.2

func TestHexOfKnownStrings(t *testing.T) {
	for s, digits := range known {
		if got := digest.Hex(s); got != digits {
			t.Errorf("Hex of %d bytes is %s, not %s", len(s), got, digits)
		}
	}
}

func TestHexIsTheHashInSmallDigits(t *testing.T) {
	for _, s := range samples() {
		if got, want := digest.Hex(s), hexOf(s); got != want {
			t.Errorf("Hex of %d bytes is %s, not %s", len(s), got, want)
		}
	}
}

// P3.3

func TestNewHashIsOfTheEmptyString(t *testing.T) {
	h := digest.NewHash()
	if h == nil {
		t.Fatal("NewHash returns nil")
	}
	if h.Len() != 0 || h.Hex() != hexOfNothing {
		t.Errorf("Len is %d, Hex is %s", h.Len(), h.Hex())
	}
}

func TestExampleOfWrite(t *testing.T) {
	h := written("a", "bc")
	if h.Len() != 3 || h.Hex() != hexOfAbc {
		t.Errorf("Len is %d, Hex is %s", h.Len(), h.Hex())
	}
}

func TestWritingContinuesAfterHexAndLen(t *testing.T) {
	s := samples()[len(samples())-1][:300]
	h := digest.NewHash()
	for k := range len(s) {
		expect(t, h, s[:k])
		expect(t, h, s[:k])
		h.Write(s[k : k+1])
	}
	expect(t, h, s)
}

func TestWritingNothingChangesNothing(t *testing.T) {
	h := digest.NewHash()
	s := ""
	for range 130 {
		h.Write("")
		expect(t, h, s)
		h.Write("x")
		h.Write("")
		s += "x"
	}
	expect(t, h, s)
}

func TestHashesAreIndependent(t *testing.T) {
	r := source(33)
	a, b := digest.NewHash(), digest.NewHash()
	inA, inB := "", ""
	for range 40 {
		forA, forB := mixed(r, r.IntN(50)), mixed(r, r.IntN(50))
		a.Write(forA)
		b.Write(forB)
		inA += forA
		inB += forB
		expect(t, a, inA)
		expect(t, b, inB)
	}
	expect(t, digest.NewHash(), "")
}

// Each string is a part of a longer one, of which the rest does not count.
func TestWritingPartsOfALongString(t *testing.T) {
	long := strings.Repeat("0123456789", 30)
	for from := range 70 {
		for _, size := range []int{0, 1, 63, 64, 65, 130} {
			expect(t, written(long[from:from+size]), long[from:from+size])
		}
	}
}

func TestNilHash(t *testing.T) {
	var h *digest.Hash
	h.Write("")
	h.Write("abc")
	if h.Len() != 0 || h.Hex() != "" {
		t.Errorf("Len is %d, Hex is %q", h.Len(), h.Hex())
	}
}

func TestPlainHashDoesNotPanic(t *testing.T) {
	var h digest.Hash
	h.Hex()
	h.Write("abc")
	h.Write(strings.Repeat("d", 200))
	h.Len()
	h.Hex()
}

// P3.4

func TestEveryCutInTwo(t *testing.T) {
	r := source(34)
	for _, size := range []int{1, 2, 55, 56, 57, 63, 64, 65, 119, 120, 127, 128, 129, 193, 260} {
		s := mixed(r, size)
		for cut := range size + 1 {
			expect(t, written(s[:cut], s[cut:]), s)
		}
	}
}

func TestEveryCutInThree(t *testing.T) {
	s := samples()[len(samples())-1][:140]
	for first := range len(s) + 1 {
		for second := first; second <= len(s); second++ {
			expect(t, written(s[:first], s[first:second], s[second:]), s)
		}
	}
}

func TestPiecesOfOneSize(t *testing.T) {
	for _, s := range samples()[600:] {
		for _, size := range []int{1, 7, 31, 32, 33, 63, 64, 65, 127, 128, 129, 1000} {
			h := digest.NewHash()
			for rest := s; rest != ""; rest = rest[min(size, len(rest)):] {
				h.Write(rest[:min(size, len(rest))])
			}
			expect(t, h, s)
		}
	}
}

func TestPiecesOfMixedSizes(t *testing.T) {
	r := source(35)
	for range 300 {
		s := mixed(r, r.IntN(2000))
		h := digest.NewHash()
		for rest := s; rest != ""; {
			size := min(r.IntN(200), len(rest))
			h.Write(rest[:size])
			rest = rest[size:]
		}
		expect(t, h, s)
	}
}

// A string of 2^29 bytes is the first with a number of bits that 32 bits do not hold.
func TestCountOfBitsBeyond32Bits(t *testing.T) {
	const pieceSize = 1 << 20
	r := source(36)
	piece := mixed(r, pieceSize)
	h, other := digest.NewHash(), sha256.New()
	for range 1 << 29 / pieceSize {
		h.Write(piece)
		other.Write([]byte(piece))
	}
	h.Write("tail")
	other.Write([]byte("tail"))
	if h.Len() != 1<<29+4 {
		t.Errorf("Len is %d", h.Len())
	}
	if got, want := h.Hex(), hex.EncodeToString(other.Sum(nil)); got != want {
		t.Errorf("Hex is %s, not %s", got, want)
	}
}
