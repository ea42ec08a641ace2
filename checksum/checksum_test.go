package checksum_test

import (
	"hash/crc32"
	"math"
	"slices"
	"strings"
	"testing"

	"intrusion/api"
	"intrusion/checksum"
	"intrusion/field"
)

// edges are the numbers from 0 to 65535 at which sums and complements change their behaviour, and some between.
var edges = []int{0, 1, 2, 255, 256, 257, 0x1234, 32766, 32767, 32768, 32769, 0xfedc, 65278, 65279, 65280, 65533, 65534, 65535}

// onesSum is the definition of the chapter, for two numbers from 0 to 65535.
func onesSum(a, b int) int {
	if a+b > 65535 {
		return a + b - 65535
	}
	return a + b
}

// sumOf is the definition of Sum, written as it stands in the chapter.
func sumOf(s string) int {
	if len(s)%2 == 1 {
		s += "\x00"
	}
	sum := 0
	for k := 0; k < len(s); k += 2 {
		sum = onesSum(sum, int(s[k])*256+int(s[k+1]))
	}
	return 65535 - sum
}

// crcOf is the definition of CrcUpdate, written as it stands in the chapter.
func crcOf(crc uint32, s string) uint32 {
	register := crc ^ 0xffffffff
	for k := range len(s) {
		register = register&0xffffff00 | (register&0xff ^ uint32(s[k]))
		for range 8 {
			leaving := register % 2
			register /= 2
			if leaving == 1 {
				register ^= 0xEDB88320
			}
		}
	}
	return register ^ 0xffffffff
}

// generator returns pseudo random numbers, the same ones in every run.
type generator uint64

func (g *generator) next() uint64 {
	*g = *g*6364136223846793005 + 1442695040888963407
	x := uint64(*g)
	return x ^ x>>29
}

func (g *generator) bytes(n int) string {
	b := make([]byte, n)
	for k := range b {
		b[k] = byte(g.next() >> 24)
	}
	return string(b)
}

// samples are strings of all short lengths and some long ones, with extreme and with mixed bytes.
func samples() []string {
	g := generator(2)
	some := []string{"", "\x00", "\xff", "\x00\xff", "\xff\x00", "\x80\x00\x7f\xff", "\x00\x00\x00\x00", "\xff\xff\xff\xff\xff"}
	for n := range 70 {
		some = append(some, g.bytes(n), strings.Repeat("\xff", n), strings.Repeat("\x00", n))
	}
	return append(some, g.bytes(1500), g.bytes(1501), g.bytes(65535))
}

// sameLow returns numbers whose lower 16 bits are those of n, negative ones too.
func sameLow(n int) []int {
	return []int{n, n + 65536, n + 65536*3, n + 1<<32, n - 65536, n - 65536*5, n - 1<<40, math.MinInt + n, math.MaxInt - 65535 + n}
}

func putWord(n int) string { return string([]byte{byte(n / 256), byte(n % 256)}) }

// P2.1

func TestSumExamples(t *testing.T) {
	for _, x := range []struct {
		s    string
		want int
	}{
		{"\x00\x01\xf2\x03\xf4\xf5\xf6\xf7", 8717},
		{"", 65535},
		{"\x00", 65535},
		{"\x00\x00\x00\x00", 65535},
		{"\x01", 65535 - 256},
		{"\x00\x01", 65534},
		{"\x12\x34\x56", 65535 - 0x1234 - 0x5600},
		{"\x00\x00\x01", 65535 - 256},
		{"\xff\xff", 0},
		{"\xff\xff\x00\x00", 0},
		{"\xff\xff\xff\xff", 0},
		{"\xff\xff\x00\x01", 65534},
		{"\x80\x00\x80\x00", 65534},
		{"\x80\x00\x7f\xff", 0},
		{"\xff\xff\xff", 255},
	} {
		if n := checksum.Sum(x.s); n != x.want {
			t.Errorf("Sum(%q) = %d, want %d", x.s, n, x.want)
		}
	}
}

func TestSumIsTheDefinition(t *testing.T) {
	for _, s := range samples() {
		if n := checksum.Sum(s); n != sumOf(s) {
			t.Errorf("Sum of %d bytes = %d, want %d", len(s), n, sumOf(s))
		}
	}
}

func TestSumOfEverySingleWord(t *testing.T) {
	for n := range 65536 {
		if got := checksum.Sum(putWord(n)); got != 65535-n {
			t.Fatalf("Sum of the word %d = %d", n, got)
		}
	}
}

// The plain sum of these words needs more than 32 bits.
func TestSumOfManyWords(t *testing.T) {
	for _, s := range []string{strings.Repeat("\xff\xff", 1<<18), strings.Repeat("\xff\xfe", 1<<18) + "\x01"} {
		if n := checksum.Sum(s); n != sumOf(s) {
			t.Errorf("Sum of %d bytes = %d, want %d", len(s), n, sumOf(s))
		}
	}
}

func TestSumDoesNotDependOnTheOrderOfWords(t *testing.T) {
	s := "\x12\x34\xff\xff\x00\x00\x80\x01\x7f\xff\xfe\xdc"
	for k := 0; k+2 <= len(s); k += 2 {
		turned := s[k:] + s[:k]
		if checksum.Sum(turned) != checksum.Sum(s) {
			t.Errorf("Sum(%q) is not Sum(%q)", turned, s)
		}
	}
}

// P2.2

func expectAdd(t *testing.T, a, b, want int) {
	t.Helper()
	if n := checksum.Add(a, b); n != want {
		t.Errorf("Add(%d, %d) = %d, want %d", a, b, n, want)
	}
}

func TestAddExamples(t *testing.T) {
	for _, x := range [][3]int{
		{65535, 1, 1}, {1, 65535, 1}, {0, 0, 0}, {0, 65535, 65535}, {65535, 0, 65535}, {65535, 65535, 65535},
		{32767, 32768, 65535}, {32768, 32768, 1}, {65534, 1, 65535}, {65534, 2, 1}, {65534, 65534, 65533}, {3, 4, 7},
	} {
		expectAdd(t, x[0], x[1], x[2])
	}
}

func TestAddIsTheDefinition(t *testing.T) {
	for _, a := range edges {
		for b := range 65536 {
			if n := checksum.Add(a, b); n != onesSum(a, b) {
				t.Fatalf("Add(%d, %d) = %d, want %d", a, b, n, onesSum(a, b))
			}
		}
	}
}

func TestAddCountsOnlyTheLowerBits(t *testing.T) {
	expectAdd(t, -1, 0, 65535)
	expectAdd(t, 0, -65536, 0)
	expectAdd(t, -65535, 65536, 1)
	expectAdd(t, math.MinInt, math.MinInt, 0)
	expectAdd(t, math.MaxInt, math.MaxInt, 65535)
	expectAdd(t, math.MaxInt, 1, 1)
	for _, a := range edges {
		for _, b := range edges {
			for _, x := range sameLow(a) {
				for _, y := range sameLow(b) {
					expectAdd(t, x, y, onesSum(a, b))
				}
			}
		}
	}
}

// P2.3

func updateOf(sum, before, after int) int {
	return 65535 - onesSum(onesSum(65535-sum, 65535-before), after)
}

func expectUpdate(t *testing.T, sum, before, after, want int) {
	t.Helper()
	if n := checksum.Update(sum, before, after); n != want {
		t.Errorf("Update(%d, %d, %d) = %d, want %d", sum, before, after, n, want)
	}
}

func TestUpdateExamples(t *testing.T) {
	expectUpdate(t, 65534, 1, 2, 65533)
	expectUpdate(t, 0, 0, 0, 0)
	expectUpdate(t, 65535, 0, 0, 0)
	expectUpdate(t, 65535, 65535, 0, 65535)
	expectUpdate(t, 65535, 65535, 65535, 0)
	expectUpdate(t, 0, 65535, 0, 0)
	expectUpdate(t, 1, 2, 65535, 3)
}

func TestUpdateIsTheDefinition(t *testing.T) {
	for _, sum := range edges {
		for _, before := range edges {
			for _, after := range edges {
				expectUpdate(t, sum, before, after, updateOf(sum, before, after))
			}
		}
	}
}

func TestUpdateCountsOnlyTheLowerBits(t *testing.T) {
	some := []int{0, 1, 255, 32768, 65534, 65535}
	for _, sum := range some {
		for _, before := range some {
			for _, after := range some {
				want := updateOf(sum, before, after)
				for k := range sameLow(0) {
					expectUpdate(t, sameLow(sum)[k], before, after, want)
					expectUpdate(t, sum, sameLow(before)[k], after, want)
					expectUpdate(t, sum, before, sameLow(after)[k], want)
					expectUpdate(t, sameLow(sum)[k], sameLow(before)[k], sameLow(after)[k], want)
				}
			}
		}
	}
}

// P2.4

var (
	src4 = api.Addr{Lo: 0x0a0b0c0d}
	dst4 = api.Addr{Lo: 0xfffefdfc}
	src6 = api.Addr{V6: true, Hi: 0x20010db801020304, Lo: 0x05060708090a0b0c}
	dst6 = api.Addr{V6: true, Hi: 0xfffefdfcfbfaf9f8, Lo: 0xf7f6f5f4f3f2f1f0}
)

const (
	srcBytes4 = "\x0a\x0b\x0c\x0d"
	dstBytes4 = "\xff\xfe\xfd\xfc"
	srcBytes6 = "\x20\x01\x0d\xb8\x01\x02\x03\x04\x05\x06\x07\x08\x09\x0a\x0b\x0c"
	dstBytes6 = "\xff\xfe\xfd\xfc\xfb\xfa\xf9\xf8\xf7\xf6\xf5\xf4\xf3\xf2\xf1\xf0"
)

func expectPseudo(t *testing.T, src, dst api.Addr, proto, size int, want string) {
	t.Helper()
	if s := checksum.Pseudo(src, dst, proto, size); s != want {
		t.Errorf("Pseudo(%v, %v, %d, %d) = %q, want %q", src, dst, proto, size, s, want)
	}
}

func TestPseudoOfIpv4(t *testing.T) {
	expectPseudo(t, src4, dst4, 6, 20, srcBytes4+dstBytes4+"\x00\x06\x00\x14")
	expectPseudo(t, dst4, src4, 17, 0x1234, dstBytes4+srcBytes4+"\x00\x11\x12\x34")
	expectPseudo(t, src4, src4, 0, 0, srcBytes4+srcBytes4+"\x00\x00\x00\x00")
	expectPseudo(t, src4, dst4, 255, 65535, srcBytes4+dstBytes4+"\x00\xff\xff\xff")
	last := api.Addr{Lo: math.MaxUint32}
	expectPseudo(t, api.Addr{}, last, 1, 256, "\x00\x00\x00\x00\xff\xff\xff\xff\x00\x01\x01\x00")
}

func TestPseudoOfIpv6(t *testing.T) {
	expectPseudo(t, src6, dst6, 6, 20, srcBytes6+dstBytes6+"\x00\x00\x00\x14\x00\x00\x00\x06")
	expectPseudo(t, dst6, src6, 17, 0x12345678, dstBytes6+srcBytes6+"\x12\x34\x56\x78\x00\x00\x00\x11")
	expectPseudo(t, src6, src6, 0, 0, srcBytes6+srcBytes6+"\x00\x00\x00\x00\x00\x00\x00\x00")
	expectPseudo(t, src6, dst6, 255, 65536, srcBytes6+dstBytes6+"\x00\x01\x00\x00\x00\x00\x00\xff")
	expectPseudo(t, src6, dst6, 255, 1<<32-1, srcBytes6+dstBytes6+"\xff\xff\xff\xff\x00\x00\x00\xff")
	// An IPv6 address remains one if its number would be that of an IPv4 address.
	small := api.Addr{V6: true, Lo: 1}
	bytes := strings.Repeat("\x00", 15) + "\x01"
	expectPseudo(t, small, small, 58, 65535, bytes+bytes+"\x00\x00\xff\xff\x00\x00\x00\x3a")
}

func TestPseudoOfInvalidAddress(t *testing.T) {
	for _, bad := range []api.Addr{{Lo: 1 << 32}, {Lo: math.MaxUint64}, {Hi: 1}, {Hi: 1, Lo: 5}, {Hi: math.MaxUint64, Lo: 1 << 32}} {
		for _, good := range []api.Addr{src4, src6} {
			expectPseudo(t, bad, good, 6, 20, "")
			expectPseudo(t, good, bad, 6, 20, "")
		}
		expectPseudo(t, bad, bad, 6, 20, "")
	}
}

func TestPseudoOfTwoFamilies(t *testing.T) {
	expectPseudo(t, src4, dst6, 6, 20, "")
	expectPseudo(t, src6, dst4, 6, 20, "")
	expectPseudo(t, api.Addr{}, api.Addr{V6: true}, 6, 20, "")
}

func TestPseudoOfProtocolOutOfRange(t *testing.T) {
	for _, proto := range []int{-1, -250, -65530, 256, 257, 65535, 65536, 65542, 1<<32 + 6, math.MaxInt, math.MinInt, math.MinInt + 6} {
		expectPseudo(t, src4, dst4, proto, 20, "")
		expectPseudo(t, src6, dst6, proto, 20, "")
	}
}

func TestPseudoOfSizeOutOfRange(t *testing.T) {
	for _, size := range []int{-1, -65516, -1 << 32, 1 << 32, 1<<32 + 20, 1 << 48, math.MaxInt, math.MinInt, math.MinInt + 20} {
		expectPseudo(t, src4, dst4, 6, size, "")
		expectPseudo(t, src6, dst6, 6, size, "")
	}
	expectPseudo(t, src4, dst4, 6, 65536, "")
	expectPseudo(t, src4, dst4, 6, 65556, "")
	expectPseudo(t, src4, dst4, 6, 1<<32-1, "")
}

// P2.5

func TestCrcExamples(t *testing.T) {
	for _, x := range []struct {
		s    string
		want uint32
	}{
		{"123456789", 0xCBF43926},
		{"", 0},
		{"\x00", 0xD202EF8D},
		{"\xff", 0xFF000000},
		{"a", 0xE8B7BE43},
		{"\x00\x00\x00\x00", 0x2144DF1C},
		{"\xff\xff\xff\xff", 0xFFFFFFFF},
		{"The quick brown fox jumps over the lazy dog", 0x414FA339},
	} {
		if crc := checksum.Crc(x.s); crc != x.want {
			t.Errorf("Crc(%q) = %08x, want %08x", x.s, crc, x.want)
		}
	}
}

func TestCrcIsTheDefinition(t *testing.T) {
	for _, s := range samples() {
		if crc := checksum.Crc(s); crc != crcOf(0, s) || crc != crc32.ChecksumIEEE([]byte(s)) {
			t.Errorf("Crc of %d bytes = %08x, want %08x", len(s), crc, crcOf(0, s))
		}
	}
}

func TestCrcOfEverySingleByte(t *testing.T) {
	for c := range 256 {
		s := string([]byte{byte(c)})
		if crc := checksum.Crc(s); crc != crcOf(0, s) {
			t.Errorf("Crc(%q) = %08x, want %08x", s, crc, crcOf(0, s))
		}
	}
}

func TestCrcUpdateIsTheDefinition(t *testing.T) {
	g := generator(5)
	starts := []uint32{0, 1, 0x80000000, 0xffffffff, 0xEDB88320, 0xCBF43926}
	for range 50 {
		starts = append(starts, uint32(g.next()))
	}
	for _, crc := range starts {
		for _, s := range []string{"", "\x00", "\xff", "123456789", g.bytes(5), g.bytes(64)} {
			if got := checksum.CrcUpdate(crc, s); got != crcOf(crc, s) {
				t.Errorf("CrcUpdate(%08x, %q) = %08x, want %08x", crc, s, got, crcOf(crc, s))
			}
		}
	}
}

func TestCrcUpdateWithNothingChangesNothing(t *testing.T) {
	for _, crc := range []uint32{0, 1, 0xCBF43926, 0xffffffff} {
		if got := checksum.CrcUpdate(crc, ""); got != crc {
			t.Errorf("CrcUpdate(%08x, \"\") = %08x", crc, got)
		}
	}
}

// P2.6

func TestSumOfStringWithItsSumIsZero(t *testing.T) {
	for _, s := range samples() {
		if len(s)%2 == 1 {
			continue
		}
		if n := checksum.Sum(s + field.Put(checksum.Sum(s), 2)); n != 0 {
			t.Errorf("Sum of %d bytes and their Sum = %d", len(s), n)
		}
	}
}

// P2.7

func extremes(a, b int) bool { return a == 0 && b == 65535 || a == 65535 && b == 0 }

// expectDetected checks the sums of two strings that differ in one word only.
func expectDetected(t *testing.T, start, end string, before, after int) {
	t.Helper()
	old := checksum.Sum(start + putWord(before) + end)
	sum := checksum.Sum(start + putWord(after) + end)
	if before != after && old == sum && !extremes(before, after) {
		t.Fatalf("%d was replaced by %d between %q and %q, and Sum is still %d", before, after, start, end, sum)
	}
	if updated := checksum.Update(old, before, after); updated != sum && !extremes(updated, sum) {
		t.Fatalf("Update(%d, %d, %d) = %d between %q and %q, but Sum is %d", old, before, after, updated, start, end, sum)
	}
}

func TestReplacedWordIsDetected(t *testing.T) {
	words := slices.Clone(edges)
	for n := 0; n < 65536; n += 15 {
		words = append(words, n)
	}
	for _, around := range [][2]string{{"", ""}, {"\x12\x34", "\xff\xff"}, {"", "\x00"}, {"\x00\x00", "\x80\x00\x7f\xff\x01"}, {"\xff\xff", ""}} {
		for _, before := range edges {
			for _, after := range words {
				expectDetected(t, around[0], around[1], before, after)
			}
		}
	}
}

func TestUpdateOfLongStrings(t *testing.T) {
	g := generator(7)
	for range 2000 {
		s := g.bytes(2 + int(g.next()%300))
		at := int(g.next()) & math.MaxInt % (len(s) / 2) * 2
		before := int(s[at])*256 + int(s[at+1])
		expectDetected(t, s[:at], s[at+2:], before, int(g.next()&65535))
	}
}

// P2.8

func TestCrcUpdateContinues(t *testing.T) {
	g := generator(8)
	for _, s := range []string{"", "a", "123456789", g.bytes(40), strings.Repeat("\x00", 20), strings.Repeat("\xff", 20)} {
		for cut := 0; cut <= len(s); cut++ {
			if crc := checksum.CrcUpdate(checksum.Crc(s[:cut]), s[cut:]); crc != checksum.Crc(s) {
				t.Errorf("Crc(%q) continued by %q = %08x, want %08x", s[:cut], s[cut:], crc, checksum.Crc(s))
			}
		}
	}
}

func TestCrcUpdateByteByByte(t *testing.T) {
	g := generator(9)
	s := g.bytes(3000)
	crc := checksum.Crc("")
	for k := range len(s) {
		crc = checksum.CrcUpdate(crc, s[k:k+1])
	}
	if crc != checksum.Crc(s) {
		t.Errorf("byte by byte %08x, at once %08x", crc, checksum.Crc(s))
	}
}
