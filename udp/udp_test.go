package udp_test

import (
	"fmt"
	"math"
	"math/rand/v2"
	"strings"
	"testing"

	"intrusion/api"
	"intrusion/udp"
)

// maxPayload is the number of bytes of the longest payload that Encode takes.
const maxPayload = 65507

// pair is the addresses of a datagram.
type pair struct{ src, dst api.Addr }

var (
	// low4 is the pair of the chapter's example.
	low4 = pair{api.Addr{Lo: 1}, api.Addr{Lo: 2}}
	// The words of these addresses are all different.
	mixed4 = pair{api.Addr{Lo: 0x0a0b0c0d}, api.Addr{Lo: 0xfffefdfc}}
	mixed6 = pair{api.Addr{V6: true, Hi: 0x20010db801020304, Lo: 0x05060708090a0b0c}, api.Addr{V6: true, Hi: 0xfffefdfcfbfaf9f8, Lo: 0xf7f6f5f4f3f2f1f0}}
)

// somePairs returns pairs that fit, with the least and the greatest addresses.
func somePairs() []pair {
	zero6, last6 := api.Addr{V6: true}, api.Addr{V6: true, Hi: math.MaxUint64, Lo: math.MaxUint64}
	return []pair{low4, mixed4, mixed6, {}, {api.Addr{Lo: math.MaxUint32}, api.Addr{Lo: math.MaxUint32}}, {zero6, zero6}, {last6, last6}, {zero6, mixed6.dst}}
}

// unfitPairs returns pairs that do not fit.
func unfitPairs() []pair {
	var l []pair
	for _, a := range []api.Addr{{Lo: 1 << 32}, {Lo: 1<<32 + 1}, {Lo: math.MaxUint64}, {Hi: 1, Lo: 1}, {Hi: 1 << 63}, {Hi: math.MaxUint64, Lo: math.MaxUint64}} {
		l = append(l, pair{a, low4.dst}, pair{low4.src, a}, pair{a, a}, pair{a, mixed6.dst}, pair{mixed6.src, a})
	}
	// The numbers of ::1 and ::2 are those of IPv4 addresses.
	return append(l, pair{mixed4.src, mixed6.dst}, pair{mixed6.src, mixed4.dst}, pair{low4.src, api.Addr{V6: true, Lo: 2}}, pair{api.Addr{V6: true, Lo: 1}, low4.dst})
}

// source returns pseudo random numbers, the same ones in every run.
func source(seed uint64) *rand.Rand { return rand.New(rand.NewPCG(seed, 0)) }

func mixed(r *rand.Rand, n int) string {
	b := make([]byte, n)
	for k := range b {
		b[k] = byte(r.Uint32())
	}
	return string(b)
}

// two returns the two bytes of n.
func two(n int) string { return string([]byte{byte(n >> 8), byte(n)}) }

// wordAt returns the number of the two bytes at an offset.
func wordAt(s string, at int) int { return 256*int(s[at]) + int(s[at+1]) }

// withByte returns s with another byte at an offset.
func withByte(s string, at int, c byte) string { return s[:at] + string([]byte{c}) + s[at+1:] }

// withSum returns s with another checksum.
func withSum(s string, sum int) string { return s[:6] + two(sum) + s[8:] }

// wordsOf returns the sum of the words of a number.
func wordsOf(n uint64) int { return int(n>>48 + n>>32%65536 + n>>16%65536 + n%65536) }

// definedSum is the chapter's definition of the checksum of the datagram s.
func definedSum(a pair, s string) int {
	sum := wordsOf(a.src.Hi) + wordsOf(a.src.Lo) + wordsOf(a.dst.Hi) + wordsOf(a.dst.Lo) + 17 + len(s)
	s = withSum(s, 0) + strings.Repeat("\x00", len(s)%2)
	for k := 0; k < len(s); k += 2 {
		sum += wordAt(s, k)
	}
	// The sum is not 0, because 17 is not; 65535 minus what remains of it is 0 if it is a multiple of 65535.
	if sum%65535 == 0 {
		return 65535
	}
	return 65535 - sum%65535
}

// summed returns s, which has as many bytes as its length says, with its checksum.
func summed(a pair, s string) string { return withSum(s, definedSum(a, s)) }

// datagram returns the bytes of a datagram.
func datagram(a pair, src, dst int, payload string) string {
	return summed(a, two(src)+two(dst)+two(8+len(payload))+"\x00\x00"+payload)
}

// fits is the chapter's definition of addresses that fit.
func fits(a pair) bool {
	for _, x := range []api.Addr{a.src, a.dst} {
		if !x.V6 && (x.Hi != 0 || x.Lo > math.MaxUint32) {
			return false
		}
	}
	return a.src.V6 == a.dst.V6
}

// decoded is the chapter's definition of Decode.
func decoded(a pair, s string) (api.Udp, api.Errno) {
	if !fits(a) {
		return api.Udp{}, api.ErrType
	}
	if len(s) < 8 {
		return api.Udp{}, api.ErrShort
	}
	size := wordAt(s, 4)
	if size < 8 {
		return api.Udp{}, api.ErrFormat
	}
	if size > len(s) {
		return api.Udp{}, api.ErrShort
	}
	sum := wordAt(s, 6)
	if sum != definedSum(a, s[:size]) && (sum != 0 || a.src.V6) {
		return api.Udp{}, api.ErrChecksum
	}
	return api.Udp{Src: wordAt(s, 0), Dst: wordAt(s, 2), Payload: s[8:size]}, api.OK
}

// encoded is the chapter's definition of Encode.
func encoded(a pair, u api.Udp) (string, api.Errno) {
	if !fits(a) {
		return "", api.ErrType
	}
	if u.Src < 0 || u.Src > 65535 || u.Dst < 0 || u.Dst > 65535 {
		return "", api.ErrRange
	}
	if len(u.Payload) > maxPayload {
		return "", api.ErrLong
	}
	return datagram(a, u.Src, u.Dst, u.Payload), api.OK
}

// show returns a short text of a datagram.
func show(u api.Udp) string {
	return fmt.Sprintf("%d to %d with %d bytes %.40q", u.Src, u.Dst, len(u.Payload), u.Payload)
}

// The expectations end a test at its first failure, because some tests have many thousands of them.

func expectDecode(t *testing.T, what string, a pair, s string, want api.Udp) {
	t.Helper()
	if got, err := udp.Decode(a.src, a.dst, s); err != api.OK || got != want {
		t.Fatalf("%s: Decode(%v, %.60q) = %s, %v, want %s", what, a, s, show(got), err, show(want))
	}
}

func expectDecodeError(t *testing.T, what string, a pair, s string, wanted api.Errno) {
	t.Helper()
	if got, err := udp.Decode(a.src, a.dst, s); err != wanted || got != (api.Udp{}) {
		t.Fatalf("%s: Decode(%v, %.60q) = %s, %v, want %v", what, a, s, show(got), err, wanted)
	}
}

// expectDefinition compares Decode with the definition, and returns the error.
func expectDefinition(t *testing.T, a pair, s string) api.Errno {
	t.Helper()
	want, wanted := decoded(a, s)
	if got, err := udp.Decode(a.src, a.dst, s); err != wanted || got != want {
		t.Fatalf("Decode(%v, %.60q) = %s, %v, want %s, %v", a, s, show(got), err, show(want), wanted)
	}
	return wanted
}

func expectEncode(t *testing.T, what string, a pair, u api.Udp, wanted api.Errno) {
	t.Helper()
	want, defined := encoded(a, u)
	if defined != wanted {
		t.Fatalf("%s: the definition says %v, not %v", what, defined, wanted)
	}
	if got, err := udp.Encode(a.src, a.dst, u); err != wanted || got != want {
		t.Fatalf("%s: Encode(%v, %s) = %.60q, %v, want %.60q, %v", what, a, show(u), got, err, want, wanted)
	}
}

// someAddr returns a valid address, with few different words now and then.
func someAddr(r *rand.Rand, v6 bool) api.Addr {
	if !v6 {
		return api.Addr{Lo: uint64(r.Uint32())}
	}
	if r.IntN(4) == 0 {
		return api.Addr{V6: true, Lo: r.Uint64N(3)}
	}
	return api.Addr{V6: true, Hi: r.Uint64(), Lo: r.Uint64()}
}

// somePair returns a pair that mostly fits.
func somePair(r *rand.Rand) pair {
	if r.IntN(10) == 0 {
		l := unfitPairs()
		return l[r.IntN(len(l))]
	}
	v6 := r.IntN(2) == 0
	return pair{someAddr(r, v6), someAddr(r, v6)}
}

// someDatagram returns a datagram that Encode takes.
func someDatagram(r *rand.Rand) api.Udp {
	return api.Udp{Src: r.IntN(65536), Dst: r.IntN(65536), Payload: mixed(r, r.IntN(60))}
}

// someBytes returns the bytes of a datagram that is mostly correct.
func someBytes(r *rand.Rand, a pair) string {
	u := someDatagram(r)
	s := datagram(a, u.Src, u.Dst, u.Payload)
	switch r.IntN(8) {
	case 0:
		return s[:r.IntN(len(s)+1)]
	case 1:
		return s[:4] + two(r.IntN(len(s)+4)) + s[6:]
	case 2:
		return withByte(s, r.IntN(len(s)), byte(r.Uint32()))
	case 3:
		return withSum(s, 0)
	case 4:
		return withSum(s, 65535*r.IntN(2)) + mixed(r, r.IntN(5))
	case 5:
		// The checksum belongs to all the bytes, of which the datagram has only some.
		return s[:4] + two(8+r.IntN(len(s)-7)) + s[6:]
	}
	return s + mixed(r, r.IntN(20))
}

// P13.1

func TestDecode(t *testing.T) {
	example := "\x00\x01\x00\x02\x00\x09\x9e\xd6a"
	expectDecode(t, "the example", low4, example, api.Udp{Src: 1, Dst: 2, Payload: "a"})
	expectDecode(t, "the example with more", low4, example+"b\x00", api.Udp{Src: 1, Dst: 2, Payload: "a"})
	expectDecode(t, "IPv4", mixed4, "\x12\x34\xfe\xdc\x00\x0d\x96\xddhello", api.Udp{Src: 0x1234, Dst: 0xfedc, Payload: "hello"})
	expectDecode(t, "IPv6", mixed6, "\x12\x34\xfe\xdc\x00\x0d\x91\x4ehello", api.Udp{Src: 0x1234, Dst: 0xfedc, Payload: "hello"})
	expectDecode(t, "without payload", low4, "\x00\x00\x00\x00\x00\x08\xff\xdb", api.Udp{})
	expectDecode(t, "the greatest ports", low4, "\xff\xff\xff\xff\x00\x08\xff\xdb", api.Udp{Src: 65535, Dst: 65535})
	expectDecode(t, "without checksum", low4, example[:6]+"\x00\x00other", api.Udp{Src: 1, Dst: 2, Payload: "o"})
	expectDecodeError(t, "another byte", low4, example[:8]+"b", api.ErrChecksum)
}

func TestDecodeOfEveryPort(t *testing.T) {
	for _, a := range []pair{low4, mixed6} {
		for n := range 65536 {
			expectDecode(t, "Src", a, datagram(a, n, 53, "ab"), api.Udp{Src: n, Dst: 53, Payload: "ab"})
			expectDecode(t, "Dst", a, datagram(a, 53, n, "abc"), api.Udp{Src: 53, Dst: n, Payload: "abc"})
		}
	}
}

func TestDecodeOfEveryPrefix(t *testing.T) {
	r := source(131)
	for _, a := range somePairs() {
		for n := range 40 {
			u := api.Udp{Src: 7, Dst: 65535, Payload: mixed(r, n)}
			s := datagram(a, u.Src, u.Dst, u.Payload)
			for k := range len(s) {
				expectDecodeError(t, "a prefix", a, s[:k], api.ErrShort)
			}
			for k := range 10 {
				expectDecode(t, "with further bytes", a, s+mixed(r, k), u)
			}
		}
	}
}

func TestDecodeOfEveryLength(t *testing.T) {
	rest := mixed(source(132), 300)
	for _, a := range []pair{mixed4, mixed6} {
		for n := range 65536 {
			s := "\x01\x02\x03\x04" + two(n) + "\x00\x00" + rest
			switch {
			case n < 8:
				expectDecodeError(t, "a length below 8", a, s, api.ErrFormat)
			case n > len(s):
				expectDecodeError(t, "a length beyond", a, s, api.ErrShort)
				expectDecodeError(t, "a length beyond with a checksum", a, summed(a, s), api.ErrShort)
			default:
				s = summed(a, s[:n]) + s[n:]
				expectDecode(t, "a length", a, s, api.Udp{Src: 0x102, Dst: 0x304, Payload: rest[:n-8]})
			}
		}
	}
}

func TestDecodeOfShortLengths(t *testing.T) {
	for _, a := range []pair{low4, mixed6} {
		for n := range 8 {
			s := "\x01\x02\x03\x04" + two(n) + "\x00\x00"
			for _, further := range []string{"", "a", "ab", strings.Repeat("\x00", 70000)} {
				expectDecodeError(t, "a length below 8", a, s+further, api.ErrFormat)
				expectDecodeError(t, "a length below 8 with a checksum", a, summed(a, s)+further, api.ErrFormat)
			}
		}
	}
}

// Datagrams can be longer than those that Encode makes.
func TestDecodeOfLongDatagrams(t *testing.T) {
	long := mixed(source(133), 70000)
	for _, a := range somePairs() {
		for _, n := range []int{32759, 32760, 32761, 65506, 65507, 65508, 65509, 65520, 65526, 65527} {
			u := api.Udp{Src: 1, Dst: 2, Payload: long[:n]}
			s := datagram(a, 1, 2, u.Payload)
			expectDecode(t, "a long datagram", a, s, u)
			expectDecode(t, "a long datagram with more", a, s+long, u)
			expectDecodeError(t, "a long datagram without its last byte", a, s[:len(s)-1], api.ErrShort)
			expectDecodeError(t, "a long datagram with another last byte", a, withByte(s, len(s)-1, s[len(s)-1]+1), api.ErrChecksum)
		}
	}
}

func TestDecodeOfEveryChecksum(t *testing.T) {
	for _, a := range somePairs() {
		for _, payload := range []string{"", "a", "ab", "\xff", strings.Repeat("\xff", 33)} {
			s := datagram(a, 5, 6, payload)
			right := definedSum(a, s)
			u := api.Udp{Src: 5, Dst: 6, Payload: payload}
			for sum := range 65536 {
				if sum == right || sum == 0 && !a.src.V6 {
					expectDecode(t, "a checksum", a, withSum(s, sum), u)
				} else {
					expectDecodeError(t, "a wrong checksum", a, withSum(s, sum), api.ErrChecksum)
				}
			}
		}
	}
}

// zeroSummed returns a datagram whose words add up to a multiple of 65535, which makes its checksum 0.
func zeroSummed(a pair, payload string) api.Udp {
	s := datagram(a, 0, 0, payload)
	return api.Udp{Src: definedSum(a, s), Payload: payload}
}

func TestDecodeOfAChecksumOf0(t *testing.T) {
	for _, a := range somePairs() {
		for _, payload := range []string{"", "a", "ab", "abcdefg"} {
			u := zeroSummed(a, payload)
			s := two(u.Src) + "\x00\x00" + two(8+len(payload)) + "\x00\x00" + payload
			expectDecode(t, "65535 in place of 0", a, withSum(s, 65535), u)
			if a.src.V6 {
				expectDecodeError(t, "0", a, s, api.ErrChecksum)
			} else {
				expectDecode(t, "0", a, s, u)
			}
			expectDecodeError(t, "1", a, withSum(s, 1), api.ErrChecksum)
			expectDecodeError(t, "65534", a, withSum(s, 65534), api.ErrChecksum)
		}
	}
}

func TestDecodeWithoutChecksum(t *testing.T) {
	r := source(134)
	for range 2000 {
		u := someDatagram(r)
		s := withSum(datagram(low4, u.Src, u.Dst, u.Payload), 0)
		expectDecode(t, "IPv4", mixed4, s, u)
		expectDecodeError(t, "IPv6", mixed6, s, api.ErrChecksum)
	}
}

// Bytes behind the datagram do not count in its checksum, those in it do, an odd last one too.
func TestDecodeOfTheBytesOfTheChecksum(t *testing.T) {
	for _, a := range somePairs() {
		for _, payload := range []string{"", "a", "ab", "abc"} {
			s := datagram(a, 1, 2, payload)
			for c := range 256 {
				further := string([]byte{byte(c)})
				expectDecode(t, "a further byte", a, s+further, api.Udp{Src: 1, Dst: 2, Payload: payload})
				longer := s[:4] + two(len(s)+1) + s[6:] + further
				expectDecode(t, "an added byte", a, summed(a, longer), api.Udp{Src: 1, Dst: 2, Payload: payload + further})
			}
		}
	}
}

func TestDecodeWithOtherAddresses(t *testing.T) {
	s := datagram(mixed4, 1, 2, "abc")
	for k := range 32 {
		a := mixed4
		a.src.Lo ^= 1 << k
		expectDecodeError(t, "another bit of src", a, s, api.ErrChecksum)
		a = mixed4
		a.dst.Lo ^= 1 << k
		expectDecodeError(t, "another bit of dst", a, s, api.ErrChecksum)
	}
	s = datagram(mixed6, 1, 2, "abc")
	for k := range 128 {
		var bit api.Addr
		if k < 64 {
			bit.Lo = 1 << k
		} else {
			bit.Hi = 1 << (k - 64)
		}
		a := mixed6
		a.src.Hi, a.src.Lo = a.src.Hi^bit.Hi, a.src.Lo^bit.Lo
		expectDecodeError(t, "another bit of src", a, s, api.ErrChecksum)
		a = mixed6
		a.dst.Hi, a.dst.Lo = a.dst.Hi^bit.Hi, a.dst.Lo^bit.Lo
		expectDecodeError(t, "another bit of dst", a, s, api.ErrChecksum)
	}
}

// The sum does not depend on the order of the words.
func TestDecodeWithExchangedAddresses(t *testing.T) {
	for _, a := range somePairs() {
		s := datagram(a, 1, 2, "abc")
		expectDecode(t, "exchanged addresses", pair{a.dst, a.src}, s, api.Udp{Src: 1, Dst: 2, Payload: "abc"})
	}
}

func TestDecodeOfAddresses(t *testing.T) {
	s := datagram(low4, 1, 2, "abc")
	for _, a := range unfitPairs() {
		expectDecodeError(t, "addresses that do not fit", a, s, api.ErrType)
		expectDecodeError(t, "addresses that do not fit, exchanged", pair{a.dst, a.src}, s, api.ErrType)
		expectDecodeError(t, "addresses that do not fit, without checksum", a, withSum(s, 0), api.ErrType)
	}
}

func TestDecodeOfSeveralErrors(t *testing.T) {
	bad := pair{api.Addr{Hi: 1}, low4.dst}
	s := datagram(low4, 1, 2, "abcd")
	// sized returns s with another length, and thus a wrong checksum.
	sized := func(n int) string { return s[:4] + two(n) + s[6:] }
	expectDecodeError(t, "type before short", bad, s[:7], api.ErrType)
	expectDecodeError(t, "type before no bytes", bad, "", api.ErrType)
	expectDecodeError(t, "type before a length below 8", bad, sized(7), api.ErrType)
	expectDecodeError(t, "type before a length beyond", bad, sized(13), api.ErrType)
	expectDecodeError(t, "type before checksum", bad, withSum(s, 1), api.ErrType)
	expectDecodeError(t, "short before a length below 8", low4, sized(7)[:7], api.ErrShort)
	expectDecodeError(t, "short before a length beyond", low4, sized(13)[:7], api.ErrShort)
	expectDecodeError(t, "a length below 8 before checksum", low4, withSum(sized(7), 1), api.ErrFormat)
	expectDecodeError(t, "a length below 8 without checksum", low4, withSum(sized(7), 0), api.ErrFormat)
	expectDecodeError(t, "a length beyond before checksum", low4, withSum(sized(13), 1), api.ErrShort)
	expectDecodeError(t, "a length beyond without checksum", low4, withSum(sized(13), 0), api.ErrShort)
	expectDecodeError(t, "another length", low4, sized(11), api.ErrChecksum)
	expectDecodeError(t, "only checksum", low4, withSum(s, 1), api.ErrChecksum)
	expectDecode(t, "no error", low4, s, api.Udp{Src: 1, Dst: 2, Payload: "abcd"})
}

func TestDecodeOfSomeBytes(t *testing.T) {
	r := source(135)
	counts := map[api.Errno]int{}
	for range 100000 {
		a := somePair(r)
		counts[expectDefinition(t, a, someBytes(r, a))]++
	}
	for _, err := range []api.Errno{api.OK, api.ErrType, api.ErrShort, api.ErrFormat, api.ErrChecksum} {
		if counts[err] < 1000 {
			t.Error(err, "came", counts[err], "times")
		}
	}
}

// P13.2

func TestEncode(t *testing.T) {
	for _, x := range []struct {
		a    pair
		u    api.Udp
		want string
	}{
		{low4, api.Udp{Src: 1, Dst: 2, Payload: "a"}, "\x00\x01\x00\x02\x00\x09\x9e\xd6a"},
		{mixed4, api.Udp{Src: 0x1234, Dst: 0xfedc, Payload: "hello"}, "\x12\x34\xfe\xdc\x00\x0d\x96\xddhello"},
		{mixed6, api.Udp{Src: 0x1234, Dst: 0xfedc, Payload: "hello"}, "\x12\x34\xfe\xdc\x00\x0d\x91\x4ehello"},
		{low4, api.Udp{}, "\x00\x00\x00\x00\x00\x08\xff\xdb"},
		{pair{}, api.Udp{Src: 0xffde}, "\xff\xde\x00\x00\x00\x08\xff\xff"},
	} {
		if s, err := udp.Encode(x.a.src, x.a.dst, x.u); s != x.want || err != api.OK {
			t.Errorf("Encode(%v, %v) = %q, %v, want %q", x.a, x.u, s, err, x.want)
		}
	}
}

func TestEncodeOfEveryPort(t *testing.T) {
	for _, a := range []pair{mixed4, mixed6} {
		for n := range 65536 {
			expectEncode(t, "Src", a, api.Udp{Src: n, Dst: 53, Payload: "ab"}, api.OK)
			expectEncode(t, "Dst", a, api.Udp{Src: 53, Dst: n, Payload: "abc"}, api.OK)
		}
	}
}

func TestEncodeOfOtherNumbers(t *testing.T) {
	for _, n := range []int{math.MinInt, math.MinInt + 1, -1 << 32, -65536, -65535, -2, -1, 65536, 65537, 65536 + 53, 1 << 31, 1 << 32, 1<<32 + 53, 1 << 48, math.MaxInt} {
		for _, a := range somePairs() {
			expectEncode(t, "Src", a, api.Udp{Src: n, Dst: 53}, api.ErrRange)
			expectEncode(t, "Dst", a, api.Udp{Src: 53, Dst: n}, api.ErrRange)
			expectEncode(t, "both", a, api.Udp{Src: n, Dst: n, Payload: "a"}, api.ErrRange)
		}
	}
}

func TestEncodeOfAddresses(t *testing.T) {
	for _, a := range somePairs() {
		expectEncode(t, "addresses that fit", a, api.Udp{Src: 1, Dst: 2, Payload: "a"}, api.OK)
	}
	for _, a := range unfitPairs() {
		expectEncode(t, "addresses that do not fit", a, api.Udp{Src: 1, Dst: 2, Payload: "a"}, api.ErrType)
		expectEncode(t, "addresses that do not fit, exchanged", pair{a.dst, a.src}, api.Udp{}, api.ErrType)
	}
}

func TestEncodeOfPayloadLengths(t *testing.T) {
	long := mixed(source(136), 140000)
	lengths := []int{32759, 32760, 65500, 65505, 65506, 65507}
	for n := range 600 {
		lengths = append(lengths, n)
	}
	for _, a := range somePairs() {
		for _, n := range lengths {
			expectEncode(t, "a payload", a, api.Udp{Src: 1, Dst: 2, Payload: long[:n]}, api.OK)
		}
		for _, n := range []int{65508, 65509, 65515, 65527, 65528, 65535, 65536, 65537, 65538, 131072, len(long)} {
			expectEncode(t, "a long payload", a, api.Udp{Src: 1, Dst: 2, Payload: long[:n]}, api.ErrLong)
		}
	}
}

func TestEncodeOfAChecksumOf0(t *testing.T) {
	for _, a := range somePairs() {
		for _, payload := range []string{"", "a", "ab", "abcdefg", strings.Repeat("\xff", 100)} {
			u := zeroSummed(a, payload)
			expectEncode(t, "a checksum of 0", a, u, api.OK)
			if s, _ := udp.Encode(a.src, a.dst, u); s[6:8] != "\xff\xff" {
				t.Errorf("Encode(%v, %s) has the checksum %q", a, show(u), s[6:8])
			}
		}
	}
}

func TestEncodeOfSeveralErrors(t *testing.T) {
	bad := pair{low4.src, mixed6.dst}
	long := strings.Repeat("a", maxPayload+1)
	expectEncode(t, "type before range", bad, api.Udp{Src: -1}, api.ErrType)
	expectEncode(t, "type before long", bad, api.Udp{Payload: long}, api.ErrType)
	expectEncode(t, "type before all", bad, api.Udp{Dst: 65536, Payload: long}, api.ErrType)
	expectEncode(t, "range of Src before long", low4, api.Udp{Src: 65536, Payload: long}, api.ErrRange)
	expectEncode(t, "range of Dst before long", mixed6, api.Udp{Dst: -1, Payload: long}, api.ErrRange)
	expectEncode(t, "only long", low4, api.Udp{Payload: long}, api.ErrLong)
	expectEncode(t, "no error", low4, api.Udp{Payload: long[1:]}, api.OK)
}

func TestEncodeOfSomeDatagrams(t *testing.T) {
	r := source(137)
	for range 50000 {
		a, u := somePair(r), someDatagram(r)
		wanted := api.OK
		if !fits(a) {
			wanted = api.ErrType
		}
		expectEncode(t, "a datagram", a, u, wanted)
	}
}

// P13.3

func expectRoundTrip(t *testing.T, a pair, u api.Udp, further string) {
	t.Helper()
	s, err := udp.Encode(a.src, a.dst, u)
	if err != api.OK {
		t.Fatalf("Encode(%v, %s): %v", a, show(u), err)
	}
	expectDecode(t, "the round trip", a, s+further, u)
}

func TestDecodeOfEncode(t *testing.T) {
	r := source(138)
	long := mixed(r, maxPayload)
	for _, a := range somePairs() {
		expectRoundTrip(t, a, api.Udp{}, "")
		expectRoundTrip(t, a, zeroSummed(a, "abc"), "\x00")
		for _, n := range []int{1, 2, 1000, 1001, maxPayload - 1, maxPayload} {
			expectRoundTrip(t, a, api.Udp{Src: 65535, Dst: 65535, Payload: long[:n]}, "")
			expectRoundTrip(t, a, api.Udp{Dst: 1, Payload: long[:n]}, long)
		}
	}
	for range 20000 {
		v6 := r.IntN(2) == 0
		expectRoundTrip(t, pair{someAddr(r, v6), someAddr(r, v6)}, someDatagram(r), mixed(r, r.IntN(20)))
	}
}

// P13.4

// expectChange changes one byte of a datagram with a checksum to each other value.
func expectChange(t *testing.T, a pair, s string, at int) {
	t.Helper()
	for c := range 256 {
		changed := withByte(s, at, byte(c))
		if changed == s {
			continue
		}
		if !a.src.V6 && changed[6:8] == "\x00\x00" {
			want := api.Udp{Src: wordAt(s, 0), Dst: wordAt(s, 2), Payload: s[8:]}
			expectDecode(t, "a checksum that became 0", a, changed, want)
		} else {
			expectDecodeError(t, "a changed byte", a, changed, api.ErrChecksum)
		}
	}
}

func TestDecodeOfAChangedByte(t *testing.T) {
	r := source(139)
	for _, a := range somePairs() {
		for _, payload := range []string{"", "\x00", "\xff", "ab", "\x00\xff\xff\x00\x00", mixed(r, 20), mixed(r, 21)} {
			for _, port := range []int{0, 53, 65535} {
				s, _ := udp.Encode(a.src, a.dst, api.Udp{Src: port, Dst: 2, Payload: payload})
				for at := range len(s) {
					if at != 4 && at != 5 {
						expectChange(t, a, s, at)
					}
				}
			}
		}
	}
}

// A byte of a checksum like 5 is the whole of it.
func TestDecodeOfAChecksumThatBecomes0(t *testing.T) {
	for _, a := range somePairs() {
		for _, sum := range []int{1, 5, 255, 256, 5 * 256, 255 * 256} {
			// Without the other words, this port is the checksum.
			u := zeroSummed(a, "abc")
			u.Src = (u.Src + 65535 - sum) % 65535
			s, _ := udp.Encode(a.src, a.dst, u)
			if wordAt(s, 6) != sum {
				t.Fatalf("the checksum of %q between %v is not %d", s, a, sum)
			}
			expectChange(t, a, s, 6)
			expectChange(t, a, s, 7)
		}
	}
}

func TestDecodeOfAChangedByteOfALongDatagram(t *testing.T) {
	r := source(140)
	for _, a := range []pair{mixed4, mixed6} {
		s, _ := udp.Encode(a.src, a.dst, api.Udp{Src: 1, Dst: 2, Payload: mixed(r, maxPayload)})
		for _, at := range []int{0, 3, 8, 9, 30000, 65513, 65514} {
			expectDecodeError(t, "a changed byte", a, withByte(s, at, ^s[at]), api.ErrChecksum)
		}
	}
}

// R1

func TestAnyArguments(t *testing.T) {
	r := source(141)
	some := []int{math.MinInt, -1, 0, 1, 65535, 65536, math.MaxInt}
	pairs := append(somePairs(), unfitPairs()...)
	for _, a := range pairs {
		for range 500 {
			s := mixed(r, r.IntN(30))
			expectDefinition(t, a, s)
			u := api.Udp{Src: some[r.IntN(len(some))], Dst: some[r.IntN(len(some))], Payload: s}
			_, wanted := encoded(a, u)
			expectEncode(t, "any datagram", a, u, wanted)
		}
	}
}

// Only small lengths, in strings of every number of bytes around them.
func TestDecodeOfShortStrings(t *testing.T) {
	counts := map[api.Errno]int{}
	for _, a := range append(somePairs(), unfitPairs()[0]) {
		for n := range 24 {
			for size := range 26 {
				s := ("\x00\x05\x00\x06" + two(size) + "\x00\x00" + strings.Repeat("x", 16))[:n]
				counts[expectDefinition(t, a, s)]++
				if 8 <= size && size <= n {
					counts[expectDefinition(t, a, summed(a, s[:size])+s[size:])]++
				}
			}
		}
	}
	for _, err := range []api.Errno{api.OK, api.ErrType, api.ErrShort, api.ErrFormat, api.ErrChecksum} {
		if counts[err] == 0 {
			t.Error(err, "did not come")
		}
	}
}
