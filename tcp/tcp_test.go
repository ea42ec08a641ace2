package tcp_test

import (
	"encoding/binary"
	"fmt"
	"math"
	"math/rand/v2"
	"slices"
	"strings"
	"testing"

	"intrusion/api"
	"intrusion/tcp"
)

// maxPayload is the number of bytes of the longest payload that Encode takes.
const maxPayload = 60000

// pair is the addresses of a segment.
type pair struct{ src, dst api.Addr }

var (
	low4 = pair{api.Addr{Lo: 0x0a000001}, api.Addr{Lo: 0x0a000001}}
	// The words of these addresses are all different.
	mixed4 = pair{api.Addr{Lo: 0x0a0b0c0d}, api.Addr{Lo: 0xfffefdfc}}
	mixed6 = pair{api.Addr{V6: true, Hi: 0x20010db801020304, Lo: 0x05060708090a0b0c}, api.Addr{V6: true, Hi: 0xfffefdfcfbfaf9f8, Lo: 0xf7f6f5f4f3f2f1f0}}
)

// somePairs returns pairs of one family, with the least and the greatest addresses.
func somePairs() []pair {
	zero6, last6 := api.Addr{V6: true}, api.Addr{V6: true, Hi: math.MaxUint64, Lo: math.MaxUint64}
	return []pair{low4, mixed4, mixed6, {}, {api.Addr{Lo: math.MaxUint32}, api.Addr{Lo: math.MaxUint32}}, {zero6, zero6}, {last6, last6}, {zero6, mixed6.dst}}
}

// unfitPairs returns pairs with an address that is not valid, or of two families.
func unfitPairs() []pair {
	var l []pair
	for _, a := range []api.Addr{{Lo: 1 << 32}, {Lo: 1<<32 + 1}, {Lo: math.MaxUint64}, {Hi: 1, Lo: 1}, {Hi: 1 << 63}, {Hi: math.MaxUint64, Lo: math.MaxUint64}} {
		l = append(l, pair{a, low4.dst}, pair{low4.src, a}, pair{a, a}, pair{a, mixed6.dst}, pair{mixed6.src, a})
	}
	// The numbers of ::1 and ::2 are those of IPv4 addresses.
	return append(l, pair{mixed4.src, mixed6.dst}, pair{mixed6.src, mixed4.dst}, pair{low4.src, api.Addr{V6: true, Lo: 2}}, pair{api.Addr{V6: true, Lo: 1}, low4.dst})
}

// source returns pseudo random numbers, the same ones in every run.
func source(seed uint64) *rand.Rand { return rand.New(rand.NewPCG(seed, 0)) }

func mixed(r *rand.Rand, n int) string {
	b := make([]byte, n)
	for k := range b {
		b[k] = byte(r.Uint32())
	}
	return string(b)
}

// bytesOf returns the bytes with these values.
func bytesOf(values ...int) string {
	var b []byte
	for _, n := range values {
		b = append(b, byte(n))
	}
	return string(b)
}

// two returns the two bytes of n, four its four bytes.
func two(n int) string     { return bytesOf(n>>8, n) }
func four(n uint32) string { return string(binary.BigEndian.AppendUint32(nil, n)) }

// wordAt returns the number of the two bytes at an offset, longAt that of the four bytes.
func wordAt(s string, at int) int    { return 256*int(s[at]) + int(s[at+1]) }
func longAt(s string, at int) uint32 { return binary.BigEndian.Uint32([]byte(s[at : at+4])) }

// withByte returns s with another byte at an offset.
func withByte(s string, at int, c byte) string { return s[:at] + bytesOf(int(c)) + s[at+1:] }

// withSum returns s with another checksum.
func withSum(s string, sum int) string { return s[:16] + two(sum) + s[18:] }

// wordsOf returns the sum of the words of a number.
func wordsOf(n uint64) int { return int(n>>48 + n>>32%65536 + n>>16%65536 + n%65536) }

// remainder returns what remains of the sum of the words of the pseudo header and of s; the sum is not 0, because 6 is not.
func remainder(a pair, s string) int {
	sum := wordsOf(a.src.Hi) + wordsOf(a.src.Lo) + wordsOf(a.dst.Hi) + wordsOf(a.dst.Lo) + 6 + len(s)
	s += strings.Repeat("\x00", len(s)%2)
	for k := 0; k < len(s); k += 2 {
		sum += wordAt(s, k)
	}
	return sum % 65535
}

// summed returns s with its checksum.
func summed(a pair, s string) string {
	return withSum(s, (65535-remainder(a, withSum(s, 0)))%65535)
}

// segment returns the bytes of the segment of plain, with these bytes as its options, in the units of the header length.
func segment(a pair, options, payload string) string {
	start := "\x12\x34\xfe\xdc\xf0\xe1\xd2\xc3\x01\x23\x45\x67" + bytesOf((20+len(options))*4, 0x18) + "\xab\xcd\x00\x00\x43\x21"
	return summed(a, start+options+payload)
}

// plain returns a segment whose numbers are all different.
func plain(payload string, options ...api.Option) api.Tcp {
	return api.Tcp{
		Src: 0x1234, Dst: 0xfedc, Seq: 0xf0e1d2c3, Ack: 0x01234567, Flags: api.FlagAck + api.FlagPsh, Window: 0xabcd, Urgent: 0x4321,
		Options: options, Payload: payload,
	}
}

// changedPlain returns the plain segment after a change.
func changedPlain(change func(x *api.Tcp)) api.Tcp {
	x := plain("abc")
	change(&x)
	return x
}

// fits is the chapter's definition of the addresses that Decode and Encode take.
func fits(a pair) bool {
	for _, x := range []api.Addr{a.src, a.dst} {
		if !x.V6 && (x.Hi != 0 || x.Lo > math.MaxUint32) {
			return false
		}
	}
	return a.src.V6 == a.dst.V6
}

// definedOptions is the chapter's definition of the options.
func definedOptions(s string) ([]api.Option, bool) {
	if s == "" || s[0] == 0 {
		return nil, true
	}
	if s[0] == 1 {
		return definedOptions(s[1:])
	}
	if len(s) == 1 || s[1] < 2 || int(s[1]) > len(s) {
		return nil, false
	}
	rest, ok := definedOptions(s[s[1]:])
	if !ok {
		return nil, false
	}
	return append([]api.Option{{Kind: int(s[0]), Data: s[2:s[1]]}}, rest...), true
}

// decoded is the chapter's definition of Decode.
func decoded(a pair, s string) (api.Tcp, api.Errno) {
	if !fits(a) {
		return api.Tcp{}, api.ErrType
	}
	if len(s) > 65535 {
		return api.Tcp{}, api.ErrLong
	}
	if len(s) < 20 {
		return api.Tcp{}, api.ErrShort
	}
	size := int(s[12]/16) * 4
	if size < 20 {
		return api.Tcp{}, api.ErrFormat
	}
	if size > len(s) {
		return api.Tcp{}, api.ErrShort
	}
	if remainder(a, s) != 0 {
		return api.Tcp{}, api.ErrChecksum
	}
	options, ok := definedOptions(s[20:size])
	if !ok {
		return api.Tcp{}, api.ErrFormat
	}
	return api.Tcp{
		Src: wordAt(s, 0), Dst: wordAt(s, 2), Seq: longAt(s, 4), Ack: longAt(s, 8), Flags: int(s[13] % 64), Window: wordAt(s, 14), Urgent: wordAt(s, 18),
		Options: options, Payload: s[size:],
	}, api.OK
}

// isOutside is the chapter's definition of the numbers that Encode does not take.
func isOutside(x api.Tcp) bool {
	for _, n := range []int{x.Src, x.Dst, x.Window, x.Urgent} {
		if n < 0 || n > 65535 {
			return true
		}
	}
	return x.Flags < 0 || x.Flags > 63 || slices.ContainsFunc(x.Options, func(o api.Option) bool { return o.Kind < 2 || o.Kind > 255 })
}

// encoded is the chapter's definition of Encode.
func encoded(a pair, x api.Tcp) (string, api.Errno) {
	if isOutside(x) {
		return "", api.ErrRange
	}
	need := 0
	for _, o := range x.Options {
		need += 2 + len(o.Data)
	}
	if need > 40 || len(x.Payload) > maxPayload {
		return "", api.ErrLong
	}
	if !fits(a) {
		return "", api.ErrType
	}
	options := ""
	for _, o := range x.Options {
		options += bytesOf(o.Kind, 2+len(o.Data)) + o.Data
	}
	options += strings.Repeat("\x00", (4-need%4)%4)
	start := two(x.Src) + two(x.Dst) + four(x.Seq) + four(x.Ack) + bytesOf((5+len(options)/4)*16, x.Flags) + two(x.Window) + "\x00\x00" + two(x.Urgent)
	return summed(a, start+options+x.Payload), api.OK
}

// show returns a short text of a segment.
func show(x api.Tcp) string {
	payload := x.Payload
	x.Payload = ""
	return fmt.Sprintf("%.200s %d bytes %.40q", fmt.Sprintf("%+v", x), len(payload), payload)
}

func isSame(x, y api.Tcp) bool {
	return x.Src == y.Src && x.Dst == y.Dst && x.Seq == y.Seq && x.Ack == y.Ack && x.Flags == y.Flags && x.Window == y.Window && x.Urgent == y.Urgent &&
		slices.Equal(x.Options, y.Options) && x.Payload == y.Payload
}

// The expectations end a test at its first failure, because some tests have many thousands of them.

func expectDecode(t *testing.T, what string, a pair, s string, want api.Tcp) {
	t.Helper()
	if got, err := tcp.Decode(a.src, a.dst, s); err != api.OK || !isSame(got, want) {
		t.Fatalf("%s: Decode(%v, %.80q) = %s, %v, want %s", what, a, s, show(got), err, show(want))
	}
}

func expectDecodeError(t *testing.T, what string, a pair, s string, wanted api.Errno) {
	t.Helper()
	if got, err := tcp.Decode(a.src, a.dst, s); err != wanted || !isSame(got, api.Tcp{}) {
		t.Fatalf("%s: Decode(%v, %.80q) = %s, %v, want %v", what, a, s, show(got), err, wanted)
	}
}

// expectDefinition compares Decode with the definition, and returns the error.
func expectDefinition(t *testing.T, a pair, s string) api.Errno {
	t.Helper()
	want, wanted := decoded(a, s)
	if got, err := tcp.Decode(a.src, a.dst, s); err != wanted || !isSame(got, want) {
		t.Fatalf("Decode(%v, %.80q) = %s, %v, want %s, %v", a, s, show(got), err, show(want), wanted)
	}
	return wanted
}

func expectEncode(t *testing.T, what string, a pair, x api.Tcp, wanted api.Errno) {
	t.Helper()
	want, defined := encoded(a, x)
	if defined != wanted {
		t.Fatalf("%s: the definition says %v, not %v", what, defined, wanted)
	}
	if got, err := tcp.Encode(a.src, a.dst, x); err != wanted || got != want {
		t.Fatalf("%s: Encode(%v, %s) = %.80q, %v, want %.80q, %v", what, a, show(x), got, err, want, wanted)
	}
}

// someAddr returns a valid address, with few different words now and then.
func someAddr(r *rand.Rand, v6 bool) api.Addr {
	if !v6 {
		return api.Addr{Lo: uint64(r.Uint32())}
	}
	if r.IntN(4) == 0 {
		return api.Addr{V6: true, Lo: r.Uint64N(3)}
	}
	return api.Addr{V6: true, Hi: r.Uint64(), Lo: r.Uint64()}
}

// somePair returns a pair that mostly fits.
func somePair(r *rand.Rand) pair {
	if r.IntN(15) == 0 {
		l := unfitPairs()
		return l[r.IntN(len(l))]
	}
	v6 := r.IntN(2) == 0
	return pair{someAddr(r, v6), someAddr(r, v6)}
}

// someOptions returns options that need at most 40 bytes, or a few more.
func someOptions(r *rand.Rand) []api.Option {
	var l []api.Option
	for range r.IntN(6) {
		l = append(l, api.Option{Kind: []int{2, 3, 4, 5, 8, 30, 127, 128, 195, 255, 2 + r.IntN(254)}[r.IntN(11)], Data: mixed(r, r.IntN(9))})
	}
	return l
}

// someSegment returns a segment that Encode takes, but for its options now and then.
func someSegment(r *rand.Rand) api.Tcp {
	return api.Tcp{
		Src: r.IntN(65536), Dst: r.IntN(65536), Seq: r.Uint32(), Ack: r.Uint32(), Flags: r.IntN(64), Window: r.IntN(65536), Urgent: r.IntN(65536),
		Options: someOptions(r), Payload: mixed(r, r.IntN(60)),
	}
}

// someOptionBytes returns bytes that are mostly options, in the units of the header length.
func someOptionBytes(r *rand.Rand) string {
	s := ""
	for r.IntN(3) > 0 && len(s) < 28 {
		switch r.IntN(6) {
		case 0:
			s += "\x01"
		case 1:
			s += mixed(r, 1+r.IntN(2))
		case 2:
			// The bytes of one character.
			s += []string{"\xc3\x84", "\xe2\x82\xac", "\xf0\x9f\x98\x80", "\xef\xbf\xbd", "\x03\x04\xc3\xa4", "\x03\x03\xc2\x80\x02"}[r.IntN(6)]
		default:
			data := mixed(r, r.IntN(9))
			s += bytesOf(2+r.IntN(254), 2+len(data)) + data
		}
	}
	return s + strings.Repeat(bytesOf(r.IntN(2)), (4-len(s)%4)%4)
}

// someBytes returns the bytes of a segment that is mostly correct.
func someBytes(r *rand.Rand, a pair) string {
	b := []byte(segment(a, someOptionBytes(r), mixed(r, r.IntN(30))))
	for _, at := range []int{0, 1, 2, 3, 4, 5, 6, 7, 8, 9, 10, 11, 13, 14, 15, 18, 19} {
		b[at] = byte(r.Uint32())
	}
	b[12] |= byte(r.IntN(16))
	s := string(b)
	switch r.IntN(12) {
	case 0:
		s = withByte(s, 12, byte(r.Uint32()))
	case 1:
		s = s[:r.IntN(len(s)+1)]
	case 2:
		return s
	}
	if len(s) < 20 {
		return s
	}
	return summed(a, s)
}

// P14.1

func TestDecode(t *testing.T) {
	example := "\x00\x01\x00\x02\x00\x00\x00\x03\x00\x00\x00\x00\x50\x02\x00\x04\x9b\xd7\x00\x00"
	expectDecode(t, "the example of Encode", low4, example, api.Tcp{Src: 1, Dst: 2, Seq: 3, Flags: api.FlagSyn, Window: 4})
	expectDecodeError(t, "another byte", low4, example[:19]+"\x01", api.ErrChecksum)
	expectDecodeError(t, "a further byte", low4, example+"\x00", api.ErrChecksum)
	start := "\x12\x34\xfe\xdc\xf0\xe1\xd2\xc3\x01\x23\x45\x67"
	expectDecode(t, "IPv4", mixed4, start+"\x50\x18\xab\xcd\xcd\x23\x43\x21abc", plain("abc"))
	expectDecode(t, "IPv6", mixed6, start+"\x50\x18\xab\xcd\xc7\x94\x43\x21abc", plain("abc"))
	expectDecode(t, "options", mixed4, start+"\x70\x18\xab\xcd\xa6\x12\x43\x21\x02\x04\x01\x02\x01\x03\x03\x00abc",
		plain("abc", api.Option{Kind: 2, Data: "\x01\x02"}, api.Option{Kind: 3, Data: "\x00"}))
	zeros := strings.Repeat("\x00", 12) + "\x50\x00\x00\x00\xaf\xe5\x00\x00"
	expectDecode(t, "zeros", pair{}, zeros, api.Tcp{})
	ones := summed(low4, strings.Repeat("\xff", 12)+"\x5f\xff\xff\xff\x00\x00\xff\xff\xff")
	expectDecode(t, "the greatest numbers", low4, ones, api.Tcp{
		Src: 65535, Dst: 65535, Seq: math.MaxUint32, Ack: math.MaxUint32, Flags: 63, Window: 65535, Urgent: 65535, Payload: "\xff",
	})
}

func TestDecodeOfEveryNumber(t *testing.T) {
	s := segment(mixed4, "", "abc")
	for n := range 65536 {
		word := two(n)
		for at, change := range map[int]func(x *api.Tcp){
			0:  func(x *api.Tcp) { x.Src = n },
			2:  func(x *api.Tcp) { x.Dst = n },
			4:  func(x *api.Tcp) { x.Seq = x.Seq%65536 + uint32(n)<<16 },
			6:  func(x *api.Tcp) { x.Seq = x.Seq>>16<<16 + uint32(n) },
			8:  func(x *api.Tcp) { x.Ack = x.Ack%65536 + uint32(n)<<16 },
			10: func(x *api.Tcp) { x.Ack = x.Ack>>16<<16 + uint32(n) },
			14: func(x *api.Tcp) { x.Window = n },
			18: func(x *api.Tcp) { x.Urgent = n },
		} {
			expectDecode(t, "a number", mixed4, summed(mixed4, s[:at]+word+s[at+2:]), changedPlain(change))
		}
	}
}

// The ignored bits change nothing but the checksum.
func TestDecodeOfEveryHeaderLengthAndFlags(t *testing.T) {
	long := segment(mixed4, strings.Repeat("\x01", 40), "abcdef")
	for n := range 65536 {
		s := summed(mixed4, long[:12]+two(n)+long[14:])
		size := n >> 12 * 4
		if size < 20 {
			expectDecodeError(t, "a header length", mixed4, s, api.ErrFormat)
			continue
		}
		want := changedPlain(func(x *api.Tcp) { x.Flags, x.Payload = n%64, s[size:] })
		expectDecode(t, "a header length", mixed4, s, want)
	}
}

func TestDecodeOfShortSegments(t *testing.T) {
	for _, a := range somePairs() {
		for n := range 11 {
			whole := segment(a, strings.Repeat("\x01", 4*n), "abcde")
			for k := range len(whole) {
				s := whole[:k]
				if k >= 20 {
					s = summed(a, s)
				}
				if k < 20+4*n {
					expectDecodeError(t, "a prefix with a checksum", a, s, api.ErrShort)
					expectDecodeError(t, "a prefix", a, whole[:k], api.ErrShort)
				} else {
					expectDecode(t, "a prefix with a checksum", a, s, plain("abcde"[:k-20-4*n]))
				}
			}
		}
	}
}

func TestDecodeOfSmallHeaderLengths(t *testing.T) {
	for units := range 5 {
		for k := range 30 {
			s := withByte(segment(low4, "", "abcdefghij"), 12, byte(16*units))[:k]
			if k < 20 {
				expectDecodeError(t, "fewer than 20 bytes", low4, s, api.ErrShort)
				continue
			}
			expectDecodeError(t, "a small header length", low4, s, api.ErrFormat)
			expectDecodeError(t, "a small header length with a checksum", low4, summed(low4, s), api.ErrFormat)
		}
	}
}

func TestDecodeOfLongSegments(t *testing.T) {
	long := mixed(source(141), 140000)
	for _, a := range somePairs() {
		for _, n := range []int{32768, 59999, 60000, 60001, 65514, 65515} {
			s := segment(a, "", long[:n])
			expectDecode(t, "a long segment", a, s, plain(long[:n]))
			expectDecodeError(t, "another last byte", a, withByte(s, len(s)-1, s[len(s)-1]+1), api.ErrChecksum)
		}
		expectDecode(t, "a long segment with options", a, segment(a, "\x09\x04ab", long[:65511]), plain(long[:65511], api.Option{Kind: 9, Data: "ab"}))
		for _, n := range []int{65516, 65517, 70000, 131072 - 20, 140000} {
			expectDecodeError(t, "too long", a, segment(a, "", long[:n]), api.ErrLong)
		}
	}
}

func TestDecodeOfEveryChecksum(t *testing.T) {
	for _, a := range somePairs() {
		for _, payload := range []string{"", "a", "ab", "\xff", strings.Repeat("\xff", 33)} {
			s := segment(a, "", payload)
			right := wordAt(s, 16)
			for sum := range 65536 {
				if sum%65535 == right {
					expectDecode(t, "a checksum", a, withSum(s, sum), plain(payload))
				} else {
					expectDecodeError(t, "a wrong checksum", a, withSum(s, sum), api.ErrChecksum)
				}
			}
		}
	}
}

// zeroSummed returns a segment whose checksum is 0.
func zeroSummed(a pair) api.Tcp {
	x := plain("abc")
	x.Urgent = 0
	s, _ := encoded(a, x)
	x.Urgent = wordAt(s, 16)
	return x
}

// Both 0 and 65535 give the sum 0.
func TestDecodeOfAChecksumOf0(t *testing.T) {
	for _, a := range somePairs() {
		x := zeroSummed(a)
		s, _ := encoded(a, x)
		expectDecode(t, "0", a, withSum(s, 0), x)
		expectDecode(t, "65535", a, withSum(s, 65535), x)
		expectDecodeError(t, "1", a, withSum(s, 1), api.ErrChecksum)
		expectDecodeError(t, "65534", a, withSum(s, 65534), api.ErrChecksum)
	}
}

func TestDecodeWithOtherAddresses(t *testing.T) {
	s := segment(mixed4, "", "abc")
	for k := range 32 {
		a := mixed4
		a.src.Lo ^= 1 << k
		expectDecodeError(t, "another bit of src", a, s, api.ErrChecksum)
		a = mixed4
		a.dst.Lo ^= 1 << k
		expectDecodeError(t, "another bit of dst", a, s, api.ErrChecksum)
	}
	s = segment(mixed6, "", "abc")
	for k := range 64 {
		for _, change := range []func(a *pair){
			func(a *pair) { a.src.Lo ^= 1 << k },
			func(a *pair) { a.src.Hi ^= 1 << k },
			func(a *pair) { a.dst.Lo ^= 1 << k },
			func(a *pair) { a.dst.Hi ^= 1 << k },
		} {
			a := mixed6
			change(&a)
			expectDecodeError(t, "another bit", a, s, api.ErrChecksum)
		}
	}
}

func TestDecodeOfAddresses(t *testing.T) {
	s := segment(low4, "", "abc")
	for _, a := range unfitPairs() {
		expectDecodeError(t, "addresses", a, s, api.ErrType)
		expectDecodeError(t, "exchanged addresses", pair{a.dst, a.src}, s, api.ErrType)
	}
	for _, a := range somePairs() {
		expectDecode(t, "addresses", a, segment(a, "", "abc"), plain("abc"))
		expectDecode(t, "exchanged addresses", pair{a.dst, a.src}, segment(a, "", "abc"), plain("abc"))
	}
}

func TestDecodeOfEveryKindAndLength(t *testing.T) {
	for _, behind := range []int{2, 6, 38} {
		for n := range 65536 {
			s := segment(mixed4, two(n)+strings.Repeat("\x01", behind), "abc")
			kind, size := n>>8, n%256
			switch {
			case kind == 0:
				expectDecode(t, "an end", mixed4, s, plain("abc"))
			case kind == 1:
				// The second byte is an end, a skipped byte, or a kind that is followed by the length 1.
				expectDefinition(t, mixed4, s)
			case size < 2 || size > behind+2:
				expectDecodeError(t, "a length", mixed4, s, api.ErrFormat)
			default:
				expectDecode(t, "an option", mixed4, s, plain("abc", api.Option{Kind: kind, Data: strings.Repeat("\x01", size-2)}))
			}
		}
	}
}

// A kind can be any byte of the header but the last one.
func TestDecodeOfAKindAtTheEnd(t *testing.T) {
	for size := 4; size <= 40; size += 4 {
		for kind := range 256 {
			s := segment(mixed6, strings.Repeat("\x01", size-1)+bytesOf(kind), "\x02abc")
			if kind < 2 {
				expectDecode(t, "the last byte", mixed6, s, plain("\x02abc"))
			} else {
				expectDecodeError(t, "a kind at the end", mixed6, s, api.ErrFormat)
			}
			s = segment(mixed6, strings.Repeat("\x01", size-2)+bytesOf(kind)+"\x02", "abc")
			switch {
			case kind == 0:
				expectDecode(t, "an end", mixed6, s, plain("abc"))
			case kind == 1:
				expectDecodeError(t, "a kind of 2 at the end", mixed6, s, api.ErrFormat)
			default:
				expectDecode(t, "an option without Data", mixed6, s, plain("abc", api.Option{Kind: kind}))
			}
			s = segment(mixed6, strings.Repeat("\x01", size-2)+bytesOf(max(kind, 2))+"\x03", "abc")
			expectDecodeError(t, "a length beyond the header", mixed6, s, api.ErrFormat)
		}
	}
}

func TestDecodeOfOptions(t *testing.T) {
	expectDecode(t, "several", low4, segment(low4, "\x01\x02\x04ab\x01\x01\x05\x02\xff\x03c", "\x00"),
		plain("\x00", api.Option{Kind: 2, Data: "ab"}, api.Option{Kind: 5}, api.Option{Kind: 255, Data: "c"}))
	expectDecode(t, "the same kind twice", low4, segment(low4, "\x08\x03a\x08\x03b\x01\x00", ""), plain("", api.Option{Kind: 8, Data: "a"}, api.Option{Kind: 8, Data: "b"}))
	expectDecode(t, "after the end", low4, segment(low4, "\x08\x03a\x00\x08\x03b\x01", ""), plain("", api.Option{Kind: 8, Data: "a"}))
	expectDecode(t, "malformed bytes after the end", low4, segment(low4, "\x08\x03a\x00\x08\x01\xff\xff", ""), plain("", api.Option{Kind: 8, Data: "a"}))
	expectDecode(t, "ends and kinds in Data", low4, segment(low4, "\x08\x08\x00\x01\x00\x02\xff\x01", ""), plain("", api.Option{Kind: 8, Data: "\x00\x01\x00\x02\xff\x01"}))
	data := mixed(source(142), 38)
	expectDecode(t, "one long", low4, segment(low4, "\xfe\x28"+data, "x"), plain("x", api.Option{Kind: 254, Data: data}))
	expectDecodeError(t, "one that is too long", low4, segment(low4, "\xfe\x29"+data, "x"), api.ErrFormat)
	expectDecodeError(t, "a malformed one after a good one", low4, segment(low4, "\x08\x03a\x08\x01\x00\x00\x00", ""), api.ErrFormat)
	for k := range 10 {
		l := slices.Repeat([]api.Option{{Kind: 200}}, 2*k)
		expectDecode(t, "many", low4, segment(low4, strings.Repeat("\xc8\x02", 2*k), "x"), plain("x", l...))
	}
}

// Bytes that form one character count as several bytes.
func TestDecodeOfCharacters(t *testing.T) {
	for first := 0x80; first < 0x100; first++ {
		for second := 0x80; second < 0x100; second++ {
			s := bytesOf(first, second)
			expectDefinition(t, mixed4, segment(mixed4, s+strings.Repeat("\x01", 38), ""))
			expectDecode(t, "in Data", mixed4, segment(mixed4, "\x02\x04"+s, ""), plain("", api.Option{Kind: 2, Data: s}))
			want := plain("", api.Option{Kind: 2, Data: bytesOf(first)}, api.Option{Kind: second, Data: "ab"}, api.Option{Kind: 3})
			expectDecode(t, "between options", mixed4, segment(mixed4, "\x02\x03"+s+"\x04ab\x03\x02\x01\x01\x01", ""), want)
		}
	}
	for _, s := range []string{"\u20ac", "\ufffd", "\U0001f600", "\u0080", "\u07ff"} {
		expectDecode(t, "a character", low4, segment(low4, bytesOf(9, 2+len(s))+s+strings.Repeat("\x00", (6-len(s))%4), ""), plain("", api.Option{Kind: 9, Data: s}))
	}
}

func TestDecodeOfAllShortOptions(t *testing.T) {
	alphabet := []byte{0, 1, 2, 3, 4, 8, 0xc3, 0xff}
	var all []string
	for n := range 8 * 8 * 8 * 8 {
		all = append(all, string([]byte{alphabet[n%8], alphabet[n/8%8], alphabet[n/64%8], alphabet[n/512]}))
	}
	counts := map[api.Errno]int{}
	for _, s := range all {
		counts[expectDefinition(t, low4, segment(low4, s, "abc"))]++
		counts[expectDefinition(t, low4, segment(low4, "\x02\x05abc"+s+"\x01\x01\x01", "abc"))]++
		counts[expectDefinition(t, low4, segment(low4, "\x01\x01"+s+"\x03\x02", ""))]++
	}
	if counts[api.OK] < 1000 || counts[api.ErrFormat] < 1000 || len(counts) != 2 {
		t.Error(counts)
	}
}

func TestDecodeOfSeveralErrors(t *testing.T) {
	bad := pair{api.Addr{Hi: 1}, low4.dst}
	long := strings.Repeat("a", 70000)
	s := segment(low4, "\x08\x01\x01\x01", "abc")
	// sized returns s with another header length, and thus a wrong checksum.
	sized := func(units int) string { return withByte(s, 12, byte(16*units)) }
	expectDecodeError(t, "type before long", bad, s+long, api.ErrType)
	expectDecodeError(t, "type before short", bad, s[:19], api.ErrType)
	expectDecodeError(t, "type before no bytes", bad, "", api.ErrType)
	expectDecodeError(t, "type before a small header length", bad, sized(4), api.ErrType)
	expectDecodeError(t, "type before a great header length", bad, sized(15), api.ErrType)
	expectDecodeError(t, "type before checksum", bad, withByte(s, 0, 99), api.ErrType)
	expectDecodeError(t, "long before a small header length", low4, sized(4)+long, api.ErrLong)
	expectDecodeError(t, "long before checksum", low4, s+long, api.ErrLong)
	expectDecodeError(t, "long before a malformed option", low4, summed(low4, s+long), api.ErrLong)
	expectDecodeError(t, "short before a small header length", low4, sized(4)[:19], api.ErrShort)
	expectDecodeError(t, "a small header length before checksum", low4, sized(4), api.ErrFormat)
	expectDecodeError(t, "a great header length before checksum", low4, sized(15), api.ErrShort)
	expectDecodeError(t, "a great header length before a malformed option", low4, summed(low4, sized(15)), api.ErrShort)
	expectDecodeError(t, "checksum before a malformed option", low4, withByte(s, 0, 99), api.ErrChecksum)
	expectDecodeError(t, "only a malformed option", low4, s, api.ErrFormat)
	expectDecode(t, "no error", low4, summed(low4, sized(5)), plain("\x08\x01\x01\x01abc"))
}

func TestDecodeOfSomeBytes(t *testing.T) {
	r := source(143)
	counts := map[api.Errno]int{}
	for range 100000 {
		a := somePair(r)
		counts[expectDefinition(t, a, someBytes(r, a))]++
	}
	for _, err := range []api.Errno{api.OK, api.ErrType, api.ErrShort, api.ErrFormat, api.ErrChecksum} {
		if counts[err] < 1000 {
			t.Error(err, "came", counts[err], "times")
		}
	}
}

// P14.2

func TestEncode(t *testing.T) {
	start := "\x12\x34\xfe\xdc\xf0\xe1\xd2\xc3\x01\x23\x45\x67"
	mss := api.Option{Kind: 2, Data: "\x01\x02"}
	for _, x := range []struct {
		a    pair
		x    api.Tcp
		want string
	}{
		{low4, api.Tcp{Src: 1, Dst: 2, Seq: 3, Flags: api.FlagSyn, Window: 4}, "\x00\x01\x00\x02\x00\x00\x00\x03\x00\x00\x00\x00\x50\x02\x00\x04\x9b\xd7\x00\x00"},
		{mixed4, plain("abc"), start + "\x50\x18\xab\xcd\xcd\x23\x43\x21abc"},
		{mixed6, plain("abc"), start + "\x50\x18\xab\xcd\xc7\x94\x43\x21abc"},
		{mixed4, plain("abc", mss), start + "\x60\x18\xab\xcd\xba\x19\x43\x21\x02\x04\x01\x02abc"},
		{mixed4, plain("abc", mss, api.Option{Kind: 3, Data: "\x07"}), start + "\x70\x18\xab\xcd\xa0\x12\x43\x21\x02\x04\x01\x02\x03\x03\x07\x00abc"},
		{pair{}, api.Tcp{}, strings.Repeat("\x00", 12) + "\x50\x00\x00\x00\xaf\xe5\x00\x00"},
	} {
		if s, err := tcp.Encode(x.a.src, x.a.dst, x.x); s != x.want || err != api.OK {
			t.Errorf("Encode(%v, %s) = %q, %v, want %q", x.a, show(x.x), s, err, x.want)
		}
	}
}

// changeNumber returns, for each number of a segment that has a range, what sets it.
func changeNumber(n int) []func(x *api.Tcp) {
	return []func(x *api.Tcp){
		func(x *api.Tcp) { x.Src = n },
		func(x *api.Tcp) { x.Dst = n },
		func(x *api.Tcp) { x.Window = n },
		func(x *api.Tcp) { x.Urgent = n },
		func(x *api.Tcp) { x.Flags = n },
		func(x *api.Tcp) { x.Options = []api.Option{{Kind: n}} },
		func(x *api.Tcp) { x.Options = []api.Option{{Kind: 2}, {Kind: n, Data: "a"}, {Kind: 3}} },
		func(x *api.Tcp) { x.Options = []api.Option{{Kind: 2}, {Kind: 3}, {Kind: n}} },
	}
}

func TestEncodeOfEveryNumber(t *testing.T) {
	for n := range 65536 {
		for k, change := range changeNumber(n) {
			wanted := api.OK
			if k == 4 && n > 63 || k > 4 && (n < 2 || n > 255) {
				wanted = api.ErrRange
			}
			expectEncode(t, "a number", mixed4, changedPlain(change), wanted)
		}
		for shift := range 2 {
			half := uint32(n) << (16 * shift)
			expectEncode(t, "Seq", mixed4, changedPlain(func(x *api.Tcp) { x.Seq = half }), api.OK)
			expectEncode(t, "Ack", mixed4, changedPlain(func(x *api.Tcp) { x.Ack = half + 1 }), api.OK)
		}
	}
}

func TestEncodeOfOtherNumbers(t *testing.T) {
	for _, n := range []int{math.MinInt, math.MinInt + 1, -1 << 32, -1<<32 + 9, -65536, -65535, -256, -254, -2, -1, 65536, 65536 + 9, 1 << 31, 1 << 32, 1<<32 + 9, 1 << 48, math.MaxInt} {
		for _, a := range somePairs() {
			for _, change := range changeNumber(n) {
				expectEncode(t, "a number", a, changedPlain(change), api.ErrRange)
			}
		}
	}
}

func TestEncodeOfAddresses(t *testing.T) {
	for _, a := range somePairs() {
		expectEncode(t, "addresses", a, plain("abc"), api.OK)
	}
	for _, a := range unfitPairs() {
		expectEncode(t, "addresses", a, plain("abc"), api.ErrType)
		expectEncode(t, "exchanged addresses", pair{a.dst, a.src}, api.Tcp{}, api.ErrType)
	}
}

// optionsOf returns count options with n bytes of Data in all.
func optionsOf(r *rand.Rand, count, n int) []api.Option {
	var l []api.Option
	for k := range count {
		size := r.IntN(n + 1)
		if k == count-1 {
			size = n
		}
		n -= size
		l = append(l, api.Option{Kind: 2 + r.IntN(254), Data: mixed(r, size)})
	}
	return l
}

func TestEncodeOfOptions(t *testing.T) {
	r := source(144)
	for count := 1; count <= 22; count++ {
		for n := range 60 {
			wanted := api.OK
			if 2*count+n > 40 {
				wanted = api.ErrLong
			}
			for _, payload := range []string{"", "abc", "abcd"} {
				expectEncode(t, "options", mixed6, plain(payload, optionsOf(r, count, n)...), wanted)
			}
		}
	}
	for _, n := range []int{254, 255, 256, 65534, 65536, 65536 + 3, 1 << 20} {
		expectEncode(t, "a long option", low4, plain("", api.Option{Kind: 2, Data: strings.Repeat("a", n)}), api.ErrLong)
		expectEncode(t, "a long option between others", low4, plain("", api.Option{Kind: 2}, api.Option{Kind: 2, Data: strings.Repeat("a", n)}, api.Option{Kind: 2}), api.ErrLong)
	}
	expectEncode(t, "many options", low4, plain("", slices.Repeat([]api.Option{{Kind: 2}}, 1<<15)...), api.ErrLong)
}

func TestEncodeOfPayloadLengths(t *testing.T) {
	long := mixed(source(145), 140000)
	lengths := []int{32768, 59998, 59999, 60000}
	for n := range 300 {
		lengths = append(lengths, n)
	}
	full := api.Option{Kind: 2, Data: long[:38]}
	for _, a := range somePairs() {
		for _, n := range lengths {
			expectEncode(t, "a payload", a, plain(long[:n]), api.OK)
			expectEncode(t, "a payload after options", a, plain(long[:n], full), api.OK)
		}
		for _, n := range []int{60001, 60002, 60020, 65475, 65515, 65516, 65535, 65536, 131072, len(long)} {
			expectEncode(t, "a long payload", a, plain(long[:n]), api.ErrLong)
			expectEncode(t, "a long payload after options", a, plain(long[:n], full), api.ErrLong)
		}
	}
}

// A checksum of 0 is written as 0.
func TestEncodeOfAChecksumOf0(t *testing.T) {
	for _, a := range somePairs() {
		x := zeroSummed(a)
		expectEncode(t, "a checksum of 0", a, x, api.OK)
		if s, _ := tcp.Encode(a.src, a.dst, x); s[16:18] != "\x00\x00" {
			t.Errorf("Encode(%v, %s) has the checksum %q", a, show(x), s[16:18])
		}
	}
}

func TestEncodeOfSeveralErrors(t *testing.T) {
	bad := pair{low4.src, mixed6.dst}
	long := strings.Repeat("a", maxPayload+1)
	tooMany := []api.Option{{Kind: 9, Data: long[:39]}}
	expectEncode(t, "range before long", low4, changedPlain(func(x *api.Tcp) { x.Src, x.Payload = 65536, long }), api.ErrRange)
	expectEncode(t, "range before long options", low4, changedPlain(func(x *api.Tcp) { x.Flags, x.Options = 64, tooMany }), api.ErrRange)
	expectEncode(t, "range of a kind before long", low4, plain(long, append(slices.Clone(tooMany), api.Option{Kind: 1})...), api.ErrRange)
	expectEncode(t, "range before type", bad, changedPlain(func(x *api.Tcp) { x.Urgent = -1 }), api.ErrRange)
	expectEncode(t, "range before all", bad, api.Tcp{Window: 65536, Options: tooMany, Payload: long}, api.ErrRange)
	expectEncode(t, "long before type", bad, plain(long), api.ErrLong)
	expectEncode(t, "long options before type", bad, plain("", tooMany...), api.ErrLong)
	expectEncode(t, "only long", low4, plain(long), api.ErrLong)
	expectEncode(t, "only long options", low4, plain("", tooMany...), api.ErrLong)
	expectEncode(t, "only type", bad, plain(long[1:]), api.ErrType)
	expectEncode(t, "no error", low4, plain(long[1:]), api.OK)
}

func TestEncodeOfSomeSegments(t *testing.T) {
	r := source(146)
	counts := map[api.Errno]int{}
	for range 100000 {
		a, x := somePair(r), someSegment(r)
		if r.IntN(20) == 0 {
			all := changeNumber(r.IntN(1<<18) - 1<<17)
			all[r.IntN(len(all))](&x)
		}
		_, wanted := encoded(a, x)
		expectEncode(t, "a segment", a, x, wanted)
		counts[wanted]++
	}
	for _, err := range []api.Errno{api.OK, api.ErrRange, api.ErrLong, api.ErrType} {
		if counts[err] < 300 {
			t.Error(err, "came", counts[err], "times")
		}
	}
}

// P14.3

func TestDiff(t *testing.T) {
	for _, x := range []struct {
		a, b uint32
		want int
	}{
		{1, 4294967295, 2},
		{4294967295, 1, -2},
		{0, 0, 0},
		{4294967295, 4294967295, 0},
		{1, 0, 1},
		{0, 1, -1},
		{0, 4294967295, 1},
		{2147483647, 0, 2147483647},
		{2147483648, 0, -2147483648},
		{0, 2147483648, -2147483648},
		{2147483649, 0, -2147483647},
		{0, 2147483649, 2147483647},
		{2147483648, 1, 2147483647},
		{1, 2147483648, -2147483647},
		{4294967295, 0, -1},
		{0x80000005, 6, 2147483647},
		{6, 0x80000005, -2147483647},
	} {
		if n := tcp.Diff(x.a, x.b); n != x.want {
			t.Errorf("Diff(%d, %d) = %d, want %d", x.a, x.b, n, x.want)
		}
		if before := tcp.Before(x.a, x.b); before != (x.want < 0) {
			t.Errorf("Before(%d, %d) = %t", x.a, x.b, before)
		}
	}
}

// someNumbers returns numbers around the multiples of 2^30 and others.
func someNumbers(r *rand.Rand) []uint32 {
	l := []uint32{0x12345678, 0x9abcdef0, 65535, 65536}
	for k := range uint32(4) {
		for n := range uint32(7) {
			l = append(l, k<<30+n-3)
		}
	}
	for range 100 {
		l = append(l, r.Uint32())
	}
	return l
}

// definedDiff is the chapter's definition of Diff.
func definedDiff(a, b uint32) int {
	n := int(a) - int(b)
	for n > 1<<31-1 {
		n -= 1 << 32
	}
	for n < -1<<31 {
		n += 1 << 32
	}
	return n
}

func TestDiffOfSomeNumbers(t *testing.T) {
	l := someNumbers(source(147))
	for _, a := range l {
		for _, b := range l {
			want := definedDiff(a, b)
			if n := tcp.Diff(a, b); n != want {
				t.Fatalf("Diff(%d, %d) = %d, want %d", a, b, n, want)
			}
			if before := tcp.Before(a, b); before != (want < 0) {
				t.Fatalf("Before(%d, %d) = %t", a, b, before)
			}
		}
	}
}

func TestLength(t *testing.T) {
	if n := tcp.Length(api.Tcp{Flags: api.FlagSyn + api.FlagFin, Payload: "abc"}); n != 5 {
		t.Errorf("the Length of the example is %d", n)
	}
	for _, payload := range []string{"", "a", "abc", "\u20ac", strings.Repeat("x", 70000)} {
		for flags := -130; flags < 130; flags++ {
			want := len(payload)
			// The least bits of the number decide, also if it is negative.
			if (flags%4+4)%4 >= 2 {
				want++
			}
			if flags%2 != 0 {
				want++
			}
			x := plain(payload, api.Option{Kind: 3, Data: "abc"})
			x.Flags = flags
			if n := tcp.Length(x); n != want {
				t.Errorf("Length with the flags %d and %d bytes is %d, want %d", flags, len(payload), n, want)
			}
		}
	}
}

// P14.4

func expectScale(t *testing.T, x api.Tcp, want int, wanted bool) {
	t.Helper()
	if n, ok := tcp.Scale(x); n != want || ok != wanted {
		t.Errorf("Scale(%s) = %d, %t, want %d, %t", show(x), n, ok, want, wanted)
	}
}

func expectStamps(t *testing.T, x api.Tcp, value, echo uint32, wanted bool) {
	t.Helper()
	if v, e, ok := tcp.Stamps(x); v != value || e != echo || ok != wanted {
		t.Errorf("Stamps(%s) = %d, %d, %t, want %d, %d, %t", show(x), v, e, ok, value, echo, wanted)
	}
}

func TestScale(t *testing.T) {
	for c := range 256 {
		scale := api.Option{Kind: 3, Data: bytesOf(c)}
		expectScale(t, plain("abc", scale), min(c, 14), true)
		expectScale(t, plain("abc", api.Option{Kind: 2, Data: "\x01"}, api.Option{Kind: 4}, scale, api.Option{Kind: 5, Data: "\x02"}), min(c, 14), true)
	}
	seven, eight := api.Option{Kind: 3, Data: "\x07"}, api.Option{Kind: 3, Data: "\x08"}
	expectScale(t, plain("abc", seven, eight), 7, true)
	expectScale(t, plain("abc", eight, seven), 8, true)
	for n := range 12 {
		if n == 1 {
			continue
		}
		other := api.Option{Kind: 3, Data: strings.Repeat("\x05", n)}
		expectScale(t, plain("abc", other), 0, false)
		expectScale(t, plain("abc", other, seven), 0, false)
		expectScale(t, plain("abc", seven, other), 7, true)
	}
	expectScale(t, api.Tcp{}, 0, false)
	for kind := -10; kind < 300; kind++ {
		if kind != 3 {
			expectScale(t, plain("\x03\x03\x07", api.Option{Kind: kind, Data: "\x03"}), 0, false)
		}
	}
	expectScale(t, plain("", api.Option{Kind: 3 + 256, Data: "\x05"}, seven), 7, true)
}

func TestStamps(t *testing.T) {
	r := source(148)
	expectStamps(t, plain("", api.Option{Kind: 8, Data: "\x00\x00\x00\x01\x00\x00\x00\x02"}), 1, 2, true)
	expectStamps(t, plain("", api.Option{Kind: 8, Data: "\x01\x02\x03\x04\xff\xfe\xfd\xfc"}), 0x01020304, 0xfffefdfc, true)
	expectStamps(t, plain("", api.Option{Kind: 8, Data: strings.Repeat("\x00", 8)}), 0, 0, true)
	expectStamps(t, plain("", api.Option{Kind: 8, Data: strings.Repeat("\xff", 8)}), math.MaxUint32, math.MaxUint32, true)
	for range 1000 {
		v, e := r.Uint32(), r.Uint32()
		stamps := api.Option{Kind: 8, Data: four(v) + four(e)}
		expectStamps(t, plain("", api.Option{Kind: 3, Data: four(1) + four(2)}, stamps), v, e, true)
		expectStamps(t, plain("", stamps, api.Option{Kind: 8, Data: four(e) + four(v)}), v, e, true)
		expectStamps(t, plain("", stamps, api.Option{Kind: 8, Data: "a"}), v, e, true)
	}
	good := api.Option{Kind: 8, Data: "abcdefgh"}
	for n := range 20 {
		if n == 8 {
			continue
		}
		other := api.Option{Kind: 8, Data: mixed(r, n)}
		expectStamps(t, plain("", other), 0, 0, false)
		expectStamps(t, plain("", other, good), 0, 0, false)
	}
	expectStamps(t, api.Tcp{}, 0, 0, false)
	for kind := -10; kind < 300; kind++ {
		if kind != 8 {
			expectStamps(t, plain("abcdefgh", api.Option{Kind: kind, Data: "abcdefgh"}), 0, 0, false)
		}
	}
}

// P14.5

func expectRoundTrip(t *testing.T, a pair, x api.Tcp) {
	t.Helper()
	s, err := tcp.Encode(a.src, a.dst, x)
	if err != api.OK {
		t.Fatalf("Encode(%v, %s): %v", a, show(x), err)
	}
	expectDecode(t, "the round trip", a, s, x)
}

func TestDecodeOfEncode(t *testing.T) {
	r := source(149)
	long := mixed(r, maxPayload)
	for _, a := range somePairs() {
		expectRoundTrip(t, a, api.Tcp{})
		expectRoundTrip(t, a, zeroSummed(a))
		for _, n := range []int{1, 2, 1000, 1001, maxPayload - 1, maxPayload} {
			expectRoundTrip(t, a, plain(long[:n]))
			expectRoundTrip(t, a, plain(long[:n], api.Option{Kind: 255, Data: long[:38]}))
		}
		for count := 1; count <= 20; count++ {
			for n := 0; n <= 40-2*count; n++ {
				expectRoundTrip(t, a, plain(mixed(r, n), optionsOf(r, count, n)...))
			}
		}
	}
	for range 50000 {
		v6 := r.IntN(2) == 0
		x := someSegment(r)
		for len(x.Options) > 4 {
			x.Options = x.Options[1:]
		}
		expectRoundTrip(t, pair{someAddr(r, v6), someAddr(r, v6)}, x)
	}
}

// P14.6

// expectAgain encodes what s is, and decodes it again; it reports whether s is a segment that Encode has to take.
func expectAgain(t *testing.T, a pair, s string) bool {
	t.Helper()
	x, err := tcp.Decode(a.src, a.dst, s)
	if err != api.OK || len(x.Payload) > maxPayload {
		return false
	}
	expectRoundTrip(t, a, x)
	return true
}

func TestEncodeOfDecode(t *testing.T) {
	r := source(150)
	count := 0
	for range 50000 {
		a := somePair(r)
		if expectAgain(t, a, someBytes(r, a)) {
			count++
		}
	}
	if count < 10000 {
		t.Error("there were only", count, "segments")
	}
	long := mixed(r, 65535)
	for _, a := range somePairs() {
		for n := range 21 {
			// The most options: each of them has only its kind and its length.
			if !expectAgain(t, a, segment(a, strings.Repeat("\x09\x02", n)+strings.Repeat("\x01", 40-2*n), long[:n])) {
				t.Error(n, "options are not decoded")
			}
		}
		if !expectAgain(t, a, segment(a, "\x09\x28"+long[:38], long[:maxPayload])) {
			t.Error("the longest segment is not decoded")
		}
		if expectAgain(t, a, segment(a, "", long[:maxPayload+1])) {
			t.Error("a segment is longer")
		}
	}
}

// P14.7

// expectChange changes one byte of a segment to each other value.
func expectChange(t *testing.T, a pair, s string, at int) {
	t.Helper()
	for c := range 256 {
		changed := withByte(s, at, byte(c))
		if changed == s {
			continue
		}
		if x, err := tcp.Decode(a.src, a.dst, changed); err == api.OK || !isSame(x, api.Tcp{}) {
			t.Fatalf("Decode(%v, %.80q) = %s, %v", a, changed, show(x), err)
		}
	}
}

func TestDecodeOfAChangedByte(t *testing.T) {
	r := source(151)
	for _, a := range somePairs() {
		for _, x := range []api.Tcp{
			{}, plain(""), plain("a"), plain(mixed(r, 45)), plain("\x00\xff\xff\x00\x00", api.Option{Kind: 2, Data: "\xff\xff"}), zeroSummed(a),
			plain(strings.Repeat("\x00", 40), api.Option{Kind: 3, Data: "\x00"}, api.Option{Kind: 8, Data: "abcdefgh"}),
			plain("abc", api.Option{Kind: 255, Data: mixed(r, 38)}),
		} {
			s, _ := tcp.Encode(a.src, a.dst, x)
			for at := range len(s) {
				expectChange(t, a, s, at)
			}
		}
	}
	s, _ := tcp.Encode(mixed6.src, mixed6.dst, plain(mixed(r, maxPayload)))
	for _, at := range []int{0, 12, 13, 20, 30000, 60018, 60019} {
		for bit := range 8 {
			changed := withByte(s, at, s[at]^1<<bit)
			if x, err := tcp.Decode(mixed6.src, mixed6.dst, changed); err == api.OK || !isSame(x, api.Tcp{}) {
				t.Errorf("a change at %d gives %s, %v", at, show(x), err)
			}
		}
	}
}

// P14.8

func TestDiffOfSums(t *testing.T) {
	r := source(152)
	distances := []int{-1 << 31, -1<<31 + 1, -65536, -2, -1, 0, 1, 2, 65536, 1<<31 - 2, 1<<31 - 1}
	for range 200 {
		distances = append(distances, int(int32(r.Uint32())))
	}
	for _, a := range someNumbers(r) {
		for _, n := range distances {
			if got := tcp.Diff(a+uint32(n), a); got != n {
				t.Fatalf("Diff(%d + %d, %d) = %d", a, n, a, got)
			}
		}
	}
}

func TestBeforeOfExchangedNumbers(t *testing.T) {
	l := someNumbers(source(153))
	for _, a := range l {
		for _, b := range append(l, a+1<<31, a+1<<31-1, a+1<<31+1) {
			one, other := tcp.Before(a, b), tcp.Before(b, a)
			isHalf := a-b == 1<<31
			switch {
			case one && other != isHalf:
				t.Fatalf("Before(%d, %d) is %t, exchanged %t", a, b, one, other)
			case !one && !other && a != b, isHalf && !one:
				t.Fatalf("neither of %d and %d is before the other one", a, b)
			}
		}
	}
}

// R1

func TestAnyArguments(t *testing.T) {
	r := source(154)
	some := []int{math.MinInt, -1, 0, 1, 2, 63, 64, 255, 256, 65535, 65536, math.MaxInt}
	one := func() int { return some[r.IntN(len(some))] }
	for _, a := range append(somePairs(), unfitPairs()...) {
		for range 1000 {
			s := mixed(r, r.IntN(70))
			expectDefinition(t, a, s)
			x := api.Tcp{Src: one(), Dst: one(), Seq: r.Uint32(), Ack: r.Uint32(), Flags: one(), Window: one(), Urgent: one(), Payload: s}
			for range r.IntN(4) {
				x.Options = append(x.Options, api.Option{Kind: one(), Data: mixed(r, r.IntN(20))})
			}
			_, wanted := encoded(a, x)
			expectEncode(t, "any segment", a, x, wanted)
			tcp.Length(x)
			tcp.Scale(x)
			tcp.Stamps(x)
		}
	}
}

// R3

func TestArgumentsStay(t *testing.T) {
	all := []api.Option{{Kind: 3, Data: "\x07"}, {Kind: 8, Data: "abcdefgh"}, {Kind: 99, Data: "spare"}}
	kept := slices.Clone(all)
	x := plain("abc", all[:2]...)
	s, _ := tcp.Encode(low4.src, low4.dst, x)
	tcp.Length(x)
	tcp.Scale(x)
	tcp.Stamps(x)
	if !slices.Equal(all, kept) {
		t.Error("the options became", all)
	}
	one, _ := tcp.Decode(low4.src, low4.dst, s)
	other, _ := tcp.Decode(low4.src, low4.dst, s)
	one.Options[0] = api.Option{}
	if !isSame(other, x) {
		t.Error("the results share memory:", show(other))
	}
}
