package ethernet_test

import (
	"encoding/binary"
	"fmt"
	"math"
	"math/rand/v2"
	"net"
	"regexp"
	"slices"
	"strconv"
	"strings"
	"testing"

	"intrusion/api"
	"intrusion/ethernet"
)

const (
	macEnd = 1 << 48
	// addresses are the hardware addresses of the frames below.
	addresses = "\x00\x00\x00\x00\x00\x01\x00\x00\x00\x00\x00\x02"
)

// source returns pseudo random numbers, the same ones in every run.
func source(seed uint64) *rand.Rand { return rand.New(rand.NewPCG(seed, 0)) }

// two returns the two bytes of n.
func two(n int) string { return string([]byte{byte(n >> 8), byte(n)}) }

// macOf returns the six bytes of n.
func macOf(n uint64) string { return string(binary.BigEndian.AppendUint64(nil, n)[2:]) }

func isTag(kind string) bool { return kind == "\x81\x00" || kind == "\x88\xa8" }

// decoded is the chapter's definition of Decode.
func decoded(s string) (api.Ether, api.Errno) {
	if len(s) < 12 {
		return api.Ether{}, api.ErrShort
	}
	var e api.Ether
	for k := range 6 {
		e.Dst = 256*e.Dst + uint64(s[k])
		e.Src = 256*e.Src + uint64(s[6+k])
	}
	for s = s[12:]; ; s = s[4:] {
		if len(s) < 2 {
			return api.Ether{}, api.ErrShort
		}
		if !isTag(s[:2]) {
			break
		}
		if len(e.Vlans) == 2 {
			return api.Ether{}, api.ErrDepth
		}
		if len(s) < 4 {
			return api.Ether{}, api.ErrShort
		}
		e.Vlans = append(e.Vlans, int(s[2]&15)<<8|int(s[3]))
	}
	if e.Type = int(s[0])<<8 | int(s[1]); e.Type < 1536 {
		return api.Ether{}, api.ErrFormat
	}
	e.Payload = s[2:]
	return e, api.OK
}

// encoded is the chapter's definition of Encode.
func encoded(e api.Ether) (string, api.Errno) {
	if e.Dst >= macEnd || e.Src >= macEnd || e.Type < 1536 || e.Type > 65535 || isTag(two(e.Type)) {
		return "", api.ErrRange
	}
	if slices.ContainsFunc(e.Vlans, func(n int) bool { return n < 0 || n > 4095 }) {
		return "", api.ErrRange
	}
	tags := ""
	switch len(e.Vlans) {
	case 0:
	case 1:
		tags = "\x81\x00" + two(e.Vlans[0])
	case 2:
		tags = "\x88\xa8" + two(e.Vlans[0]) + "\x81\x00" + two(e.Vlans[1])
	default:
		return "", api.ErrDepth
	}
	s := macOf(e.Dst) + macOf(e.Src) + tags + two(e.Type) + e.Payload
	if len(s) > 4096 {
		return "", api.ErrLong
	}
	return s, api.OK
}

// show returns a short text of a frame.
func show(e api.Ether) string {
	return fmt.Sprintf("{%#x %#x %.80s %#x %d bytes %.40q}", e.Dst, e.Src, fmt.Sprint(e.Vlans), e.Type, len(e.Payload), e.Payload)
}

func isSame(a, b api.Ether) bool {
	return a.Dst == b.Dst && a.Src == b.Src && slices.Equal(a.Vlans, b.Vlans) && a.Type == b.Type && a.Payload == b.Payload
}

func expectDecode(t *testing.T, what, s string, want api.Ether) {
	t.Helper()
	if got, err := ethernet.Decode(s); err != api.OK || !isSame(got, want) {
		t.Errorf("%s: Decode(%.40q) = %s, %v, want %s", what, s, show(got), err, show(want))
	}
}

func expectDecodeError(t *testing.T, what, s string, wanted api.Errno) {
	t.Helper()
	if got, err := ethernet.Decode(s); err != wanted || !isSame(got, api.Ether{}) {
		t.Errorf("%s: Decode(%.40q) = %s, %v, want %v", what, s, show(got), err, wanted)
	}
}

// expectDefinition compares Decode with the definition.
func expectDefinition(t *testing.T, s string) {
	t.Helper()
	want, wanted := decoded(s)
	if got, err := ethernet.Decode(s); err != wanted || !isSame(got, want) {
		t.Fatalf("Decode(%.60q) = %s, %v, want %s, %v", s, show(got), err, show(want), wanted)
	}
}

func expectEncode(t *testing.T, what string, e api.Ether, wanted api.Errno) {
	t.Helper()
	want, defined := encoded(e)
	if defined != wanted {
		t.Errorf("%s: the definition says %v, not %v", what, defined, wanted)
	}
	if got, err := ethernet.Encode(e); err != wanted || got != want {
		t.Errorf("%s: Encode(%s) = %.40q, %v, want %.40q, %v", what, show(e), got, err, want, wanted)
	}
}

func mixed(r *rand.Rand, n int) string {
	b := make([]byte, n)
	for k := range b {
		b[k] = byte(r.Uint32())
	}
	return string(b)
}

// someFrame returns the bytes of a frame that is mostly correct.
func someFrame(r *rand.Rand) string {
	s := mixed(r, 12)
	for range r.IntN(4) * r.IntN(2) {
		s += []string{"\x81\x00", "\x88\xa8"}[r.IntN(2)] + mixed(r, 2)
	}
	switch r.IntN(8) {
	case 0:
		s += two(r.IntN(1536))
	case 1:
		s += two([]int{1535, 1536, 0x80ff, 0x8101, 0x88a7, 0x88a9, 0xa888, 0x0081, 65535}[r.IntN(9)])
	default:
		s += two(1536 + r.IntN(64000))
	}
	s += mixed(r, r.IntN(30))
	if r.IntN(3) == 0 {
		s = s[:r.IntN(len(s)+1)]
	}
	return s
}

// someEther returns a frame that is mostly valid.
func someEther(r *rand.Rand) api.Ether {
	e := api.Ether{Dst: r.Uint64() >> 16, Src: r.Uint64() >> (16 + r.IntN(48)), Type: 1536 + r.IntN(64000)}
	for range r.IntN(3) {
		e.Vlans = append(e.Vlans, r.IntN(4096))
	}
	e.Payload = mixed(r, r.IntN(40))
	switch r.IntN(40) {
	case 0:
		e.Dst = r.Uint64()
	case 1:
		e.Src = r.Uint64()
	case 2:
		e.Type = int(r.Uint64())
	case 3:
		e.Vlans = append(e.Vlans, r.IntN(8192)-2048)
	case 4:
		e.Payload = mixed(r, 4060+r.IntN(50))
	case 5:
		e.Type = []int{1535, 1536, 0x8100, 0x88a8, 65535, 65536}[r.IntN(6)]
	}
	return e
}

// P10.1

func TestDecode(t *testing.T) {
	expectDecode(t, "the example", addresses+"\x81\x00\x00\x07\x08\x00x", api.Ether{Dst: 1, Src: 2, Vlans: []int{7}, Type: 2048, Payload: "x"})
	expectDecode(t, "no tags", addresses+"\x08\x00abc", api.Ether{Dst: 1, Src: 2, Type: 2048, Payload: "abc"})
	expectDecode(t, "no payload", addresses+"\x86\xdd", api.Ether{Dst: 1, Src: 2, Type: 0x86dd})
	expectDecode(t, "two tags", addresses+"\x88\xa8\x00\x05\x81\x00\x00\x06\x08\x06abc", api.Ether{Dst: 1, Src: 2, Vlans: []int{5, 6}, Type: 0x806, Payload: "abc"})
	expectDecode(t, "the same tag twice", addresses+"\x81\x00\x00\x05\x81\x00\x00\x05\x08\x06", api.Ether{Dst: 1, Src: 2, Vlans: []int{5, 5}, Type: 0x806})
	expectDecode(t, "all bytes of the addresses", "\x01\x02\x03\x04\x05\x06\xa1\xb2\xc3\xd4\xe5\xf6\x08\x00", api.Ether{Dst: 0x010203040506, Src: 0xa1b2c3d4e5f6, Type: 2048})
	expectDecode(t, "the greatest addresses", strings.Repeat("\xff", 14), api.Ether{Dst: macEnd - 1, Src: macEnd - 1, Type: 65535})
	expectDecode(t, "the least addresses", strings.Repeat("\x00", 12)+"\x06\x00\x00", api.Ether{Type: 1536, Payload: "\x00"})
	expectDecode(t, "addresses like tags", strings.Repeat("\x81\x00", 6)+"\x08\x00", api.Ether{Dst: 0x810081008100, Src: 0x810081008100, Type: 2048})
	expectDecode(t, "identifiers like tags", addresses+"\x81\x00\x81\x00\x88\xa8\x88\xa8\x08\x00", api.Ether{Dst: 1, Src: 2, Vlans: []int{0x100, 0x8a8}, Type: 2048})
	expectDecode(t, "a payload like a tag", addresses+"\x08\x00\x81\x00\x00\x07\x08\x00", api.Ether{Dst: 1, Src: 2, Type: 2048, Payload: "\x81\x00\x00\x07\x08\x00"})
}

func TestDecodeOfLongPayloads(t *testing.T) {
	// The limit of MaxFrame is that of Encode.
	for _, n := range []int{api.MaxFrame - 14, api.MaxFrame - 13, api.MaxFrame, 100000} {
		payload := mixed(source(uint64(n)), n)
		expectDecode(t, "a long payload", addresses+"\x08\x00"+payload, api.Ether{Dst: 1, Src: 2, Type: 2048, Payload: payload})
	}
}

func TestDecodeOfTagTypes(t *testing.T) {
	for _, a := range []string{"\x81\x00", "\x88\xa8"} {
		expectDecode(t, "one tag", addresses+a+"\x0f\xfe\x08\x00x", api.Ether{Dst: 1, Src: 2, Vlans: []int{4094}, Type: 2048, Payload: "x"})
		for _, b := range []string{"\x81\x00", "\x88\xa8"} {
			s := addresses + a + "\x01\x02" + b + "\x03\x04"
			expectDecode(t, "two tags", s+"\x08\x00x", api.Ether{Dst: 1, Src: 2, Vlans: []int{0x102, 0x304}, Type: 2048, Payload: "x"})
			for _, c := range []string{"\x81\x00", "\x88\xa8"} {
				expectDecodeError(t, "half the third type", s+c[:1], api.ErrShort)
				expectDecodeError(t, "the third type", s+c, api.ErrDepth)
				expectDecodeError(t, "half the third tag", s+c+"\x00", api.ErrDepth)
				expectDecodeError(t, "the third tag", s+c+"\x00\x07", api.ErrDepth)
				expectDecodeError(t, "the third tag and a payload", s+c+"\x00\x07\x08\x00x", api.ErrDepth)
				expectDecodeError(t, "the third tag and a small type", s+c+"\x00\x07\x00\x01x", api.ErrDepth)
			}
		}
	}
}

func TestDecodeOfEveryType(t *testing.T) {
	fronts := []string{addresses, addresses + "\x81\x00\x00\x05", addresses + "\x88\xa8\x00\x05\x81\x00\x00\x06"}
	vlans := [][]int{nil, {5}, {5, 6}}
	for k, front := range fronts {
		for n := range 1 << 16 {
			s := front + two(n) + "abcdef"
			expectDefinition(t, s)
			if n < 1536 {
				expectDecodeError(t, "a small type", s, api.ErrFormat)
				expectDecodeError(t, "a small type at the end", front+two(n), api.ErrFormat)
			} else if n != 0x8100 && n != 0x88a8 {
				expectDecode(t, "a type", s, api.Ether{Dst: 1, Src: 2, Vlans: vlans[k], Type: n, Payload: "abcdef"})
			}
		}
	}
}

func TestDecodeOfEveryIdentifier(t *testing.T) {
	for n := range 1 << 16 {
		s := addresses + "\x88\xa8" + two(n) + "\x81\x00" + two(n^0x0ff5) + "\x08\x00"
		expectDecode(t, "identifiers", s, api.Ether{Dst: 1, Src: 2, Vlans: []int{n & 0xfff, n&0xfff ^ 0xff5}, Type: 2048})
	}
}

func TestDecodeOfEveryPrefix(t *testing.T) {
	for s, size := range map[string]int{
		addresses + "\x08\x00abc":                                 14,
		addresses + "\x81\x00\xff\xff\x08\x00abc":                 18,
		addresses + "\x88\xa8\x00\x05\x81\x00\x00\x06\x08\x00abc": 22,
		addresses + "\x00\x01abc":                                 14,
		addresses + "\x81\x00\x00\x00\x05\xffabc":                 18,
	} {
		for n := range len(s) + 1 {
			expectDefinition(t, s[:n])
			if n < size {
				expectDecodeError(t, "a prefix", s[:n], api.ErrShort)
			} else if _, err := ethernet.Decode(s[:n]); err == api.ErrShort {
				t.Errorf("Decode(%q) is too short", s[:n])
			}
		}
	}
}

func TestDecodeOfEveryChangedByte(t *testing.T) {
	for _, s := range []string{
		addresses + "\x08\x00abcdefghij",
		addresses + "\x81\x00\x00\x07\x88\xa8abcdefghij",
		addresses + "\x88\xa8\x00\x05\x81\x00\x00\x06\x08\x00\x81\x00\x08",
		addresses + "\x81\x00\x81\x00\x81\x00\x81\x00\x81\x00",
	} {
		for at := range len(s) {
			for c := range 256 {
				b := []byte(s)
				b[at] = byte(c)
				expectDefinition(t, string(b))
			}
		}
	}
}

func TestDecodeOfSomeFrames(t *testing.T) {
	r := source(101)
	for range 50000 {
		expectDefinition(t, someFrame(r))
	}
}

// P10.2

func TestEncode(t *testing.T) {
	for _, c := range []struct {
		e api.Ether
		s string
	}{
		{api.Ether{Dst: 1, Src: 2, Vlans: []int{7}, Type: 2048, Payload: "x"}, addresses + "\x81\x00\x00\x07\x08\x00x"},
		{api.Ether{Vlans: []int{5, 6}, Type: 2048}, strings.Repeat("\x00", 12) + "\x88\xa8\x00\x05\x81\x00\x00\x06\x08\x00"},
		{api.Ether{Dst: 0x010203040506, Src: 0xa1b2c3d4e5f6, Type: 0x86dd, Payload: "abc"}, "\x01\x02\x03\x04\x05\x06\xa1\xb2\xc3\xd4\xe5\xf6\x86\xddabc"},
		{api.Ether{Dst: macEnd - 1, Src: macEnd - 1, Vlans: []int{4095, 4095}, Type: 65535}, strings.Repeat("\xff", 12) + "\x88\xa8\x0f\xff\x81\x00\x0f\xff\xff\xff"},
		{api.Ether{Vlans: []int{}, Type: 1536}, strings.Repeat("\x00", 12) + "\x06\x00"},
		{api.Ether{Vlans: []int{0}, Type: 1536, Payload: "\x81\x00"}, strings.Repeat("\x00", 12) + "\x81\x00\x00\x00\x06\x00\x81\x00"},
	} {
		if got, err := ethernet.Encode(c.e); got != c.s || err != api.OK {
			t.Errorf("Encode(%s) = %q, %v, want %q", show(c.e), got, err, c.s)
		}
		expectEncode(t, "a frame", c.e, api.OK)
	}
}

func TestEncodeOfEveryNumber(t *testing.T) {
	for n := -2; n < 1<<16+2; n++ {
		wanted := api.OK
		if n < 1536 || n > 65535 || n == 0x8100 || n == 0x88a8 {
			wanted = api.ErrRange
		}
		expectEncode(t, "a type", api.Ether{Type: n, Vlans: []int{9}, Payload: "abc"}, wanted)
	}
	for n := -2; n < 8194; n++ {
		wanted := api.OK
		if n < 0 || n > 4095 {
			wanted = api.ErrRange
		}
		expectEncode(t, "the only tag", api.Ether{Type: 2048, Vlans: []int{n}}, wanted)
		expectEncode(t, "the first tag", api.Ether{Type: 2048, Vlans: []int{n, 1}}, wanted)
		expectEncode(t, "the second tag", api.Ether{Type: 2048, Vlans: []int{1, n}}, wanted)
	}
}

func TestEncodeOfNumbersOutOfRange(t *testing.T) {
	for _, n := range []uint64{macEnd, macEnd + 1, 1 << 62, 1 << 63, math.MaxUint64 - 1, math.MaxUint64} {
		expectEncode(t, "a destination", api.Ether{Dst: n, Src: 1, Type: 2048}, api.ErrRange)
		expectEncode(t, "a source", api.Ether{Dst: 1, Src: n, Type: 2048}, api.ErrRange)
	}
	for _, n := range []int{math.MinInt, -1, 0, 65536, 65536 + 2048, 1<<32 + 2048, math.MaxInt} {
		expectEncode(t, "a type", api.Ether{Type: n}, api.ErrRange)
	}
	for _, n := range []int{math.MinInt, -1, 4096, 65536, 1 << 32, math.MaxInt} {
		expectEncode(t, "a tag", api.Ether{Type: 2048, Vlans: []int{n}}, api.ErrRange)
	}
}

func TestEncodeOfManyTags(t *testing.T) {
	for n := 3; n < 70; n++ {
		expectEncode(t, "many tags", api.Ether{Type: 2048, Vlans: make([]int, n)}, api.ErrDepth)
	}
	expectEncode(t, "very many tags", api.Ether{Type: 2048, Vlans: make([]int, 100000)}, api.ErrDepth)
}

func TestEncodeOfLongFrames(t *testing.T) {
	for k, vlans := range [][]int{nil, {1}, {1, 2}} {
		room := api.MaxFrame - 14 - 4*k
		for n, wanted := range map[int]api.Errno{room - 1: api.OK, room: api.OK, room + 1: api.ErrLong, api.MaxFrame: api.ErrLong, 100000: api.ErrLong} {
			e := api.Ether{Dst: 3, Vlans: vlans, Type: 2048, Payload: strings.Repeat("x", n)}
			expectEncode(t, "a long payload", e, wanted)
			if s, err := ethernet.Encode(e); err == api.OK && len(s) != n+14+4*k {
				t.Error(n, "bytes of payload,", len(s), "of the frame")
			}
		}
	}
}

func TestEncodeOfSeveralErrors(t *testing.T) {
	long := strings.Repeat("x", api.MaxFrame)
	three := []int{1, 2, 3}
	expectEncode(t, "destination before depth", api.Ether{Dst: macEnd, Type: 2048, Vlans: three, Payload: long}, api.ErrRange)
	expectEncode(t, "source before depth", api.Ether{Src: macEnd, Type: 2048, Vlans: three, Payload: long}, api.ErrRange)
	expectEncode(t, "type before depth", api.Ether{Type: 1535, Vlans: three, Payload: long}, api.ErrRange)
	expectEncode(t, "tag type before depth", api.Ether{Type: 0x8100, Vlans: three, Payload: long}, api.ErrRange)
	expectEncode(t, "third tag before depth", api.Ether{Type: 2048, Vlans: []int{1, 2, 4096}}, api.ErrRange)
	expectEncode(t, "last tag before depth", api.Ether{Type: 2048, Vlans: []int{1, 2, 3, 4, 5, -1}}, api.ErrRange)
	expectEncode(t, "depth before length", api.Ether{Type: 2048, Vlans: three, Payload: long}, api.ErrDepth)
	expectEncode(t, "type before length", api.Ether{Type: 0x88a8, Payload: long}, api.ErrRange)
	expectEncode(t, "tag before length", api.Ether{Type: 2048, Vlans: []int{-1}, Payload: long}, api.ErrRange)
	expectEncode(t, "nothing is set", api.Ether{}, api.ErrRange)
}

// P10.3

func expectFormat(t *testing.T, n uint64, want string) {
	t.Helper()
	if got := ethernet.FormatMac(n); got != want {
		t.Errorf("FormatMac(%#x) = %q, want %q", n, got, want)
	}
}

func TestFormatMac(t *testing.T) {
	expectFormat(t, 258, "00:00:00:00:01:02")
	expectFormat(t, 0, "00:00:00:00:00:00")
	expectFormat(t, 0x0123456789ab, "01:23:45:67:89:ab")
	expectFormat(t, 0xcdef00102030, "cd:ef:00:10:20:30")
	expectFormat(t, macEnd-1, "ff:ff:ff:ff:ff:ff")
	for _, n := range []uint64{macEnd, macEnd + 258, 1 << 56, 1 << 63, 1<<63 + 258, math.MaxUint64 - 1, math.MaxUint64} {
		expectFormat(t, n, "")
	}
}

func TestFormatMacOfEveryPair(t *testing.T) {
	for n := range uint64(1 << 16) {
		for _, shift := range []int{0, 16, 32} {
			expectFormat(t, n<<shift, net.HardwareAddr(macOf(n<<shift)).String())
		}
	}
}

// P10.4

var macText = regexp.MustCompile(`\A[0-9A-Fa-f]{2}(:[0-9A-Fa-f]{2}){5}\z`)

func expectParse(t *testing.T, s string, want uint64) {
	t.Helper()
	if got, err := ethernet.ParseMac(s); got != want || err != api.OK {
		t.Errorf("ParseMac(%q) = %#x, %v, want %#x", s, got, err, want)
	}
}

func expectNoMac(t *testing.T, s string) {
	t.Helper()
	if got, err := ethernet.ParseMac(s); got != 0 || err != api.ErrFormat {
		t.Errorf("ParseMac(%.60q) = %#x, %v, want an error", s, got, err)
	}
}

// expectGrammar compares ParseMac with the description of its texts.
func expectGrammar(t *testing.T, s string) {
	t.Helper()
	if !macText.MatchString(s) {
		expectNoMac(t, s)
		return
	}
	want, err := strconv.ParseUint(strings.ReplaceAll(s, ":", ""), 16, 64)
	if err != nil {
		t.Fatal(err)
	}
	expectParse(t, s, want)
}

func TestParseMac(t *testing.T) {
	expectParse(t, "00:00:00:00:00:fF", 255)
	expectParse(t, "00:00:00:00:01:02", 258)
	expectParse(t, "00:00:00:00:00:00", 0)
	expectParse(t, "ff:FF:fF:Ff:ff:FF", macEnd-1)
	expectParse(t, "01:23:45:67:89:aB", 0x0123456789ab)
	expectParse(t, "CD:EF:cd:ef:0a:A0", 0xcdefcdef0aa0)
}

func TestParseMacOfOtherTexts(t *testing.T) {
	for _, s := range []string{
		"", ":", ":::::", "00", "00:00:00:00:01:0", "0:00:00:00:01:02", "00:00:00:00:01", "00:00:00:00:01:", ":00:00:00:00:01", "00:00:00:00:01:02:", ":00:00:00:00:01:02",
		"00:00:00:00:01:02:03", "00:00:00:00:01:02:03:04", "00:00:00:00:01:002", "000:00:00:00:01:02", "000000000102", "0000:0000:0102", "0000.0000.0102",
		"00-00-00-00-01-02", "00:00:00-00:01:02", "00;00:00:00:01:02", "00::00:00:01:02", "00:00::00:00:1:02", " 00:00:00:00:01:02", "00:00:00:00:01:02 ", "00:00:00:00:01:02\n", "00:00:00:00:01: 2",
		"00:00:00:00:01:+2", "00:00:00:00:01:-2", "00:00:00:00:01:_2", "00:00:00:00:01:2_", "00:00:00:00:01:0x", "0x:00:00:00:01:02", "00:00:00:00:01:0x2", "00:00:00:00:01:0g", "00:00:00:00:01:G0", "00:00:00:00:01:1:", "00:00:00:00:01::1",
		"00:00:00:00:01:0\x00", "00:00:00:00:01:\xff\xff", "00:00:00:00:01:\u0662", "\uff10\uff10:00:00:00:01:02", "0 :00:00:00:01:02",
		strings.Repeat("0", 17), strings.Repeat(":", 17), strings.Repeat("00:", 100000), strings.Repeat("0", 1000000) + ":00:00:00:00:00",
	} {
		expectNoMac(t, s)
	}
}

func TestParseMacOfEveryChangedByte(t *testing.T) {
	s := "01:aB:45:F7:89:cd"
	for at := range len(s) {
		expectGrammar(t, s[:at]+s[at+1:])
		expectGrammar(t, s[:at])
		expectGrammar(t, s[at:])
		for c := range 256 {
			expectGrammar(t, s[:at]+string([]byte{byte(c)})+s[at+1:])
			expectGrammar(t, s[:at]+string([]byte{byte(c)})+s[at:])
		}
	}
}

func TestParseMacOfSomeTexts(t *testing.T) {
	r := source(104)
	for range 100000 {
		b := []byte(ethernet.FormatMac(r.Uint64() >> 16))
		for range r.IntN(4) {
			b[r.IntN(len(b))] = "0123456789abcdefABCDEF::::: gG+-_x"[r.IntN(34)]
		}
		expectGrammar(t, string(b))
	}
}

// P10.5

func TestDecodeOfEncode(t *testing.T) {
	r := source(105)
	count := 0
	for range 50000 {
		e := someEther(r)
		want, wanted := encoded(e)
		s, err := ethernet.Encode(e)
		if err != wanted || s != want {
			t.Fatalf("Encode(%s) = %.40q, %v, want %.40q, %v", show(e), s, err, want, wanted)
		}
		if err != api.OK {
			continue
		}
		count++
		expectDecode(t, "Encode", s, e)
	}
	if count < 40000 {
		t.Error("only", count, "frames were encoded")
	}
}

// plain returns the bytes of a frame with the tag types of Encode and without the upper four bits of the tags.
func plain(s string) string {
	b := []byte(s)
	at := 12
	for ; isTag(string(b[at : at+2])); at += 4 {
		copy(b[at:], "\x88\xa8")
		b[at+2] &= 15
	}
	if at > 12 {
		copy(b[at-4:], "\x81\x00")
	}
	return string(b)
}

func TestEncodeOfDecode(t *testing.T) {
	r := source(106)
	count := 0
	for range 50000 {
		s := someFrame(r)
		e, err := ethernet.Decode(s)
		if err != api.OK {
			continue
		}
		count++
		if got, err := ethernet.Encode(e); err != api.OK || got != plain(s) {
			t.Fatalf("Encode(Decode(%q)) = %q, %v, want %q", s, got, err, plain(s))
		}
	}
	if count < 20000 {
		t.Error("only", count, "frames were decoded")
	}
}

func TestEncodeOfDecodeOfLongFrames(t *testing.T) {
	for _, front := range []string{addresses, addresses + "\x88\xa8\xf0\x07", addresses + "\x81\x00\x00\x05\x81\x00\x10\x06"} {
		s := front + "\x08\x00"
		s += strings.Repeat("x", api.MaxFrame-len(s))
		e, err := ethernet.Decode(s)
		if got, wrong := ethernet.Encode(e); err != api.OK || wrong != api.OK || got != plain(s) {
			t.Errorf("%q: %v, %v, %q", front, err, wrong, got[:26])
		}
		e, err = ethernet.Decode(s + "x")
		if got, wrong := ethernet.Encode(e); err != api.OK || wrong != api.ErrLong || got != "" {
			t.Errorf("%q and too many bytes: %v, %v", front, err, wrong)
		}
	}
}

// P10.6

func TestParseMacOfFormatMac(t *testing.T) {
	r := source(107)
	for range 50000 {
		n := r.Uint64() >> (16 + r.IntN(48))
		expectParse(t, ethernet.FormatMac(n), n)
		expectParse(t, strings.ToUpper(ethernet.FormatMac(n)), n)
	}
	for k := range 48 {
		expectParse(t, ethernet.FormatMac(1<<k), 1<<k)
		expectParse(t, ethernet.FormatMac(1<<k-1), 1<<k-1)
	}
	expectParse(t, ethernet.FormatMac(macEnd-1), macEnd-1)
	expectNoMac(t, ethernet.FormatMac(macEnd))
}

// R1

func TestAnyStrings(t *testing.T) {
	r := source(108)
	for range 50000 {
		s := mixed(r, r.IntN(40))
		expectDefinition(t, s)
		expectGrammar(t, s)
	}
}

// R3

func TestEncodeDoesNotModifyItsArgument(t *testing.T) {
	for n := range 5 {
		for _, vlan := range []int{5, 4096, -1} {
			all := []int{1, 2, 3, vlan, 0xfff0}
			want := slices.Clone(all)
			ethernet.Encode(api.Ether{Type: 2048, Vlans: all[:n]})
			if !slices.Equal(all, want) {
				t.Errorf("the tags %v are now %v", want, all)
			}
		}
	}
}

func TestResultsAreNewMemory(t *testing.T) {
	s := addresses + "\x88\xa8\x00\x05\x81\x00\x00\x06\x08\x00abc"
	first, _ := ethernet.Decode(s)
	first.Vlans[0] = 9
	first.Vlans = append(first.Vlans, 10)
	expectDecode(t, "once more", s, api.Ether{Dst: 1, Src: 2, Vlans: []int{5, 6}, Type: 2048, Payload: "abc"})
	second, _ := ethernet.Decode(s)
	_ = append(second.Vlans, 11)
	if !slices.Equal(first.Vlans, []int{9, 6, 10}) {
		t.Error("two calls of Decode return the same memory:", first.Vlans)
	}
}
