package ipv4_test

import (
	"encoding/binary"
	"fmt"
	"math"
	"math/rand/v2"
	"slices"
	"strings"
	"testing"

	"intrusion/api"
	"intrusion/ipv4"
)

const (
	// addresses are those of the packets below, from 10.0.0.1 to 10.0.0.2.
	addresses = "\x0a\x00\x00\x01\x0a\x00\x00\x02"
	maxOffset = 65528
)

// sample returns the packet of the chapter's example.
func sample() api.Ip4 {
	return api.Ip4{Ttl: 64, Proto: 17, Src: api.Addr{Lo: 0x0a000001}, Dst: api.Addr{Lo: 0x0a000002}, Payload: "ab"}
}

// with returns the sample with other options and another payload.
func with(payload string, options ...api.Option) api.Ip4 {
	p := sample()
	p.Options = options
	p.Payload = payload
	return p
}

// changedSample returns the sample after a change.
func changedSample(change func(p *api.Ip4)) api.Ip4 {
	p := sample()
	change(&p)
	return p
}

// source returns pseudo random numbers, the same ones in every run.
func source(seed uint64) *rand.Rand { return rand.New(rand.NewPCG(seed, 0)) }

func mixed(r *rand.Rand, n int) string {
	b := make([]byte, n)
	for k := range b {
		b[k] = byte(r.Uint32())
	}
	return string(b)
}

// two returns the two bytes of n.
func two(n int) string { return string([]byte{byte(n >> 8), byte(n)}) }

// four returns the four bytes of n.
func four(n uint64) string { return string(binary.BigEndian.AppendUint32(nil, uint32(n))) }

// wordSum returns the sum of the words of a string with an even length.
func wordSum(s string) int {
	sum := 0
	for k := 0; k < len(s); k += 2 {
		sum += 256*int(s[k]) + int(s[k+1])
	}
	return sum
}

// summed returns s with the correct checksum in its first n bytes, whose sum is not 0.
func summed(s string, n int) string {
	s = s[:10] + "\x00\x00" + s[12:]
	rest := wordSum(s[:n]) % 65535
	return s[:10] + two((65535-rest)%65535) + s[12:]
}

// packet returns the bytes of a packet with these bytes as its options, in the units of the header length, and a correct checksum.
func packet(options, payload string) string {
	size := 20 + len(options)
	s := string([]byte{byte(64 + size/4), 0}) + two(size+len(payload)) + "\x00\x00\x00\x00\x40\x11\x00\x00" + addresses + options + payload
	return summed(s, size)
}

// withByte returns s with another byte at an offset.
func withByte(s string, at int, c byte) string { return s[:at] + string([]byte{c}) + s[at+1:] }

// definedOptions is the chapter's definition of the options.
func definedOptions(s string) ([]api.Option, bool) {
	if s == "" || s[0] == 0 {
		return nil, true
	}
	if s[0] == 1 {
		return definedOptions(s[1:])
	}
	if len(s) == 1 || s[1] < 2 || int(s[1]) > len(s) {
		return nil, false
	}
	rest, ok := definedOptions(s[s[1]:])
	if !ok {
		return nil, false
	}
	return append([]api.Option{{Kind: int(s[0]), Data: s[2:s[1]]}}, rest...), true
}

// decoded is the chapter's definition of Decode.
func decoded(s string) (api.Ip4, api.Errno) {
	if len(s) < 20 {
		return api.Ip4{}, api.ErrShort
	}
	size, total := int(s[0]%16)*4, 256*int(s[2])+int(s[3])
	if s[0]/16 != 4 || size < 20 {
		return api.Ip4{}, api.ErrFormat
	}
	if len(s) < size || len(s) < total {
		return api.Ip4{}, api.ErrShort
	}
	if total < size {
		return api.Ip4{}, api.ErrFormat
	}
	if wordSum(s[:size])%65535 != 0 {
		return api.Ip4{}, api.ErrChecksum
	}
	options, ok := definedOptions(s[20:size])
	if !ok || s[6] >= 128 {
		return api.Ip4{}, api.ErrFormat
	}
	return api.Ip4{
		Tos: int(s[1]), Id: 256*int(s[4]) + int(s[5]), Ttl: int(s[8]), Proto: int(s[9]),
		Dont: s[6]&0x40 != 0, More: s[6]&0x20 != 0, Offset: 8 * (256*int(s[6]&0x1f) + int(s[7])),
		Src:     api.Addr{Lo: uint64(binary.BigEndian.Uint32([]byte(s[12:])))},
		Dst:     api.Addr{Lo: uint64(binary.BigEndian.Uint32([]byte(s[16:])))},
		Options: options, Payload: s[size:total],
	}, api.OK
}

// isOutside is the chapter's definition of the numbers that Encode does not take.
func isOutside(p api.Ip4) bool {
	for _, n := range []int{p.Tos, p.Ttl, p.Proto} {
		if n < 0 || n > 255 {
			return true
		}
	}
	for _, a := range []api.Addr{p.Src, p.Dst} {
		if a.V6 || a.Hi != 0 || a.Lo > math.MaxUint32 {
			return true
		}
	}
	return p.Id < 0 || p.Id > 65535 || p.Offset < 0 || p.Offset > maxOffset || p.Offset%8 != 0 ||
		slices.ContainsFunc(p.Options, func(o api.Option) bool { return o.Kind < 2 || o.Kind > 255 })
}

// encoded is the chapter's definition of Encode.
func encoded(p api.Ip4) (string, api.Errno) {
	if isOutside(p) {
		return "", api.ErrRange
	}
	need := 0
	for _, o := range p.Options {
		need += 2 + len(o.Data)
	}
	if need > 40 {
		return "", api.ErrLong
	}
	options := ""
	for _, o := range p.Options {
		options += string([]byte{byte(o.Kind), byte(2 + len(o.Data))}) + o.Data
	}
	options += strings.Repeat("\x00", (4-need%4)%4)
	size := 20 + len(options)
	if size+len(p.Payload) > 65535 {
		return "", api.ErrLong
	}
	flags := p.Offset / 8
	if p.Dont {
		flags += 1 << 14
	}
	if p.More {
		flags += 1 << 13
	}
	s := string([]byte{byte(4*16 + size/4), byte(p.Tos)}) + two(size+len(p.Payload)) + two(p.Id) + two(flags) +
		string([]byte{byte(p.Ttl), byte(p.Proto)}) + "\x00\x00" + four(p.Src.Lo) + four(p.Dst.Lo) + options + p.Payload
	return summed(s, size), api.OK
}

// divided is the chapter's definition of Split.
func divided(p api.Ip4, size int) ([]api.Ip4, api.Errno) {
	if size < 1 || size%8 != 0 {
		return nil, api.ErrRange
	}
	if _, err := encoded(p); err != api.OK {
		return nil, err
	}
	if p.Dont && len(p.Payload) > size {
		return nil, api.ErrState
	}
	parts := []api.Ip4{p}
	for {
		last := &parts[len(parts)-1]
		if last.Offset > maxOffset {
			return nil, api.ErrRange
		}
		if len(last.Payload) <= size {
			return parts, api.OK
		}
		next := *last
		next.Options = slices.DeleteFunc(slices.Clone(p.Options), func(o api.Option) bool { return o.Kind < 128 })
		next.Offset += size
		next.Payload = last.Payload[size:]
		last.More = true
		last.Payload = last.Payload[:size]
		parts = append(parts, next)
	}
}

// show returns a short text of a packet.
func show(p api.Ip4) string {
	payload := p.Payload
	p.Payload = ""
	return fmt.Sprintf("%.200s %d bytes %.40q", fmt.Sprintf("%+v", p), len(payload), payload)
}

func isSame(a, b api.Ip4) bool {
	if !slices.Equal(a.Options, b.Options) {
		return false
	}
	a.Options, b.Options = nil, nil
	return a.Tos == b.Tos && a.Id == b.Id && a.Ttl == b.Ttl && a.Proto == b.Proto && a.Dont == b.Dont && a.More == b.More &&
		a.Offset == b.Offset && a.Src == b.Src && a.Dst == b.Dst && a.Payload == b.Payload
}

// The expectations end a test at its first failure, because some tests have many thousands of them.

func expectDecode(t *testing.T, what, s string, want api.Ip4) {
	t.Helper()
	if got, err := ipv4.Decode(s); err != api.OK || !isSame(got, want) {
		t.Fatalf("%s: Decode(%.60q) = %s, %v, want %s", what, s, show(got), err, show(want))
	}
}

func expectDecodeError(t *testing.T, what, s string, wanted api.Errno) {
	t.Helper()
	if got, err := ipv4.Decode(s); err != wanted || !isSame(got, api.Ip4{}) {
		t.Fatalf("%s: Decode(%.60q) = %s, %v, want %v", what, s, show(got), err, wanted)
	}
}

// expectDefinition compares Decode with the definition, and returns the error.
func expectDefinition(t *testing.T, s string) api.Errno {
	t.Helper()
	want, wanted := decoded(s)
	if got, err := ipv4.Decode(s); err != wanted || !isSame(got, want) {
		t.Fatalf("Decode(%.80q) = %s, %v, want %s, %v", s, show(got), err, show(want), wanted)
	}
	return wanted
}

func expectEncode(t *testing.T, what string, p api.Ip4, wanted api.Errno) {
	t.Helper()
	want, defined := encoded(p)
	if defined != wanted {
		t.Fatalf("%s: the definition says %v, not %v", what, defined, wanted)
	}
	if got, err := ipv4.Encode(p); err != wanted || got != want {
		t.Fatalf("%s: Encode(%s) = %.80q, %v, want %.80q, %v", what, show(p), got, err, want, wanted)
	}
}

func expectSplit(t *testing.T, what string, p api.Ip4, size int, wanted api.Errno) {
	t.Helper()
	want, defined := divided(p, size)
	if defined != wanted {
		t.Fatalf("%s: the definition says %v, not %v", what, defined, wanted)
	}
	got, err := ipv4.Split(p, size)
	if err != wanted || len(got) != len(want) {
		t.Fatalf("%s: Split(%s, %d) = %d parts, %v, want %d parts, %v", what, show(p), size, len(got), err, len(want), wanted)
	}
	for k := range want {
		if !isSame(got[k], want[k]) {
			t.Fatalf("%s: Split(%s, %d): part %d is %s, want %s", what, show(p), size, k, show(got[k]), show(want[k]))
		}
	}
}

// someBytes returns the bytes of a packet that is mostly correct.
func someBytes(r *rand.Rand) string {
	options := ""
	for r.IntN(2) == 0 && len(options) < 30 {
		switch r.IntN(5) {
		case 0:
			options += "\x01"
		case 1:
			options += mixed(r, 2)
		default:
			data := mixed(r, r.IntN(8))
			options += string([]byte{byte(2 + r.IntN(254)), byte(2 + len(data))}) + data
		}
	}
	options += strings.Repeat([]string{"\x00", "\x01"}[r.IntN(2)], (4-len(options)%4)%4)
	b := []byte(packet(options, mixed(r, r.IntN(20))))
	size := 20 + len(options)
	for _, at := range []int{1, 4, 5, 6, 7, 8, 9, 12, 13, 14, 15, 16, 17, 18, 19} {
		b[at] = byte(r.Uint32())
	}
	b[6] &= 0x7f
	if r.IntN(30) == 0 {
		b[r.IntN(len(b))] = byte(r.Uint32())
	}
	s := string(b)
	if r.IntN(20) > 0 {
		s = summed(s, min(size, len(s)))
	}
	if r.IntN(10) == 0 {
		s = s[:r.IntN(len(s)+1)]
	}
	return s + mixed(r, r.IntN(4))
}

// someOptions returns options that need at most 40 bytes, or a few more.
func someOptions(r *rand.Rand) []api.Option {
	var l []api.Option
	for range r.IntN(6) {
		l = append(l, api.Option{Kind: []int{2, 7, 68, 127, 128, 131, 136, 137, 148, 255, 2 + r.IntN(254)}[r.IntN(11)], Data: mixed(r, r.IntN(8))})
	}
	return l
}

// somePacket returns a packet that is mostly valid.
func somePacket(r *rand.Rand) api.Ip4 {
	p := api.Ip4{
		Tos: r.IntN(256), Id: r.IntN(65536), Ttl: r.IntN(256), Proto: r.IntN(256), Dont: r.IntN(4) == 0, More: r.IntN(2) == 0, Offset: 8 * r.IntN(8192),
		Src: api.Addr{Lo: uint64(r.Uint32())}, Dst: api.Addr{Lo: uint64(r.Uint32())}, Options: someOptions(r), Payload: mixed(r, r.IntN(100)),
	}
	switch r.IntN(60) {
	case 0:
		p.Tos = int(r.Uint64())
	case 1:
		p.Id = r.IntN(1<<18) - 1<<17
	case 2:
		p.Ttl = r.IntN(1024) - 512
	case 3:
		p.Proto = 256
	case 4:
		p.Offset = r.IntN(1<<18) - 1<<17
	case 5:
		p.Src.V6 = true
	case 6:
		p.Dst.Hi = 1
	case 7:
		p.Dst.Lo += 1 << 32
	case 8:
		p.Options = append(p.Options, api.Option{Kind: r.IntN(600) - 300})
	case 9:
		p.Payload = mixed(r, 65480+r.IntN(60))
	}
	return p
}

// P11.1

func TestDecode(t *testing.T) {
	s := "\x45\x00\x00\x16\x00\x00\x00\x00\x40\x11\x66\xd5" + addresses + "ab"
	expectDecode(t, "the example of Encode", s, sample())
	expectDecode(t, "more bytes", s+"cdef", sample())
	expectDecode(t, "no payload", packet("", ""), with(""))
	expectDecode(t, "the greatest numbers", summed("\x45\xff\x00\x15\xff\xff\x7f\xff\xff\xff\x00\x00"+strings.Repeat("\xff", 9), 20), api.Ip4{
		Tos: 255, Id: 65535, Ttl: 255, Proto: 255, Dont: true, More: true, Offset: maxOffset,
		Src: api.Addr{Lo: math.MaxUint32}, Dst: api.Addr{Lo: math.MaxUint32}, Payload: "\xff",
	})
	expectDecode(t, "all bytes", summed("\x45\x01\x00\x17\x02\x03\x04\x05\x06\x07\x00\x00\x08\x09\x0a\x0b\x0c\x0d\x0e\x0fabc", 20), api.Ip4{
		Tos: 1, Id: 0x203, Ttl: 6, Proto: 7, Offset: 0x2028, Src: api.Addr{Lo: 0x08090a0b}, Dst: api.Addr{Lo: 0x0c0d0e0f}, Payload: "abc",
	})
	expectDecode(t, "zeros", summed("\x45\x00\x00\x14"+strings.Repeat("\x00", 16), 20), api.Ip4{})
}

func TestDecodeOfFlagsAndOffsets(t *testing.T) {
	for n := range 1 << 16 {
		s := summed(withByte(withByte(packet("", "ab"), 6, byte(n>>8)), 7, byte(n)), 20)
		if n >= 1<<15 {
			expectDecodeError(t, "the reserved bit", s, api.ErrFormat)
			continue
		}
		p := sample()
		p.Dont, p.More, p.Offset = n&(1<<14) != 0, n&(1<<13) != 0, n%(1<<13)*8
		expectDecode(t, "flags", s, p)
	}
}

func TestDecodeOfEveryFirstByte(t *testing.T) {
	whole := "\x45\x00\x00\x50\x00\x00\x00\x00\x40\x11\x00\x00" + addresses + strings.Repeat("\x01", 60)
	for c := range 256 {
		size := c % 16 * 4
		s := summed(withByte(whole, 0, byte(c)), max(20, size))
		if c/16 != 4 || size < 20 {
			expectDecodeError(t, "the version or the header length", s, api.ErrFormat)
			expectDecodeError(t, "the version or the header length of a short string", s[:20], api.ErrFormat)
			expectDecodeError(t, "a very short string", s[:19], api.ErrShort)
			continue
		}
		expectDecode(t, "the header length", s, with(strings.Repeat("\x01", 80-size)))
	}
}

func TestDecodeOfEveryPrefix(t *testing.T) {
	for _, options := range []string{"", "\x00\x00\x00\x00", "\x07\x05abc\x83\x03x", "\x01\x94\x04ab\x01\x01\x00", strings.Repeat("\x01", 40)} {
		for _, payload := range []string{"", "a", "abcdefgh"} {
			s := packet(options, payload)
			for n := range len(s) {
				expectDefinition(t, s[:n])
				expectDecodeError(t, "a prefix", s[:n], api.ErrShort)
			}
			expectDefinition(t, s)
			expectDefinition(t, s+"x")
			if _, err := ipv4.Decode(s); err != api.OK {
				t.Errorf("Decode(%q): %v", s, err)
			}
		}
	}
}

func TestDecodeOfEveryTotalLength(t *testing.T) {
	for _, options := range []string{"", "\x01\x01\x01\x01", strings.Repeat("\x07\x04ab", 10)} {
		size := 20 + len(options)
		whole := packet(options, strings.Repeat("x", 40))
		for n := range 1 << 16 {
			s := summed(withByte(withByte(whole, 2, byte(n>>8)), 3, byte(n)), size)
			wanted := api.OK
			if n > len(whole) {
				wanted = api.ErrShort
			} else if n < size {
				wanted = api.ErrFormat
			}
			if err := expectDefinition(t, s); err != wanted {
				t.Errorf("the total length %d of %d bytes: %v, want %v", n, len(whole), err, wanted)
			}
		}
	}
}

func TestDecodeOfLongPackets(t *testing.T) {
	r := source(111)
	for _, options := range []string{"", "\x01\x01\x01\x01", strings.Repeat("\x01", 40)} {
		payload := mixed(r, 65535-20-len(options))
		s := packet(options, payload)
		expectDecode(t, "the longest packet", s, with(payload))
		expectDecode(t, "many more bytes", s+strings.Repeat("x", 100000), with(payload))
		expectDecodeError(t, "a byte is missing", s[:65534], api.ErrShort)
	}
}

func TestDecodeOfChecksums(t *testing.T) {
	for _, s := range []string{packet("", "ab"), packet("\x07\x04xy\x00\x00\x00\x00", "ab")} {
		size := len(s) - 2
		right := s[10:12]
		for n := range 1 << 16 {
			if two(n) != right {
				expectDecodeError(t, "a checksum", s[:10]+two(n)+s[12:], api.ErrChecksum)
			}
		}
		for at := range size {
			if at == 0 || at == 2 || at == 3 {
				continue
			}
			for c := range 256 {
				if byte(c) != s[at] {
					expectDecodeError(t, "a byte of the header", withByte(s, at, byte(c)), api.ErrChecksum)
				}
			}
		}
		expectDecode(t, "a byte of the payload", withByte(s, size, 'c'), changedSample(func(p *api.Ip4) {
			p.Payload = "cb"
			p.Options, _ = definedOptions(s[20:size])
		}))
	}
	// Both zero words count alike in the sum of the header.
	expectDecode(t, "the checksum 0", "\x45\x00\x00\x14\xba\xeb"+strings.Repeat("\x00", 14), api.Ip4{Id: 0xbaeb})
	expectDecode(t, "the checksum 65535", "\x45\x00\x00\x14\xba\xeb\x00\x00\x00\x00\xff\xff"+strings.Repeat("\x00", 8), api.Ip4{Id: 0xbaeb})
}

func TestDecodeOfOptions(t *testing.T) {
	for s, want := range map[string][]api.Option{
		"\x00\x00\x00\x00":                      nil,
		"\x01\x01\x01\x01":                      nil,
		"\x01\x01\x01\x00":                      nil,
		"\x00\xff\xff\xff":                      nil,
		"\x00\x07\x01\x83":                      nil,
		"\x02\x02\x00\x00":                      {{Kind: 2}},
		"\x02\x02\xff\x02":                      {{Kind: 2}, {Kind: 255}},
		"\x07\x04ab":                            {{Kind: 7, Data: "ab"}},
		"\x07\x03a\x00":                         {{Kind: 7, Data: "a"}},
		"\x07\x03a\x01":                         {{Kind: 7, Data: "a"}},
		"\x01\x83\x03\x01":                      {{Kind: 131, Data: "\x01"}},
		"\x01\x01\x89\x02":                      {{Kind: 137}},
		"\x07\x04\x00\x01\x94\x04\x00\x00":      {{Kind: 7, Data: "\x00\x01"}, {Kind: 148, Data: "\x00\x00"}},
		"\x07\x02\x01\x07\x02\x01\x07\x02":      {{Kind: 7}, {Kind: 7}, {Kind: 7}},
		"\x07\x02\x00\x07\x01\x01\x07\x01":      {{Kind: 7}},
		"\x44\x28" + strings.Repeat("\xfe", 38): {{Kind: 68, Data: strings.Repeat("\xfe", 38)}},
		strings.Repeat("\xff\x02", 20):          slices.Repeat([]api.Option{{Kind: 255}}, 20),
		strings.Repeat("\x01", 38) + "\x05\x02": {{Kind: 5}},
	} {
		expectDecode(t, "options", packet(s, "xyz"), with("xyz", want...))
		expectDecode(t, "options and more bytes", packet(s, "")+"\x02\x02", with("", want...))
	}
}

func TestDecodeOfMalformedOptions(t *testing.T) {
	for _, s := range []string{
		"\x07\x00\x00\x00", "\x07\x01\x00\x00", "\x07\x05ab", "\x07\xffab", "\x07\x02\x07\x00", "\x07\x02\x07\x01", "\x07\x02\x07\x03",
		"\x01\x01\x01\x02", "\x01\x01\x01\xff", "\x07\x03a\x07", "\x01\x01\x07\x03", "\x01\x01\x07\x01", "\x01\x07\x04a", "\x02\x00\x00\x00",
		"\x07\x04ab\x07\x05ab", "\x07\x04ab\x01\x01\x01\x83", strings.Repeat("\x01", 39) + "\x07", "\x07\x29" + strings.Repeat("\x01", 38),
	} {
		// What follows the header does not complete an option.
		for _, payload := range []string{"", "\x02", "\x02\x02\x02", "abcdefgh"} {
			expectDecodeError(t, "options", packet(s, payload)+"\x02\x02", api.ErrFormat)
		}
	}
}

func TestDecodeOfEveryOption(t *testing.T) {
	for kind := range 256 {
		for size := range 256 {
			for _, before := range []string{"", "\x01\x01", "\x09\x02"} {
				expectDefinition(t, packet(before+string([]byte{byte(kind), byte(size)})+strings.Repeat("\x02", 6-len(before)), "\x02\x02"))
			}
		}
	}
}

// everyText calls do with all strings of n bytes out of some.
func everyText(some string, n int, do func(s string)) {
	if n == 0 {
		do("")
		return
	}
	everyText(some, n-1, func(s string) {
		for k := range len(some) {
			do(s + some[k:k+1])
		}
	})
}

func TestDecodeOfShortOptions(t *testing.T) {
	counts := map[api.Errno]int{}
	everyText("\x00\x01\x02\x03\x04\x05\x07\x83\xff", 4, func(s string) { counts[expectDefinition(t, packet(s, "\x02"))]++ })
	everyText("\x00\x01\x02\x03\x05", 8, func(s string) { counts[expectDefinition(t, packet(s, ""))]++ })
	if len(counts) != 2 || counts[api.OK] < 10000 || counts[api.ErrFormat] < 10000 {
		t.Error(counts)
	}
}

func TestDecodeOfSeveralErrors(t *testing.T) {
	good := packet("\x07\x04ab", "abcd")
	bad := packet("\x07\x05ab", "abcd")
	// total returns s with another total length and a correct checksum.
	total := func(s string, n int) string { return summed(s[:2]+two(n)+s[4:], 24) }
	wrong := func(s string) string { return withByte(s, 11, s[11]^1) }
	reserved := func(s string) string { return withByte(s, 6, s[6]|128) }
	expectDecodeError(t, "short before version", "\x55"+good[1:19], api.ErrShort)
	expectDecodeError(t, "short before header length", "\x44"+good[1:19], api.ErrShort)
	expectDecodeError(t, "version before header length beyond", "\x5f"+good[1:], api.ErrFormat)
	expectDecodeError(t, "version before total length beyond", total("\x65"+good[1:], 100), api.ErrFormat)
	expectDecodeError(t, "header length before total length beyond", total("\x44"+good[1:], 100), api.ErrFormat)
	expectDecodeError(t, "version before checksum", wrong("\x36"+good[1:]), api.ErrFormat)
	expectDecodeError(t, "header length before checksum", wrong("\x40"+good[1:]), api.ErrFormat)
	expectDecodeError(t, "header beyond before total length of less", "\x4f"+total(good, 10)[1:], api.ErrShort)
	expectDecodeError(t, "header beyond, total length not", "\x4f"+total(good, 20)[1:], api.ErrShort)
	expectDecodeError(t, "header beyond before checksum", wrong("\x4f"+good[1:]), api.ErrShort)
	expectDecodeError(t, "total length beyond before checksum", wrong(total(good, 29)), api.ErrShort)
	expectDecodeError(t, "total length beyond before options", total(bad, 29), api.ErrShort)
	expectDecodeError(t, "total length beyond before the reserved bit", reserved(total(good, 29)), api.ErrShort)
	expectDecodeError(t, "total length of less before checksum", wrong(total(good, 23)), api.ErrFormat)
	expectDecodeError(t, "total length 0 before checksum", wrong(total(good, 0)), api.ErrFormat)
	expectDecodeError(t, "checksum before options", wrong(bad), api.ErrChecksum)
	expectDecodeError(t, "checksum before the reserved bit", reserved(good), api.ErrChecksum)
	expectDecodeError(t, "options and the reserved bit", summed(reserved(bad), 24), api.ErrFormat)
	expectDecodeError(t, "only the reserved bit", summed(reserved(good), 24), api.ErrFormat)
	expectDecodeError(t, "only options", bad, api.ErrFormat)
	expectDecode(t, "no error", good, with("abcd", api.Option{Kind: 7, Data: "ab"}))
}

func TestDecodeOfSomeBytes(t *testing.T) {
	r := source(112)
	counts := map[api.Errno]int{}
	for range 100000 {
		counts[expectDefinition(t, someBytes(r))]++
	}
	for _, err := range []api.Errno{api.OK, api.ErrShort, api.ErrFormat, api.ErrChecksum} {
		if counts[err] < 1000 {
			t.Error(err, "came", counts[err], "times")
		}
	}
}

// P11.2

func TestEncode(t *testing.T) {
	want := "\x45\x00\x00\x16\x00\x00\x00\x00\x40\x11\x66\xd5" + addresses + "ab"
	if s, err := ipv4.Encode(sample()); s != want || err != api.OK {
		t.Errorf("Encode of the example = %q, %v", s, err)
	}
	p := api.Ip4{
		Tos: 1, Id: 0x203, Ttl: 6, Proto: 7, Dont: true, Offset: 0x2028, Src: api.Addr{Lo: 0x08090a0b}, Dst: api.Addr{Lo: 0x0c0d0e0f},
		Options: []api.Option{{Kind: 7, Data: "x"}, {Kind: 131}}, Payload: "abc",
	}
	want = "\x47\x01\x00\x1f\x02\x03\x44\x05\x06\x07\xbf\x19\x08\x09\x0a\x0b\x0c\x0d\x0e\x0f\x07\x03x\x83\x02\x00\x00\x00abc"
	if s, err := ipv4.Encode(p); s != want || err != api.OK {
		t.Errorf("Encode(%s) = %q, %v, want %q", show(p), s, err, want)
	}
	expectEncode(t, "a packet with options", p, api.OK)
	expectEncode(t, "nothing is set", api.Ip4{}, api.OK)
	expectEncode(t, "the greatest numbers", api.Ip4{
		Tos: 255, Id: 65535, Ttl: 255, Proto: 255, Dont: true, More: true, Offset: maxOffset,
		Src: api.Addr{Lo: math.MaxUint32}, Dst: api.Addr{Lo: math.MaxUint32}, Options: []api.Option{{Kind: 255, Data: "\xff"}}, Payload: "\xff",
	}, api.OK)
}

// numbersAround are numbers that no field of a packet can hold.
func numbersAround() []int {
	return []int{math.MinInt, math.MinInt + 8, -1 << 32, -65536, -65535, -256, -255, -8, -1, 65536, 65536 + 64, 1 << 31, 1 << 32, 1<<32 + 64, 1 << 48, math.MaxInt - 7, math.MaxInt}
}

func TestEncodeOfEveryNumber(t *testing.T) {
	numbers := numbersAround()
	for n := range 1<<16 + 20 {
		numbers = append(numbers, n)
	}
	for _, n := range numbers {
		ofByte, ofWord, ofOffset := api.OK, api.OK, api.OK
		if n < 0 || n > 255 {
			ofByte = api.ErrRange
		}
		if n < 0 || n > 65535 {
			ofWord = api.ErrRange
		}
		if n < 0 || n > maxOffset || n%8 != 0 {
			ofOffset = api.ErrRange
		}
		expectEncode(t, "Tos", changedSample(func(p *api.Ip4) { p.Tos = n }), ofByte)
		expectEncode(t, "Ttl", changedSample(func(p *api.Ip4) { p.Ttl = n }), ofByte)
		expectEncode(t, "Proto", changedSample(func(p *api.Ip4) { p.Proto = n }), ofByte)
		expectEncode(t, "Id", changedSample(func(p *api.Ip4) { p.Id = n }), ofWord)
		expectEncode(t, "Offset", changedSample(func(p *api.Ip4) { p.Offset = n }), ofOffset)
		expectEncode(t, "Offset and flags", changedSample(func(p *api.Ip4) { p.Offset, p.Dont, p.More = n, n&8 != 0, n&16 != 0 }), ofOffset)
	}
}

func TestEncodeOfAddresses(t *testing.T) {
	for _, a := range []api.Addr{
		{V6: true}, {V6: true, Lo: 5}, {V6: true, Hi: 1, Lo: 5}, {Hi: 1}, {Hi: 1, Lo: 5}, {Hi: math.MaxUint64}, {Hi: 1 << 32, Lo: 5},
		{Lo: 1 << 32}, {Lo: 1<<32 + 5}, {Lo: 1 << 63}, {Lo: math.MaxUint64},
	} {
		expectEncode(t, "Src", changedSample(func(p *api.Ip4) { p.Src = a }), api.ErrRange)
		expectEncode(t, "Dst", changedSample(func(p *api.Ip4) { p.Dst = a }), api.ErrRange)
	}
	for k := range 32 {
		for _, n := range []uint64{1 << k, 1<<k - 1, math.MaxUint32 - 1<<k} {
			expectEncode(t, "Src", changedSample(func(p *api.Ip4) { p.Src.Lo = n }), api.OK)
			expectEncode(t, "Dst", changedSample(func(p *api.Ip4) { p.Dst.Lo = n }), api.OK)
		}
	}
}

func TestEncodeOfEveryKind(t *testing.T) {
	numbers := numbersAround()
	for n := range 600 {
		numbers = append(numbers, n, 65536+n)
	}
	for _, n := range numbers {
		wanted := api.OK
		if n < 2 || n > 255 {
			wanted = api.ErrRange
		}
		expectEncode(t, "the only option", with("ab", api.Option{Kind: n}), wanted)
		expectEncode(t, "the first option", with("ab", api.Option{Kind: n, Data: "x"}, api.Option{Kind: 7}), wanted)
		expectEncode(t, "the last option", with("ab", api.Option{Kind: 7}, api.Option{Kind: 8}, api.Option{Kind: n, Data: "xyz"}), wanted)
	}
}

func TestEncodeOfOptionLengths(t *testing.T) {
	for n := range 300 {
		wanted := api.OK
		if n > 38 {
			wanted = api.ErrLong
		}
		p := with("ab", api.Option{Kind: 7, Data: strings.Repeat("x", n)})
		expectEncode(t, "one option", p, wanted)
		if s, err := ipv4.Encode(p); err == api.OK && len(s) != 22+(n+2+3)/4*4 {
			t.Errorf("an option with %d bytes of data: the packet has %d bytes", n, len(s))
		}
	}
	for n := range 50 {
		wanted := api.OK
		if n > 20 {
			wanted = api.ErrLong
		}
		expectEncode(t, "empty options", with("ab", slices.Repeat([]api.Option{{Kind: 9}}, n)...), wanted)
	}
	for n := range 37 {
		x, y := strings.Repeat("x", n), strings.Repeat("y", 36-n)
		expectEncode(t, "two options", with("", api.Option{Kind: 7, Data: x}, api.Option{Kind: 8, Data: y}), api.OK)
		expectEncode(t, "two options that are too long", with("", api.Option{Kind: 7, Data: x + "x"}, api.Option{Kind: 8, Data: y}), api.ErrLong)
	}
	expectEncode(t, "very many options", with("", make([]api.Option, 100000)...), api.ErrRange)
	expectEncode(t, "very many options", with("", slices.Repeat([]api.Option{{Kind: 7}}, 100000)...), api.ErrLong)
	expectEncode(t, "very long data", with("", api.Option{Kind: 7, Data: strings.Repeat("x", 1<<20)}), api.ErrLong)
}

func TestEncodeOfLongPackets(t *testing.T) {
	for need := range 41 {
		var options []api.Option
		if need >= 2 {
			options = []api.Option{{Kind: 7, Data: strings.Repeat("x", need-2)}}
		} else if need == 1 {
			continue
		}
		room := 65535 - 20 - (need+3)/4*4
		for n, wanted := range map[int]api.Errno{room - 1: api.OK, room: api.OK, room + 1: api.ErrLong, room + 4: api.ErrLong} {
			expectEncode(t, "a long payload", with(strings.Repeat("x", n), options...), wanted)
		}
	}
	expectEncode(t, "65535 bytes of payload", with(strings.Repeat("x", 65535)), api.ErrLong)
	expectEncode(t, "65536 bytes of payload", with(strings.Repeat("x", 65536)), api.ErrLong)
	expectEncode(t, "a very long payload", with(strings.Repeat("x", 1<<21)), api.ErrLong)
	// The end of the payload in the whole datagram has no limit.
	expectEncode(t, "a payload behind the last offset", changedSample(func(p *api.Ip4) { p.Offset, p.Payload = maxOffset, strings.Repeat("x", 65515) }), api.OK)
}

func TestEncodeOfSeveralErrors(t *testing.T) {
	long := func(change func(p *api.Ip4)) api.Ip4 {
		p := with(strings.Repeat("x", 65536), api.Option{Kind: 7, Data: strings.Repeat("x", 50)})
		change(&p)
		return p
	}
	for what, change := range map[string]func(p *api.Ip4){
		"Tos": func(p *api.Ip4) { p.Tos = 256 }, "Ttl": func(p *api.Ip4) { p.Ttl = -1 }, "Proto": func(p *api.Ip4) { p.Proto = 256 }, "Id": func(p *api.Ip4) { p.Id = 65536 },
		"Offset": func(p *api.Ip4) { p.Offset = 65536 }, "a part of Offset": func(p *api.Ip4) { p.Offset = 4 },
		"Src": func(p *api.Ip4) { p.Src.V6 = true }, "Dst": func(p *api.Ip4) { p.Dst.Hi = 1 },
		"the first kind": func(p *api.Ip4) { p.Options[0].Kind = 1 }, "the last kind": func(p *api.Ip4) { p.Options = append(p.Options, api.Option{Kind: 256}) },
	} {
		expectEncode(t, what+" before length", long(change), api.ErrRange)
	}
	expectEncode(t, "only length", long(func(p *api.Ip4) {}), api.ErrLong)
	expectEncode(t, "only the options are long", with("", api.Option{Kind: 7, Data: strings.Repeat("x", 39)}), api.ErrLong)
}

func TestEncodeOfSomePackets(t *testing.T) {
	r := source(113)
	counts := map[api.Errno]int{}
	for range 50000 {
		p := somePacket(r)
		_, err := encoded(p)
		expectEncode(t, "some packet", p, err)
		counts[err]++
	}
	if counts[api.OK] < 20000 || counts[api.ErrRange] < 1000 || counts[api.ErrLong] < 100 {
		t.Error(counts)
	}
}

// P11.3

func TestSplit(t *testing.T) {
	p := sample()
	p.Tos, p.Id, p.Payload = 3, 4, "aaaaaaaabbbbbbbbcccc"
	p.Options = []api.Option{{Kind: 7, Data: "x"}, {Kind: 131, Data: "y"}, {Kind: 127}, {Kind: 128}}
	parts, err := ipv4.Split(p, 8)
	if err != api.OK || len(parts) != 3 {
		t.Fatal(parts, err)
	}
	first, second, third := p, p, p
	first.Payload, first.More = "aaaaaaaa", true
	second.Payload, second.More, second.Offset = "bbbbbbbb", true, 8
	third.Payload, third.Offset = "cccc", 16
	second.Options = []api.Option{{Kind: 131, Data: "y"}, {Kind: 128}}
	third.Options = second.Options
	for k, want := range []api.Ip4{first, second, third} {
		if !isSame(parts[k], want) {
			t.Errorf("part %d is %s, want %s", k, show(parts[k]), show(want))
		}
	}
}

func TestSplitOfAFragment(t *testing.T) {
	p := changedSample(func(p *api.Ip4) { p.Offset, p.More, p.Payload = 64, true, "aaaaaaaabbbbbbbb" })
	for size, want := range map[int]int{8: 2, 16: 1, 24: 1} {
		parts, err := ipv4.Split(p, size)
		if err != api.OK || len(parts) != want || parts[0].Offset != 64 || !parts[want-1].More || parts[want-1].Offset != 64+8*(want-1) {
			t.Errorf("Split with %d = %v, %v", size, parts, err)
		}
		expectSplit(t, "a fragment", p, size, api.OK)
		p.More = false
		expectSplit(t, "the last fragment", p, size, api.OK)
		p.More = true
	}
}

func TestSplitOfEveryLength(t *testing.T) {
	r := source(114)
	for n := range 130 {
		payload := mixed(r, n)
		for _, size := range []int{8, 16, 24, 64, 120, 128, 136, 65528, 65536, 1 << 32, math.MaxInt - 7} {
			p := with(payload, api.Option{Kind: 200, Data: "a"}, api.Option{Kind: 100, Data: "b"})
			expectSplit(t, "a payload", p, size, api.OK)
			p.Dont = true
			wanted := api.OK
			if n > size {
				wanted = api.ErrState
			}
			expectSplit(t, "a payload that is not to be divided", p, size, wanted)
		}
	}
	if parts, err := ipv4.Split(with(""), 8); err != api.OK || len(parts) != 1 || !isSame(parts[0], with("")) {
		t.Error("an empty payload:", parts, err)
	}
}

func TestSplitOfLongPayloads(t *testing.T) {
	payload := mixed(source(115), 65515)
	for _, size := range []int{8, 16, 1480, 32752, 32760, 65512, 65520} {
		expectSplit(t, "a long payload", with(payload), size, api.OK)
	}
	expectSplit(t, "too many bytes", with(payload+"x"), 8, api.ErrLong)
}

func TestSplitOfEverySize(t *testing.T) {
	p := with("aaaaaaaabbbbbbbbcccc")
	for size := -40; size < 200; size++ {
		wanted := api.OK
		if size <= 0 || size%8 != 0 {
			wanted = api.ErrRange
		}
		expectSplit(t, "a size", p, size, wanted)
		expectSplit(t, "a size and no payload", with(""), size, wanted)
	}
	for _, size := range []int{math.MinInt, math.MinInt + 8, -1 << 32, -65536, 12, 65535, 1<<32 + 4, math.MaxInt} {
		expectSplit(t, "a size", p, size, api.ErrRange)
	}
}

func TestSplitOfEveryKind(t *testing.T) {
	for kind := 2; kind < 256; kind++ {
		parts, err := ipv4.Split(with("aaaaaaaabbbbbbbbcccccccc", api.Option{Kind: kind, Data: "x"}), 8)
		if err != api.OK || len(parts) != 3 {
			t.Fatal(kind, parts, err)
		}
		for k, part := range parts {
			if want := k == 0 || kind >= 128; want != slices.Equal(part.Options, []api.Option{{Kind: kind, Data: "x"}}) || !want && len(part.Options) > 0 {
				t.Errorf("the options of part %d are %v", k, part.Options)
			}
		}
	}
}

func TestSplitOfGreatOffsets(t *testing.T) {
	for from := maxOffset - 80; from <= maxOffset; from += 8 {
		for n := range 100 {
			for _, size := range []int{8, 16, 24, 128} {
				p := changedSample(func(p *api.Ip4) { p.Offset, p.Payload = from, strings.Repeat("x", n) })
				wanted := api.OK
				if last := max(n-1, 0) / size * size; from+last > maxOffset {
					wanted = api.ErrRange
				}
				expectSplit(t, "an offset", p, size, wanted)
			}
		}
	}
	p := changedSample(func(p *api.Ip4) { p.Offset, p.Payload = 32, strings.Repeat("x", 65512) })
	expectSplit(t, "many parts", p, 8, api.ErrRange)
	p.Offset = 24
	expectSplit(t, "many parts", p, 8, api.OK)
}

func TestSplitOfSeveralErrors(t *testing.T) {
	// bad has an error of Encode, is not to be divided, and would reach too great offsets.
	bad := changedSample(func(p *api.Ip4) { p.Tos, p.Dont, p.Offset, p.Payload = 256, true, maxOffset, "aaaaaaaabbbb" })
	long := bad
	long.Tos, long.Payload = 0, strings.Repeat("x", 65536)
	dont := bad
	dont.Tos = 0
	great := dont
	great.Dont = false
	expectSplit(t, "Encode", bad, 8, api.ErrRange)
	expectSplit(t, "size before length", long, 9, api.ErrRange)
	expectSplit(t, "size 0 before length", long, 0, api.ErrRange)
	expectSplit(t, "length before Dont", long, 8, api.ErrLong)
	expectSplit(t, "size before Dont", dont, 9, api.ErrRange)
	expectSplit(t, "Dont before offset", dont, 8, api.ErrState)
	expectSplit(t, "range before Dont", bad, 8, api.ErrRange)
	expectSplit(t, "offset", great, 8, api.ErrRange)
	expectSplit(t, "no error", great, 16, api.OK)
	expectSplit(t, "a kind", with("aaaaaaaabbbb", api.Option{Kind: 1}), 8, api.ErrRange)
	expectSplit(t, "long options", with("aaaaaaaabbbb", api.Option{Kind: 7, Data: strings.Repeat("x", 39)}), 8, api.ErrLong)
	expectSplit(t, "long options that only the first part has", with("", api.Option{Kind: 7, Data: strings.Repeat("x", 39)}), 8, api.ErrLong)
	expectSplit(t, "an address", changedSample(func(p *api.Ip4) { p.Dst.V6 = true }), 8, api.ErrRange)
	expectSplit(t, "an offset that is not a multiple", changedSample(func(p *api.Ip4) { p.Offset = 4 }), 8, api.ErrRange)
}

// P11.4

func TestFragment(t *testing.T) {
	p := api.Ip4{
		Tos: 1, Id: 2, Ttl: 3, Proto: 4, Dont: true, More: true, Offset: 8, Src: api.Addr{Lo: 5}, Dst: api.Addr{Lo: 6},
		Options: []api.Option{{Kind: 7, Data: "x"}}, Payload: "abc",
	}
	want := api.Fragment{Src: api.Addr{Lo: 5}, Dst: api.Addr{Lo: 6}, Proto: 4, Id: 2, Ttl: 3, Offset: 8, More: true, Data: "abc"}
	if got := ipv4.Fragment(p); got != want {
		t.Error(got)
	}
	p.More = false
	want.More = false
	if got := ipv4.Fragment(p); got != want {
		t.Error("the last fragment:", got)
	}
	if got := ipv4.Fragment(api.Ip4{}); got != (api.Fragment{}) {
		t.Error("nothing is set:", got)
	}
}

func TestFragmentOfValuesThatEncodeDoesNotTake(t *testing.T) {
	for _, a := range []api.Addr{{V6: true}, {V6: true, Hi: 1, Lo: 2}, {Hi: 3, Lo: 4}, {Lo: 1 << 40}, {Hi: math.MaxUint64, Lo: math.MaxUint64}} {
		b := api.Addr{V6: !a.V6, Hi: a.Lo, Lo: a.Hi}
		p := api.Ip4{Src: a, Dst: b, Proto: -1, Id: math.MinInt, Ttl: math.MaxInt, Offset: -5, More: true, Payload: strings.Repeat("x", 100000)}
		if got := ipv4.Fragment(p); got != (api.Fragment{Src: a, Dst: b, Proto: -1, Id: math.MinInt, Ttl: math.MaxInt, Offset: -5, More: true, Data: p.Payload}) {
			t.Errorf("Fragment of a packet from %v to %v: %+.200v", a, b, got)
		}
	}
}

func TestRouted(t *testing.T) {
	for _, kind := range append(numbersAround(), 131+256, 137+256, 131-256, 137-256) {
		if ipv4.Routed(with("", api.Option{Kind: kind})) {
			t.Error("the kind", kind)
		}
	}
	for kind := range 300 {
		want := kind == 131 || kind == 137
		for k, p := range []api.Ip4{
			with("", api.Option{Kind: kind}), with("ab", api.Option{Kind: kind, Data: "x"}, api.Option{Kind: 7}), with("", api.Option{Kind: 7}, api.Option{Kind: kind}),
			{Options: slices.Insert(make([]api.Option, 100), 99, api.Option{Kind: kind}), Src: api.Addr{V6: true}},
		} {
			if got := ipv4.Routed(p); got != want {
				t.Errorf("packet %d with the kind %d: %v", k, kind, got)
			}
		}
	}
	if !ipv4.Routed(with("", api.Option{Kind: 131}, api.Option{Kind: 137})) {
		t.Error("both kinds")
	}
	if ipv4.Routed(api.Ip4{}) || ipv4.Routed(with("\x83\x89", api.Option{Kind: 130, Data: "\x83\x89"})) {
		t.Error("neither kind")
	}
}

func TestRoutedOfDecode(t *testing.T) {
	for kind := range 256 {
		p, err := ipv4.Decode(packet("\x01"+string([]byte{byte(kind)})+"\x03\x04\x00\x00\x00\x00", ""))
		if want := kind == 131 || kind == 137; ipv4.Routed(p) != want || want && err != api.OK {
			t.Errorf("the kind %d: %v", kind, err)
		}
	}
}

// P11.5

func TestDecodeOfEncode(t *testing.T) {
	r := source(116)
	count := 0
	for range 50000 {
		p := somePacket(r)
		s, err := ipv4.Encode(p)
		if err != api.OK {
			continue
		}
		count++
		expectDecode(t, "Encode", s, p)
		expectDecode(t, "Encode and more bytes", s+mixed(r, r.IntN(30)), p)
	}
	if count < 20000 {
		t.Error("only", count, "packets were encoded")
	}
}

// P11.6

func TestEncodeOfDecode(t *testing.T) {
	r := source(117)
	count := 0
	check := func(s string) {
		p, err := ipv4.Decode(s)
		if err != api.OK {
			return
		}
		count++
		again, err := ipv4.Encode(p)
		if err != api.OK {
			t.Fatalf("Encode(Decode(%q)): %v", s, err)
		}
		expectDecode(t, "Encode of Decode", again, p)
	}
	for range 50000 {
		check(someBytes(r))
	}
	everyText("\x00\x01\x02\x03\x83", 8, func(s string) { check(packet(s, "x")) })
	for _, options := range []string{strings.Repeat("\x07\x02", 20), "\x07\x28" + mixed(r, 38), strings.Repeat("\x01", 40), "\x00" + mixed(r, 39)} {
		check(packet(options, mixed(r, 65535-60)))
	}
	if count < 30000 {
		t.Error("only", count, "packets were decoded")
	}
}

// P11.7

func TestDecodeOfAChangedHeader(t *testing.T) {
	r := source(118)
	packets := []api.Ip4{sample(), {}, {Id: 65535, Src: api.Addr{Lo: math.MaxUint32}, Payload: "abcdefgh"}, with(strings.Repeat("x", 65515)), {Id: 0xbaeb}}
	for len(packets) < 40 {
		packets = append(packets, somePacket(r))
	}
	count := 0
	for _, p := range packets {
		s, err := ipv4.Encode(p)
		if err != api.OK {
			continue
		}
		for at := 1; at < int(s[0]%16)*4; at++ {
			for c := range 256 {
				changed := withByte(s, at, byte(c))
				if byte(c) == s[at] {
					continue
				}
				count++
				for _, text := range []string{changed, changed + "more bytes"} {
					if got, err := ipv4.Decode(text); err == api.OK || !isSame(got, api.Ip4{}) {
						t.Fatalf("Decode(%.80q) = %s, %v, changed at %d", text, show(got), err, at)
					}
				}
			}
		}
	}
	if count < 100000 {
		t.Error("only", count, "changes")
	}
}

// P11.8

func TestPartsOfSplit(t *testing.T) {
	r := source(119)
	count := 0
	for range 20000 {
		p := somePacket(r)
		size := 8 * (1 + r.IntN(16))
		_, wanted := divided(p, size)
		expectSplit(t, "some packet", p, size, wanted)
		parts, err := ipv4.Split(p, size)
		if err != api.OK {
			continue
		}
		count++
		joined := ""
		for k, part := range parts {
			joined += part.Payload
			s, err := ipv4.Encode(part)
			if err != api.OK {
				t.Fatalf("Split(%s, %d): part %d: %v", show(p), size, k, err)
			}
			expectDecode(t, "a part", s, part)
		}
		if joined != p.Payload {
			t.Fatalf("Split(%s, %d): %q", show(p), size, joined)
		}
	}
	if count < 5000 {
		t.Error("only", count, "packets were divided")
	}
}

// A part of a packet that is examined as a fragment stands where the payload of the packet stood.
func TestFragmentsOfSplit(t *testing.T) {
	p := changedSample(func(p *api.Ip4) { p.Id, p.Offset, p.Payload = 9, 80, "aaaaaaaabbbbbbbbcccc" })
	parts, err := ipv4.Split(p, 8)
	if err != api.OK {
		t.Fatal(err)
	}
	for _, part := range parts {
		f := ipv4.Fragment(part)
		if at := f.Offset - 80; f.Id != 9 || f.Src != p.Src || f.Dst != p.Dst || f.Proto != 17 || f.Ttl != 64 || !strings.HasPrefix(p.Payload[at:], f.Data) {
			t.Errorf("the fragment %v", f)
		}
	}
}

// R1

func TestAnyStrings(t *testing.T) {
	r := source(120)
	for range 50000 {
		s := mixed(r, r.IntN(80))
		expectDefinition(t, s)
		expectDefinition(t, "\x45"+s)
		expectDefinition(t, "\x4f"+s)
	}
}

func TestAnyPackets(t *testing.T) {
	r := source(121)
	for range 20000 {
		p := api.Ip4{
			Tos: int(r.Uint64()), Id: int(r.Uint64()), Ttl: int(r.Uint64()), Proto: int(r.Uint64()), Offset: int(r.Uint64()),
			Src: api.Addr{V6: true, Hi: r.Uint64(), Lo: r.Uint64()}, Dst: api.Addr{Hi: r.Uint64()}, Options: []api.Option{{Kind: int(r.Uint64())}},
		}
		expectEncode(t, "any packet", p, api.ErrRange)
		expectSplit(t, "any packet", p, int(r.Uint64()), api.ErrRange)
		ipv4.Fragment(p)
		ipv4.Routed(p)
	}
}

// R3

func TestArgumentsAreNotModified(t *testing.T) {
	all := []api.Option{{Kind: 7, Data: "a"}, {Kind: 131, Data: "b"}, {Kind: 8}, {Kind: 200}, {Kind: 9}, {Kind: 0, Data: "spare"}, {Kind: 300}}
	want := slices.Clone(all)
	for n := range len(all) + 1 {
		for _, payload := range []string{"", "abcdefghijkl", strings.Repeat("x", 65536)} {
			p := with(payload, all[:n]...)
			ipv4.Encode(p)
			ipv4.Split(p, 8)
			ipv4.Fragment(p)
			ipv4.Routed(p)
			if !slices.Equal(all, want) {
				t.Fatalf("the options %v are now %v", want, all)
			}
		}
	}
}

func TestResultsAreNewMemory(t *testing.T) {
	s := packet("\x07\x03a\x83\x03b\x00\x00", "")
	first, _ := ipv4.Decode(s)
	first.Options[0] = api.Option{Kind: 99}
	_ = append(first.Options[:1], api.Option{Kind: 98})
	expectDecode(t, "once more", s, with("", api.Option{Kind: 7, Data: "a"}, api.Option{Kind: 131, Data: "b"}))

	options := []api.Option{{Kind: 131, Data: "a"}, {Kind: 137, Data: "b"}}
	p := with("aaaaaaaabbbbbbbbcccc", options...)
	parts, err := ipv4.Split(p, 8)
	if err != api.OK || len(parts) != 3 {
		t.Fatal(parts, err)
	}
	for k := range parts {
		parts[k].Options[0].Kind = 40 + k
		parts[k].Options = append(parts[k].Options, api.Option{Kind: 50 + k})
	}
	for k, part := range parts {
		if !slices.Equal(part.Options, []api.Option{{Kind: 40 + k, Data: "a"}, {Kind: 137, Data: "b"}, {Kind: 50 + k}}) {
			t.Errorf("part %d has the options %v", k, part.Options)
		}
	}
	if !slices.Equal(options, []api.Option{{Kind: 131, Data: "a"}, {Kind: 137, Data: "b"}}) {
		t.Error("the options of the packet are now", options)
	}
}
