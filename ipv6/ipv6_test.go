package ipv6_test

import (
	"encoding/binary"
	"fmt"
	"math"
	"math/rand/v2"
	"slices"
	"strings"
	"testing"

	"intrusion/api"
	"intrusion/ipv6"
)

const (
	// addresses are those of the packets below, from 2001:db8::1 to 2001:db8::2.
	addresses = "\x20\x01\x0d\xb8\x00\x00\x00\x00\x00\x00\x00\x00\x00\x00\x00\x01\x20\x01\x0d\xb8\x00\x00\x00\x00\x00\x00\x00\x00\x00\x00\x00\x02"
	maxId     = 1<<32 - 1
	maxOffset = 65528
)

// headerKinds are the kinds of the headers of a payload.
var headerKinds = []int{0, 43, 44, 60}

// address returns one of the addresses above.
func address(n uint64) api.Addr { return api.Addr{V6: true, Hi: 0x20010db8 << 32, Lo: n} }

// sample returns the packet of the chapter's example of Encode.
func sample() api.Ip6 {
	return api.Ip6{Hops: 64, Next: 17, Src: address(1), Dst: address(2), Payload: "ab"}
}

// with returns the sample with extension headers and another payload.
func with(payload string, exts ...api.Ext) api.Ip6 {
	p := sample()
	p.Exts = exts
	p.Payload = payload
	return p
}

// changedSample returns the sample after a change.
func changedSample(change func(p *api.Ip6)) api.Ip6 {
	p := sample()
	change(&p)
	return p
}

// ext returns an extension header with 6 bytes.
func ext(kind int) api.Ext { return api.Ext{Kind: kind, Data: "abcdef"} }

// source returns pseudo random numbers, the same ones in every run.
func source(seed uint64) *rand.Rand { return rand.New(rand.NewPCG(seed, 0)) }

func mixed(r *rand.Rand, n int) string {
	b := make([]byte, n)
	for k := range b {
		b[k] = byte(r.Uint32())
	}
	return string(b)
}

// one returns the byte n.
func one(n int) string { return string([]byte{byte(n)}) }

// two returns the two bytes of n.
func two(n int) string { return string([]byte{byte(n >> 8), byte(n)}) }

// four returns the four bytes of n.
func four(n int) string { return string(binary.BigEndian.AppendUint32(nil, uint32(n))) }

// addressBytes returns the 16 bytes of an address.
func addressBytes(a api.Addr) string {
	return string(binary.BigEndian.AppendUint64(binary.BigEndian.AppendUint64(nil, a.Hi), a.Lo))
}

// addressOf returns the address of the 16 bytes at an offset.
func addressOf(s string, at int) api.Addr {
	return api.Addr{V6: true, Hi: binary.BigEndian.Uint64([]byte(s[at:])), Lo: binary.BigEndian.Uint64([]byte(s[at+8:]))}
}

// packet returns the bytes of a packet with the numbers of the sample, the kind of its first header, and its payload with the headers.
func packet(kind int, payload string) string {
	return "\x60\x00\x00\x00" + two(len(payload)) + one(kind) + "\x40" + addresses + payload
}

// extBytes returns an extension header without its Data, if another kind comes next.
func extBytes(next, n int) string { return one(next) + one(n) }

// chain returns the kind of the first header and the headers of these kinds, each with 8 bytes, before the protocol 17.
func chain(kinds ...int) (int, string) {
	s := ""
	next := 17
	for _, kind := range slices.Backward(kinds) {
		s = extBytes(next, 0) + "\x00\x01\x00\x00\x00\x02" + s
		next = kind
	}
	return next, s
}

// withByte returns s with another byte at an offset.
func withByte(s string, at int, c byte) string { return s[:at] + string([]byte{c}) + s[at+1:] }

// definedHeaders is the chapter's definition of the headers: p has what comes before the bytes s, which begin with a header of a kind.
func definedHeaders(p api.Ip6, isFirst bool, kind int, s string) (api.Ip6, api.Errno) {
	if !slices.Contains(headerKinds, kind) {
		p.Next, p.Payload = kind, s
		return p, api.OK
	}
	if kind == 0 && !isFirst || p.Fragment {
		return api.Ip6{}, api.ErrFormat
	}
	if kind != 44 && len(p.Exts) == 8 {
		return api.Ip6{}, api.ErrDepth
	}
	size := 8
	if kind != 44 && len(s) >= 2 {
		size = 2 + 6 + 8*int(s[1])
	}
	if len(s) < size {
		return api.Ip6{}, api.ErrShort
	}
	if kind == 44 {
		word := 256*int(s[2]) + int(s[3])
		p.Fragment, p.Offset, p.More, p.Id = true, 8*(word>>3), word%2 == 1, int(binary.BigEndian.Uint32([]byte(s[4:])))
	} else {
		p.Exts = append(p.Exts, api.Ext{Kind: kind, Data: s[2:size]})
	}
	return definedHeaders(p, false, int(s[0]), s[size:])
}

// decoded is the chapter's definition of Decode.
func decoded(s string) (api.Ip6, api.Errno) {
	if len(s) < 40 {
		return api.Ip6{}, api.ErrShort
	}
	if s[0]/16 != 6 {
		return api.Ip6{}, api.ErrFormat
	}
	end := 40 + 256*int(s[4]) + int(s[5])
	if end > len(s) {
		return api.Ip6{}, api.ErrShort
	}
	p := api.Ip6{
		Class: int(s[0]%16)*16 + int(s[1]/16), Label: int(s[1]%16)*65536 + int(s[2])*256 + int(s[3]), Hops: int(s[7]),
		Src: addressOf(s, 8), Dst: addressOf(s, 24),
	}
	return definedHeaders(p, true, int(s[6]), s[40:end])
}

func isOutside(n, last int) bool { return n < 0 || n > last }

// hasBadNumber is the chapter's definition of the numbers that Encode does not take.
func hasBadNumber(p api.Ip6) bool {
	if isOutside(p.Class, 255) || isOutside(p.Hops, 255) || isOutside(p.Label, 1048575) || isOutside(p.Next, 255) || slices.Contains(headerKinds, p.Next) {
		return true
	}
	if !p.Src.V6 || !p.Dst.V6 {
		return true
	}
	if p.Fragment {
		return isOutside(p.Id, maxId) || isOutside(p.Offset, maxOffset) || p.Offset%8 != 0
	}
	return p.Id != 0 || p.Offset != 0 || p.More
}

// encoded is the chapter's definition of Encode.
func encoded(p api.Ip6) (string, api.Errno) {
	if hasBadNumber(p) {
		return "", api.ErrRange
	}
	if len(p.Exts) > 8 {
		return "", api.ErrDepth
	}
	var kinds []int
	size := len(p.Payload)
	for k, e := range p.Exts {
		if e.Kind != 43 && e.Kind != 60 && (e.Kind != 0 || k > 0) || len(e.Data)%8 != 6 || len(e.Data) > 2046 {
			return "", api.ErrFormat
		}
		kinds = append(kinds, e.Kind)
		size += 2 + len(e.Data)
	}
	if p.Fragment {
		kinds = append(kinds, 44)
		size += 8
	}
	if size > 65535 {
		return "", api.ErrLong
	}
	kinds = append(kinds, p.Next)
	s := one(6*16+p.Class/16) + one(p.Class%16*16+p.Label/65536) + two(p.Label%65536) + two(size) + one(kinds[0]) + one(p.Hops) + addressBytes(p.Src) + addressBytes(p.Dst)
	for k, e := range p.Exts {
		s += one(kinds[k+1]) + one(len(e.Data)/8) + e.Data
	}
	if p.Fragment {
		more := 0
		if p.More {
			more = 1
		}
		s += one(p.Next) + one(0) + two(p.Offset+more) + four(p.Id)
	}
	return s + p.Payload, api.OK
}

// divided is the chapter's definition of Split.
func divided(p api.Ip6, size, id int) ([]api.Ip6, api.Errno) {
	if _, err := encoded(p); err != api.OK {
		return nil, err
	}
	if size < 1 || size%8 != 0 || isOutside(id, maxId) {
		return nil, api.ErrRange
	}
	if p.Fragment {
		return nil, api.ErrState
	}
	p.Fragment, p.Id = true, id
	parts := []api.Ip6{p}
	for {
		last := &parts[len(parts)-1]
		if len(last.Payload) <= size {
			break
		}
		next := *last
		next.Offset += size
		next.Payload = last.Payload[size:]
		last.More = true
		last.Payload = last.Payload[:size]
		parts = append(parts, next)
	}
	// All other parts have at most the length of the first one.
	if _, err := encoded(parts[0]); err != api.OK {
		return nil, err
	}
	return parts, api.OK
}

// show returns a short text of a packet.
func show(p api.Ip6) string {
	payload := p.Payload
	p.Payload = ""
	return fmt.Sprintf("%.200s %d bytes %.40q", fmt.Sprintf("%+v", p), len(payload), payload)
}

func isSame(a, b api.Ip6) bool {
	return slices.Equal(a.Exts, b.Exts) && a.Class == b.Class && a.Label == b.Label && a.Hops == b.Hops && a.Next == b.Next && a.Src == b.Src && a.Dst == b.Dst &&
		a.Fragment == b.Fragment && a.Id == b.Id && a.Offset == b.Offset && a.More == b.More && a.Payload == b.Payload
}

// The expectations end a test at its first failure, because some tests have many thousands of them.

func expectDecode(t *testing.T, what, s string, want api.Ip6) {
	t.Helper()
	if got, err := ipv6.Decode(s); err != api.OK || !isSame(got, want) {
		t.Fatalf("%s: Decode(%.80q) = %s, %v, want %s", what, s, show(got), err, show(want))
	}
}

func expectDecodeError(t *testing.T, what, s string, wanted api.Errno) {
	t.Helper()
	if got, err := ipv6.Decode(s); err != wanted || !isSame(got, api.Ip6{}) {
		t.Fatalf("%s: Decode(%.80q) = %s, %v, want %v", what, s, show(got), err, wanted)
	}
}

// expectDefinition compares Decode with the definition, and returns the error.
func expectDefinition(t *testing.T, s string) api.Errno {
	t.Helper()
	want, wanted := decoded(s)
	if got, err := ipv6.Decode(s); err != wanted || !isSame(got, want) {
		t.Fatalf("Decode(%.100q) = %s, %v, want %s, %v", s, show(got), err, show(want), wanted)
	}
	return wanted
}

func expectEncode(t *testing.T, what string, p api.Ip6, wanted api.Errno) {
	t.Helper()
	want, defined := encoded(p)
	if defined != wanted {
		t.Fatalf("%s: the definition says %v, not %v", what, defined, wanted)
	}
	if got, err := ipv6.Encode(p); err != wanted || got != want {
		t.Fatalf("%s: Encode(%s) = %.100q, %v, want %.100q, %v", what, show(p), got, err, want, wanted)
	}
}

func expectSplit(t *testing.T, what string, p api.Ip6, size, id int, wanted api.Errno) {
	t.Helper()
	want, defined := divided(p, size, id)
	if defined != wanted {
		t.Fatalf("%s: the definition says %v, not %v", what, defined, wanted)
	}
	got, err := ipv6.Split(p, size, id)
	if err != wanted || len(got) != len(want) {
		t.Fatalf("%s: Split(%s, %d, %d) = %d parts, %v, want %d parts, %v", what, show(p), size, id, len(got), err, len(want), wanted)
	}
	for k := range want {
		if !isSame(got[k], want[k]) {
			t.Fatalf("%s: Split(%s, %d, %d): part %d is %s, want %s", what, show(p), size, id, k, show(got[k]), show(want[k]))
		}
	}
}

// someKind returns the kind of a header or, with n headers before, more and more often a protocol.
func someKind(r *rand.Rand, n int) int {
	if r.IntN(20) < n {
		return r.IntN(256)
	}
	switch r.IntN(12) {
	case 0:
		return 44
	case 1:
		// Behind the first header, this is an error.
		if n == 0 || r.IntN(4) == 0 {
			return 0
		}
	}
	return 43 + 17*r.IntN(2)
}

// someBytes returns the bytes of a packet that is mostly correct.
func someBytes(r *rand.Rand) string {
	first := someKind(r, 0)
	kind, payload := first, ""
	for n := 1; slices.Contains(headerKinds, kind); n++ {
		next := someKind(r, n)
		if kind == 44 && r.IntN(8) > 0 {
			next = 64 + r.IntN(190)
		}
		units := r.IntN(8) / 6
		if kind == 44 {
			payload += one(next) + mixed(r, 7)
		} else {
			payload += extBytes(next, units) + mixed(r, 6+8*units)
		}
		kind = next
	}
	payload += mixed(r, r.IntN(20))
	b := []byte(packet(first, payload))
	copy(b, one(0x60+r.IntN(16))+mixed(r, 3))
	copy(b[7:40], mixed(r, 33))
	if r.IntN(10) == 0 {
		b[r.IntN(len(b))] = byte(r.Uint32())
	}
	if r.IntN(10) == 0 {
		b[4+r.IntN(3)] = byte(r.IntN(80))
	}
	s := string(b)
	if r.IntN(10) == 0 {
		s = s[:r.IntN(len(s)+1)]
	}
	return s + mixed(r, r.IntN(4))
}

// somePacket returns a packet that is mostly valid.
func somePacket(r *rand.Rand) api.Ip6 {
	p := api.Ip6{
		Class: r.IntN(256), Label: r.IntN(1 << 20), Hops: r.IntN(256), Next: 61 + r.IntN(195),
		Src: api.Addr{V6: true, Hi: r.Uint64(), Lo: r.Uint64()}, Dst: api.Addr{V6: true, Hi: r.Uint64(), Lo: r.Uint64()}, Payload: mixed(r, r.IntN(100)),
	}
	for k := range r.IntN(9) {
		kinds := []int{43, 60, 0}
		p.Exts = append(p.Exts, api.Ext{Kind: kinds[r.IntN(max(2, 3-k))], Data: mixed(r, 6+8*r.IntN(4))})
	}
	if r.IntN(2) == 0 {
		p.Fragment, p.Id, p.Offset, p.More = true, int(r.Uint32()), 8*r.IntN(8192), r.IntN(2) == 0
	}
	switch r.IntN(60) {
	case 0:
		p.Class = r.IntN(1024) - 512
	case 1:
		p.Label = r.IntN(1<<22) - 1<<21
	case 2:
		p.Hops = int(r.Uint64())
	case 3:
		p.Next = r.IntN(300) - 20
	case 4:
		p.Next = headerKinds[r.IntN(4)]
	case 5:
		p.Src.V6 = false
	case 6:
		p.Dst.V6 = false
	case 7:
		p.Fragment = !p.Fragment
	case 8:
		p.Id = int(r.Uint64())
	case 9:
		p.Offset = r.IntN(1<<18) - 1<<17
	case 10:
		p.More = true
	case 11:
		p.Exts = append(p.Exts, api.Ext{Kind: r.IntN(70), Data: mixed(r, 6)})
	case 12:
		p.Exts = append(p.Exts, api.Ext{Kind: 43, Data: mixed(r, r.IntN(30))})
	case 13:
		p.Exts = append(p.Exts, slices.Repeat([]api.Ext{ext(60)}, r.IntN(9))...)
	case 14, 15:
		p.Payload = mixed(r, 65400+r.IntN(200))
	}
	return p
}

// P12.1

func TestDecode(t *testing.T) {
	expectDecode(t, "the example", "\x60\x00\x00\x00\x00\x00\x3b\x00"+strings.Repeat("\x00", 32), api.Ip6{Next: 59, Src: api.Addr{V6: true}, Dst: api.Addr{V6: true}})
	s := "\x60\x00\x00\x00\x00\x02\x11\x40" + addresses + "ab"
	expectDecode(t, "the example of Encode", s, sample())
	expectDecode(t, "more bytes", s+"cdef", sample())
	expectDecode(t, "no payload", packet(17, ""), with(""))
	expectDecode(t, "an extension header", packet(60, "\x11\x00abcdefxyz"), with("xyz", api.Ext{Kind: 60, Data: "abcdef"}))
	expectDecode(t, "extension headers", packet(0, "\x2b\x01abcdefghijklmn\x3c\x00opqrst\x11\x00uvwxyz."), with(".",
		api.Ext{Kind: 0, Data: "abcdefghijklmn"}, api.Ext{Kind: 43, Data: "opqrst"}, api.Ext{Kind: 60, Data: "uvwxyz"}))
	expectDecode(t, "a fragment header", packet(44, "\x11\x00\x01\x01\x02\x03\x04\x05xyz"), changedSample(func(p *api.Ip6) {
		p.Fragment, p.Offset, p.More, p.Id, p.Payload = true, 256, true, 0x02030405, "xyz"
	}))
	expectDecode(t, "both", packet(60, "\x2c\x00abcdef\x11\x00\x00\x08\x00\x00\x00\x07"), changedSample(func(p *api.Ip6) {
		p.Exts, p.Fragment, p.Offset, p.Id, p.Payload = []api.Ext{ext(60)}, true, 8, 7, ""
	}))
	expectDecode(t, "the greatest numbers", "\x6f\xff\xff\xff\x00\x09\x2c\xff"+strings.Repeat("\xff", 41), api.Ip6{
		Class: 255, Label: 1<<20 - 1, Hops: 255, Next: 255, Src: api.Addr{V6: true, Hi: math.MaxUint64, Lo: math.MaxUint64}, Dst: api.Addr{V6: true, Hi: math.MaxUint64, Lo: math.MaxUint64},
		Fragment: true, Id: maxId, Offset: maxOffset, More: true, Payload: "\xff",
	})
}

func TestDecodeOfEachField(t *testing.T) {
	s := "\x61\x23\x45\x67\x00\x03\x11\x89"
	want := api.Ip6{Class: 0x12, Label: 0x34567, Hops: 0x89, Next: 17, Payload: "abc"}
	want.Src = api.Addr{V6: true, Hi: 0x0102030405060708, Lo: 0x090a0b0c0d0e0f10}
	want.Dst = api.Addr{V6: true, Hi: 0x1112131415161718, Lo: 0x191a1b1c1d1e1f20}
	for k := range 32 {
		s += one(k + 1)
	}
	expectDecode(t, "different bytes", s+"abc", want)
	for at := 8; at < 40; at++ {
		for c := range 256 {
			expectDefinition(t, withByte(s+"abc", at, byte(c)))
		}
	}
}

func TestDecodeOfEveryClassAndLabel(t *testing.T) {
	whole := packet(17, "ab")
	for n := range 1 << 16 {
		p := sample()
		p.Label = n
		expectDecode(t, "the lower bytes of Label", whole[:2]+two(n)+whole[4:], p)
		s := two(n) + whole[2:]
		if n>>12 != 6 {
			expectDecodeError(t, "the version", s, api.ErrFormat)
			continue
		}
		p.Class, p.Label = n>>4&255, n%16<<16
		expectDecode(t, "Class and the upper bits of Label", s, p)
	}
}

func TestDecodeOfEveryHops(t *testing.T) {
	for n := range 256 {
		expectDecode(t, "Hops", withByte(packet(17, "ab"), 7, byte(n)), changedSample(func(p *api.Ip6) { p.Hops = n }))
	}
}

func TestDecodeOfEveryPrefix(t *testing.T) {
	for _, s := range []string{
		packet(17, ""), packet(17, "a"), packet(17, "abcdefgh"), packet(60, "\x11\x00abcdef"), packet(0, "\x2b\x02"+strings.Repeat("x", 22)+"\x2c\x00abcdef\x3b\x00\x00\x01\x02\x03\x04\x05xyz"),
		packet(44, "\x11\x00\x00\x01\x02\x03\x04\x05"),
	} {
		for n := range len(s) {
			expectDecodeError(t, "a prefix", s[:n], api.ErrShort)
			// Only with fewer than 40 bytes the version does not matter.
			wanted := api.ErrFormat
			if n < 40 {
				wanted = api.ErrShort
			}
			if n > 0 {
				expectDecodeError(t, "a prefix with another version", "\x40"+s[1:n], wanted)
			}
		}
		if expectDefinition(t, s) != api.OK || expectDefinition(t, s+"x") != api.OK {
			t.Errorf("Decode(%q)", s)
		}
	}
	expectDecodeError(t, "no bytes", "", api.ErrShort)
}

func TestDecodeOfEveryPayloadLength(t *testing.T) {
	kind, headers := chain(60, 43, 44)
	for _, c := range []struct {
		kind    int
		payload string
		least   int
	}{{17, strings.Repeat("x", 50), 0}, {kind, headers + strings.Repeat("x", 20), 24}, {60, "\x11\x04" + strings.Repeat("x", 38), 40}} {
		whole := packet(c.kind, c.payload)
		for n := range 1 << 16 {
			s := whole[:4] + two(n) + whole[6:]
			wanted := api.OK
			if n > len(c.payload) || n < c.least {
				wanted = api.ErrShort
			}
			if err := expectDefinition(t, s); err != wanted {
				t.Fatalf("the payload length %d of %d bytes: %v, want %v", n, len(c.payload), err, wanted)
			}
			if wanted == api.OK {
				if p, _ := ipv6.Decode(s); p.Payload != c.payload[c.least:n] {
					t.Fatalf("the payload length %d: the payload %q", n, p.Payload)
				}
			}
		}
	}
}

func TestDecodeOfLongPackets(t *testing.T) {
	r := source(121)
	for _, exts := range [][]api.Ext{nil, {{Kind: 43, Data: mixed(r, 2046)}}, slices.Repeat([]api.Ext{{Kind: 60, Data: mixed(r, 2046)}}, 8)} {
		headers := ""
		for k, e := range exts {
			next := e.Kind
			if k == len(exts)-1 {
				next = 17
			}
			headers += extBytes(next, 255) + e.Data
		}
		kind := 17
		if len(exts) > 0 {
			kind = exts[0].Kind
		}
		payload := mixed(r, 65535-len(headers))
		s := packet(kind, headers+payload)
		expectDecode(t, "the longest packet", s, with(payload, exts...))
		expectDecode(t, "many more bytes", s+strings.Repeat("x", 100000), with(payload, exts...))
		expectDecodeError(t, "a byte is missing", s[:len(s)-1], api.ErrShort)
	}
}

func TestDecodeOfEveryKind(t *testing.T) {
	eight := "\x00\x00\x00\x00\x00\x00"
	for kind := range 256 {
		isHeader := slices.Contains(headerKinds, kind)
		s := packet(kind, "\x11\x00"+eight)
		switch {
		case !isHeader:
			expectDecode(t, "a protocol", s, changedSample(func(p *api.Ip6) { p.Next, p.Payload = kind, "\x11\x00"+eight }))
		case kind == 44:
			expectDecode(t, "the fragment header", s, changedSample(func(p *api.Ip6) { p.Fragment, p.Payload = true, "" }))
		default:
			expectDecode(t, "an extension header", s, with("", api.Ext{Kind: kind, Data: eight}))
		}
		for _, first := range []int{0, 43, 60} {
			s := packet(first, one(kind)+"\x00"+eight+"\x11\x00"+eight)
			switch {
			case kind == 0:
				expectDecodeError(t, "the kind 0 in the second place", s, api.ErrFormat)
			case !isHeader:
				expectDecode(t, "a protocol after an extension header", s, changedSample(func(p *api.Ip6) {
					p.Exts, p.Next, p.Payload = []api.Ext{{Kind: first, Data: eight}}, kind, "\x11\x00"+eight
				}))
			case kind == 44:
				expectDecode(t, "the fragment header after an extension header", s, changedSample(func(p *api.Ip6) {
					p.Exts, p.Fragment, p.Payload = []api.Ext{{Kind: first, Data: eight}}, true, ""
				}))
			default:
				expectDecode(t, "a second extension header", s, with("", api.Ext{Kind: first, Data: eight}, api.Ext{Kind: kind, Data: eight}))
			}
		}
		// Of a fragment that is not the first one too, the next header is examined.
		for _, word := range []string{"\x00\x00", "\x00\x01", "\x12\x38"} {
			s := packet(44, one(kind)+"\x00"+word+"\x00\x00\x00\x05\x11\x00"+eight)
			if isHeader {
				expectDecodeError(t, "a header after a fragment header", s, api.ErrFormat)
				expectDecodeError(t, "a header after a fragment header that does not fit", packet(44, one(kind)+"\x00"+word+"\x00\x00\x00\x05"), api.ErrFormat)
			} else if expectDefinition(t, s) != api.OK {
				t.Error("the protocol", kind, "after a fragment header")
			}
		}
	}
}

// everyList calls do with all lists of n of some numbers.
func everyList(some []int, n int, do func(l []int)) {
	if n == 0 {
		do(nil)
		return
	}
	everyList(some, n-1, func(l []int) {
		for _, k := range some {
			do(append(slices.Clone(l), k))
		}
	})
}

func TestDecodeOfEveryOrderOfHeaders(t *testing.T) {
	counts := map[api.Errno]int{}
	for n := range 7 {
		everyList(headerKinds, n, func(kinds []int) {
			kind, headers := chain(kinds...)
			wanted := api.OK
			for k, before := range kinds {
				if k > 0 && (before == 0 || kinds[k-1] == 44) {
					wanted = api.ErrFormat
				}
			}
			if err := expectDefinition(t, packet(kind, headers+"xyz")); err != wanted {
				t.Fatalf("the headers %v: %v, want %v", kinds, err, wanted)
			}
			counts[wanted]++
			// Without the last byte of the last header.
			if n > 0 {
				if err := expectDefinition(t, packet(kind, headers[:len(headers)-1])); wanted == api.OK && err != api.ErrShort {
					t.Fatalf("the headers %v without the last byte: %v", kinds, err)
				}
			}
		})
	}
	if len(counts) != 2 || counts[api.OK] < 200 || counts[api.ErrFormat] < 200 {
		t.Error(counts)
	}
}

func TestDecodeOfManyHeaders(t *testing.T) {
	for n := range 40 {
		for _, first := range []int{0, 43, 60} {
			kinds := append([]int{first}, slices.Repeat([]int{60, 43}, 20)...)[:n]
			wanted := api.OK
			if n > 8 {
				wanted = api.ErrDepth
			}
			for _, kinds := range [][]int{kinds, append(slices.Clone(kinds), 44)} {
				kind, headers := chain(kinds...)
				s := packet(kind, headers+"xyz")
				if err := expectDefinition(t, s); err != wanted {
					t.Fatalf("the headers %v: %v, want %v", kinds, err, wanted)
				}
				if p, _ := ipv6.Decode(s); wanted == api.OK && (len(p.Exts) != n || p.Payload != "xyz" || p.Fragment != (len(kinds) > n)) {
					t.Fatalf("the headers %v: %s", kinds, show(p))
				}
			}
		}
	}
	eight := slices.Repeat([]int{60}, 8)
	for _, c := range []struct {
		what  string
		kinds []int
		cut   int
		want  api.Errno
	}{
		{"the ninth header is not there", append(slices.Clone(eight), 43), 8, api.ErrDepth},
		{"the ninth header is cut", append(slices.Clone(eight), 43), 1, api.ErrDepth},
		{"the eighth header is cut", eight, 1, api.ErrShort},
		{"the ninth header has the kind 0", append(slices.Clone(eight), 0), 8, api.ErrFormat},
		{"the fragment header is not there", append(slices.Clone(eight), 44), 8, api.ErrShort},
		{"the ninth header follows a fragment header", append(slices.Clone(eight), 44, 60), 8, api.ErrFormat},
		{"the kind 0 follows a fragment header", append(slices.Clone(eight), 44, 0), 0, api.ErrFormat},
		{"the kind 0 follows nine headers", append(slices.Clone(eight), 60, 0), 0, api.ErrDepth},
	} {
		kind, headers := chain(c.kinds...)
		expectDecodeError(t, c.what, packet(kind, headers[:len(headers)-c.cut]), c.want)
		expectDecodeError(t, c.what+", and bytes follow", packet(kind, headers[:len(headers)-c.cut])+strings.Repeat("\x00", 16), c.want)
	}
}

func TestDecodeOfEveryHeaderLength(t *testing.T) {
	r := source(122)
	for n := range 256 {
		for _, kind := range []int{0, 43, 60} {
			data := mixed(r, 6+8*n)
			expectDecode(t, "a length", packet(kind, extBytes(17, n)+data), with("", api.Ext{Kind: kind, Data: data}))
			expectDecode(t, "a length", packet(kind, extBytes(17, n)+data+"abc"), with("abc", api.Ext{Kind: kind, Data: data}))
			// The bytes after the payload length do not complete the header.
			short := packet(kind, extBytes(17, n)+data[1:])
			expectDecodeError(t, "a byte is missing", short, api.ErrShort)
			expectDecodeError(t, "a byte is behind the payload", short+"abc", api.ErrShort)
			second := packet(43, extBytes(60, 1)+"abcdefghijklmn"+extBytes(17, n)+data)
			expectDecode(t, "a second header", second, with("", api.Ext{Kind: 43, Data: "abcdefghijklmn"}, api.Ext{Kind: 60, Data: data}))
		}
	}
	for n := range 8 {
		for _, kind := range headerKinds {
			for _, second := range []string{"\x00", "\x01", "\xff"} {
				s := packet(kind, ("\x11" + second + "abcdef")[:n])
				expectDecodeError(t, "a header of few bytes", s, api.ErrShort)
				expectDecodeError(t, "a header of few bytes, and more bytes", s+"abcdefgh", api.ErrShort)
			}
		}
	}
}

func TestDecodeOfEveryFragmentHeader(t *testing.T) {
	for n := range 1 << 16 {
		p := sample()
		p.Fragment, p.Offset, p.More, p.Id = true, n>>3*8, n&1 != 0, 0x01020304
		expectDecode(t, "Offset and More", packet(44, "\x11\x00"+two(n)+"\x01\x02\x03\x04ab"), p)
	}
	for n := range 256 {
		p := sample()
		p.Fragment, p.Offset, p.More, p.Id = true, 0x100, true, 1
		expectDecode(t, "the ignored byte", packet(44, "\x11"+one(n)+"\x01\x01\x00\x00\x00\x01ab"), p)
		for k := range 4 {
			p.Id = n << (8 * k)
			expectDecode(t, "Id", packet(44, "\x11\x00\x01\x01"+four(n<<(8*k))+"ab"), p)
		}
	}
	for k := range 33 {
		p := sample()
		p.Fragment, p.Id = true, 1<<k-1
		expectDecode(t, "Id", packet(44, "\x11\x00\x00\x00"+four(1<<k-1)+"ab"), p)
	}
}

func TestDecodeOfSeveralErrors(t *testing.T) {
	kind, headers := chain(43, 60, 0)
	bad := packet(kind, headers)
	length := func(s string, n int) string { return s[:4] + two(n) + s[6:] }
	expectDecodeError(t, "short before version", "\x40"+bad[1:39], api.ErrShort)
	expectDecodeError(t, "version before payload length", length("\x70"+bad[1:], 1000), api.ErrFormat)
	expectDecodeError(t, "version before headers", "\x00"+packet(43, "\x11\x01abcdef")[1:], api.ErrFormat)
	expectDecodeError(t, "payload length before headers", length(bad, 25), api.ErrShort)
	expectDecodeError(t, "the kind 0", bad, api.ErrFormat)
	expectDecodeError(t, "the kind 0 before its length", length(bad, 16), api.ErrFormat)
	expectDecodeError(t, "a cut header before the kind 0", length(bad, 15), api.ErrShort)
	expectDecodeError(t, "a cut header before the kind 0 that it announces", packet(43, "\x00\x01abcdef"), api.ErrShort)
	expectDecodeError(t, "a cut fragment header before the header that it announces", packet(44, "\x3c\x00\x00\x00\x00\x00\x00"), api.ErrShort)
	expectDecodeError(t, "the kind 0 after the kind 0", packet(0, "\x00\x00abcdef"), api.ErrFormat)
	kind, headers = chain(slices.Repeat([]int{43}, 9)...)
	deep := packet(kind, headers)
	expectDecodeError(t, "payload length before depth", length(deep, 73), api.ErrShort)
	expectDecodeError(t, "depth before length", length(deep, 64), api.ErrDepth)
	expectDecodeError(t, "length before depth", length(deep, 63), api.ErrShort)
}

func TestDecodeOfSomeBytes(t *testing.T) {
	r := source(123)
	counts := map[api.Errno]int{}
	for range 100000 {
		counts[expectDefinition(t, someBytes(r))]++
	}
	if counts[api.OK] < 10000 || counts[api.ErrShort] < 10000 || counts[api.ErrFormat] < 5000 || counts[api.ErrDepth] < 1000 {
		t.Error(counts)
	}
}

// P12.2

func TestEncode(t *testing.T) {
	want := "\x60\x00\x00\x00\x00\x02\x11\x40" + addresses + "ab"
	if s, err := ipv6.Encode(sample()); s != want || err != api.OK || len(s) != 42 {
		t.Errorf("Encode of the example = %q, %v", s, err)
	}
	want = "\x60\x00\x00\x00\x00\x0b\x3c\x40" + addresses + "\x11\x00abcdefxyz"
	if s, err := ipv6.Encode(with("xyz", ext(60))); s != want || err != api.OK || len(s) != 51 {
		t.Errorf("Encode of the second example = %q, %v", s, err)
	}
	p := api.Ip6{
		Class: 0x12, Label: 0x34567, Hops: 0x89, Next: 58, Src: address(1), Dst: address(2),
		Exts:     []api.Ext{{Kind: 0, Data: "abcdefghijklmn"}, {Kind: 60, Data: "opqrst"}, {Kind: 43, Data: "uvwxyz"}},
		Fragment: true, Id: 0x0a0b0c0d, Offset: 0x1238, More: true, Payload: "xyz",
	}
	want = "\x61\x23\x45\x67\x00\x2b\x00\x89" + addresses + "\x3c\x01abcdefghijklmn\x2b\x00opqrst\x2c\x00uvwxyz\x3a\x00\x12\x39\x0a\x0b\x0c\x0dxyz"
	if s, err := ipv6.Encode(p); s != want || err != api.OK {
		t.Errorf("Encode(%s) = %q, %v, want %q", show(p), s, err, want)
	}
	expectEncode(t, "a packet with headers", p, api.OK)
	expectEncode(t, "zeros but Next", api.Ip6{Next: 1, Src: api.Addr{V6: true}, Dst: api.Addr{V6: true}}, api.OK)
	expectEncode(t, "nothing is set", api.Ip6{}, api.ErrRange)
	all := api.Addr{V6: true, Hi: math.MaxUint64, Lo: math.MaxUint64}
	expectEncode(t, "the greatest numbers", api.Ip6{
		Class: 255, Label: 1<<20 - 1, Hops: 255, Next: 255, Src: all, Dst: all, Fragment: true, Id: maxId, Offset: maxOffset, More: true, Payload: "\xff",
	}, api.OK)
}

// numbersAround are numbers that no field of a packet can hold.
func numbersAround() []int {
	return []int{
		math.MinInt, math.MinInt + 8, math.MinInt + 17, -1 << 32, -1<<32 + 17, -1 << 20, -65536, -256, -256 + 17, -8, -1,
		1 << 32, 1<<32 + 8, 1<<32 + 17, 1<<33 - 1, 1 << 40, 1 << 48, math.MaxInt - 7, math.MaxInt,
	}
}

// wantedUpTo returns the error for a number that has to be from 0 to last.
func wantedUpTo(n, last int) api.Errno {
	if n < 0 || n > last {
		return api.ErrRange
	}
	return api.OK
}

func TestEncodeOfEveryNumber(t *testing.T) {
	numbers := append(numbersAround(), 1<<20-1, 1<<20, 1<<20+17, 1<<24, 1<<28+17, maxId)
	for n := range 1<<16 + 20 {
		numbers = append(numbers, n)
	}
	for _, n := range numbers {
		ofNext, ofOffset := wantedUpTo(n, 255), wantedUpTo(n, maxOffset)
		if n == 0 || n == 43 || n == 44 || n == 60 {
			ofNext = api.ErrRange
		}
		if n%8 != 0 {
			ofOffset = api.ErrRange
		}
		onlyZero := wantedUpTo(n, 0)
		expectEncode(t, "Class", changedSample(func(p *api.Ip6) { p.Class = n }), wantedUpTo(n, 255))
		expectEncode(t, "Label", changedSample(func(p *api.Ip6) { p.Label = n }), wantedUpTo(n, 1<<20-1))
		expectEncode(t, "Hops", changedSample(func(p *api.Ip6) { p.Hops = n }), wantedUpTo(n, 255))
		expectEncode(t, "Next", changedSample(func(p *api.Ip6) { p.Next = n }), ofNext)
		expectEncode(t, "Next after a header", changedSample(func(p *api.Ip6) { p.Next, p.Exts = n, []api.Ext{ext(43)} }), ofNext)
		expectEncode(t, "Next of a fragment", changedSample(func(p *api.Ip6) { p.Next, p.Fragment = n, true }), ofNext)
		expectEncode(t, "Id", changedSample(func(p *api.Ip6) { p.Fragment, p.Id = true, n }), wantedUpTo(n, maxId))
		expectEncode(t, "Offset", changedSample(func(p *api.Ip6) { p.Fragment, p.Offset = true, n }), ofOffset)
		expectEncode(t, "Offset and More", changedSample(func(p *api.Ip6) { p.Fragment, p.Offset, p.More = true, n, true }), ofOffset)
		expectEncode(t, "Id without Fragment", changedSample(func(p *api.Ip6) { p.Id = n }), onlyZero)
		expectEncode(t, "Offset without Fragment", changedSample(func(p *api.Ip6) { p.Offset = n }), onlyZero)
	}
	for n := range 1 << 20 {
		if n%97 == 0 || n&(n-1) == 0 {
			expectEncode(t, "Label", changedSample(func(p *api.Ip6) { p.Label = n }), api.OK)
		}
	}
	for k := range 64 {
		expectEncode(t, "Id", changedSample(func(p *api.Ip6) { p.Fragment, p.Id = true, 1<<k-1 }), wantedUpTo(1<<k-1, maxId))
		expectEncode(t, "Label", changedSample(func(p *api.Ip6) { p.Label = 1<<k - 1 }), wantedUpTo(1<<k-1, 1<<20-1))
	}
	expectEncode(t, "More without Fragment", changedSample(func(p *api.Ip6) { p.More = true }), api.ErrRange)
	expectEncode(t, "More", changedSample(func(p *api.Ip6) { p.Fragment, p.More = true, true }), api.OK)
}

func TestEncodeOfAddresses(t *testing.T) {
	for _, a := range []api.Addr{{}, {Lo: 5}, {Lo: math.MaxUint32}, {Lo: 1 << 32}, {Hi: 1}, {Hi: math.MaxUint64, Lo: math.MaxUint64}} {
		expectEncode(t, "Src", changedSample(func(p *api.Ip6) { p.Src = a }), api.ErrRange)
		expectEncode(t, "Dst", changedSample(func(p *api.Ip6) { p.Dst = a }), api.ErrRange)
		expectEncode(t, "both", changedSample(func(p *api.Ip6) { p.Src, p.Dst = a, a }), api.ErrRange)
	}
	for k := range 64 {
		for _, n := range []uint64{1 << k, 1<<k - 1, math.MaxUint64 - 1<<k} {
			expectEncode(t, "the lower half of Src", changedSample(func(p *api.Ip6) { p.Src.Lo = n }), api.OK)
			expectEncode(t, "the upper half of Src", changedSample(func(p *api.Ip6) { p.Src.Hi = n }), api.OK)
			expectEncode(t, "the lower half of Dst", changedSample(func(p *api.Ip6) { p.Dst.Lo = n }), api.OK)
			expectEncode(t, "the upper half of Dst", changedSample(func(p *api.Ip6) { p.Dst.Hi = n }), api.OK)
		}
	}
}

func TestEncodeOfEveryKind(t *testing.T) {
	numbers := numbersAround()
	for n := range 600 {
		numbers = append(numbers, n, 65536+n, -n)
	}
	for _, n := range numbers {
		later, first := api.ErrFormat, api.ErrFormat
		if n == 43 || n == 60 {
			later, first = api.OK, api.OK
		} else if n == 0 {
			first = api.OK
		}
		expectEncode(t, "the only header", with("ab", ext(n)), first)
		expectEncode(t, "the first header", with("ab", ext(n), ext(43)), first)
		expectEncode(t, "the second header", with("ab", ext(0), ext(n)), later)
		expectEncode(t, "the second header", with("ab", ext(60), ext(n), ext(60)), later)
		expectEncode(t, "the last header", with("ab", append(slices.Repeat([]api.Ext{ext(43)}, 7), ext(n))...), later)
		expectEncode(t, "a header before a fragment header", changedSample(func(p *api.Ip6) { p.Exts, p.Fragment = []api.Ext{ext(43), ext(n)}, true }), later)
	}
}

func TestEncodeOfHeaderLengths(t *testing.T) {
	for n := range 5000 {
		wanted := api.OK
		if n%8 != 6 || n > 2046 {
			wanted = api.ErrFormat
		}
		data := strings.Repeat("x", n)
		p := with("ab", api.Ext{Kind: 60, Data: data})
		expectEncode(t, "one header", p, wanted)
		if s, err := ipv6.Encode(p); err == api.OK && (len(s) != 44+n || int(s[41]) != n/8) {
			t.Errorf("a header with %d bytes of Data: %d bytes, length %d", n, len(s), s[41])
		}
		expectEncode(t, "the first header", with("ab", api.Ext{Kind: 0, Data: data}, ext(43)), wanted)
		expectEncode(t, "the last header", with("ab", ext(0), ext(43), api.Ext{Kind: 43, Data: data}), wanted)
		expectEncode(t, "before a fragment header", changedSample(func(p *api.Ip6) { p.Exts, p.Fragment = []api.Ext{{Kind: 43, Data: data}}, true }), wanted)
	}
	for _, n := range []int{65534, 65536 + 6, 1<<20 + 6} {
		expectEncode(t, "very long Data", with("ab", api.Ext{Kind: 60, Data: strings.Repeat("x", n)}), api.ErrFormat)
	}
}

func TestEncodeOfManyHeaders(t *testing.T) {
	for n := range 30 {
		wanted := api.OK
		if n > 8 {
			wanted = api.ErrDepth
		}
		expectEncode(t, "headers", with("ab", slices.Repeat([]api.Ext{ext(43)}, n)...), wanted)
		expectEncode(t, "headers before a fragment header", changedSample(func(p *api.Ip6) { p.Exts, p.Fragment = slices.Repeat([]api.Ext{ext(60)}, n), true }), wanted)
	}
	expectEncode(t, "very many headers", with("", make([]api.Ext, 100000)...), api.ErrDepth)
	expectEncode(t, "very many long headers", with("", slices.Repeat([]api.Ext{{Kind: 43, Data: strings.Repeat("x", 2046)}}, 100000)...), api.ErrDepth)
}

func TestEncodeOfEveryOrderOfHeaders(t *testing.T) {
	for n := range 6 {
		everyList(headerKinds, n, func(kinds []int) {
			p := sample()
			wanted := api.OK
			for k, kind := range kinds {
				p.Exts = append(p.Exts, api.Ext{Kind: kind, Data: strings.Repeat(one(k), 6+8*k)})
				if kind == 44 || kind == 0 && k > 0 {
					wanted = api.ErrFormat
				}
			}
			expectEncode(t, "an order of headers", p, wanted)
			p.Fragment, p.Id, p.Offset, p.More = true, 5, 64, true
			expectEncode(t, "an order of headers before a fragment header", p, wanted)
		})
	}
}

func TestEncodeOfLongPackets(t *testing.T) {
	long := slices.Repeat([]api.Ext{{Kind: 43, Data: strings.Repeat("x", 2046)}}, 8)
	for _, exts := range [][]api.Ext{nil, {ext(0)}, {ext(0), {Kind: 60, Data: strings.Repeat("x", 2046)}}, long} {
		room := 65535
		for _, e := range exts {
			room -= 2 + len(e.Data)
		}
		for _, isFragment := range []bool{false, true} {
			if isFragment {
				room -= 8
			}
			for _, n := range []int{0, room - 8, room - 1, room, room + 1, room + 8, 65535, 65536} {
				wanted := api.OK
				if n > room {
					wanted = api.ErrLong
				}
				expectEncode(t, "a long payload", changedSample(func(p *api.Ip6) {
					p.Exts, p.Fragment, p.Payload = exts, isFragment, strings.Repeat("x", n)
				}), wanted)
			}
		}
	}
	expectEncode(t, "a very long payload", with(strings.Repeat("x", 1<<21)), api.ErrLong)
	// The end of the payload in the whole datagram has no limit.
	expectEncode(t, "a payload behind the last offset", changedSample(func(p *api.Ip6) { p.Fragment, p.Offset, p.Payload = true, maxOffset, strings.Repeat("x", 65527) }), api.OK)
}

func TestEncodeOfSeveralErrors(t *testing.T) {
	// bad returns a packet that is too deep, malformed and too long, after a change.
	bad := func(change func(p *api.Ip6)) api.Ip6 {
		p := with(strings.Repeat("x", 65536), slices.Repeat([]api.Ext{{Kind: 44, Data: "x"}}, 9)...)
		change(&p)
		return p
	}
	for what, change := range map[string]func(p *api.Ip6){
		"Class": func(p *api.Ip6) { p.Class = 256 }, "Label": func(p *api.Ip6) { p.Label = 1 << 20 }, "Hops": func(p *api.Ip6) { p.Hops = -1 },
		"Next": func(p *api.Ip6) { p.Next = 256 }, "Next of a header": func(p *api.Ip6) { p.Next = 60 },
		"Src": func(p *api.Ip6) { p.Src.V6 = false }, "Dst": func(p *api.Ip6) { p.Dst.V6 = false },
		"Id":     func(p *api.Ip6) { p.Fragment, p.Id = true, -1 },
		"Offset": func(p *api.Ip6) { p.Fragment, p.Offset = true, 65536 }, "a part of Offset": func(p *api.Ip6) { p.Fragment, p.Offset = true, 4 },
		"Id without Fragment": func(p *api.Ip6) { p.Id = 1 }, "Offset without Fragment": func(p *api.Ip6) { p.Offset = 8 }, "More without Fragment": func(p *api.Ip6) { p.More = true },
	} {
		expectEncode(t, what+" before depth", bad(change), api.ErrRange)
		expectEncode(t, what+" before format", bad(func(p *api.Ip6) { change(p); p.Exts = p.Exts[:8] }), api.ErrRange)
		expectEncode(t, what+" before length", bad(func(p *api.Ip6) { change(p); p.Exts = nil }), api.ErrRange)
	}
	expectEncode(t, "depth before format", bad(func(p *api.Ip6) {}), api.ErrDepth)
	expectEncode(t, "depth before length", with(strings.Repeat("x", 65536), slices.Repeat([]api.Ext{ext(60)}, 9)...), api.ErrDepth)
	expectEncode(t, "format before length", bad(func(p *api.Ip6) { p.Exts = p.Exts[:1] }), api.ErrFormat)
	expectEncode(t, "format of Data before length", with(strings.Repeat("x", 65536), api.Ext{Kind: 60, Data: "x"}), api.ErrFormat)
	expectEncode(t, "only length", bad(func(p *api.Ip6) { p.Exts = nil }), api.ErrLong)
}

func TestEncodeOfSomePackets(t *testing.T) {
	r := source(124)
	counts := map[api.Errno]int{}
	for range 50000 {
		p := somePacket(r)
		_, err := encoded(p)
		expectEncode(t, "some packet", p, err)
		counts[err]++
	}
	if counts[api.OK] < 20000 || counts[api.ErrRange] < 1000 || counts[api.ErrDepth] < 100 || counts[api.ErrFormat] < 100 || counts[api.ErrLong] < 100 {
		t.Error(counts)
	}
}

// P12.3

func TestSplit(t *testing.T) {
	p := with("aaaaaaaabbbbbbbbcccc", ext(0), ext(43))
	p.Class, p.Label = 3, 4
	parts, err := ipv6.Split(p, 8, 5)
	if err != api.OK || len(parts) != 3 {
		t.Fatal(parts, err)
	}
	p.Fragment, p.Id = true, 5
	first, second, third := p, p, p
	first.Payload, first.More = "aaaaaaaa", true
	second.Payload, second.More, second.Offset = "bbbbbbbb", true, 8
	third.Payload, third.Offset = "cccc", 16
	for k, want := range []api.Ip6{first, second, third} {
		if !isSame(parts[k], want) {
			t.Errorf("part %d is %s, want %s", k, show(parts[k]), show(want))
		}
	}
}

func TestSplitOfEveryPayload(t *testing.T) {
	for n := range 100 {
		p := with(strings.Repeat("abcdefghijk", 10)[:n], ext(60))
		for size := 8; size < 120; size += 8 {
			expectSplit(t, "a payload", p, size, 7, api.OK)
			parts, _ := ipv6.Split(p, size, 7)
			if want := max(1, (n+size-1)/size); len(parts) != want || parts[want-1].More || parts[0].More != (want > 1) {
				t.Fatalf("%d bytes and the size %d: %d parts, want %d", n, size, len(parts), want)
			}
		}
	}
	if parts, err := ipv6.Split(with(""), 8, 0); err != api.OK || len(parts) != 1 || !isSame(parts[0], changedSample(func(p *api.Ip6) { p.Fragment, p.Payload = true, "" })) {
		t.Error("an empty payload:", parts, err)
	}
}

func TestSplitOfEverySize(t *testing.T) {
	p := with("aaaaaaaabbbbbbbbcccc")
	for size := -40; size < 200; size++ {
		wanted := api.OK
		if size <= 0 || size%8 != 0 {
			wanted = api.ErrRange
		}
		expectSplit(t, "a size", p, size, 1, wanted)
		expectSplit(t, "a size and no payload", with(""), size, 1, wanted)
	}
	for _, size := range []int{math.MinInt, math.MinInt + 8, -1 << 32, -65536, 12, 65535, 1<<32 + 4, math.MaxInt} {
		expectSplit(t, "a size", p, size, 1, api.ErrRange)
	}
	for _, size := range []int{65528, 65536, 1 << 32, 1 << 62, math.MaxInt - 7} {
		expectSplit(t, "a great size", p, size, 1, api.OK)
		expectSplit(t, "a great size and no payload", with(""), size, 1, api.OK)
	}
}

func TestSplitOfEveryId(t *testing.T) {
	p := with("aaaaaaaabbbbbbbbcccc", ext(60))
	for _, id := range numbersAround() {
		expectSplit(t, "an id", p, 8, id, api.ErrRange)
	}
	for k := range 33 {
		for _, id := range []int{1<<k - 1, 1 << k, 1<<k + 1} {
			expectSplit(t, "an id", p, 8, id, wantedUpTo(id, maxId))
		}
	}
}

func TestSplitOfLongPayloads(t *testing.T) {
	payload := mixed(source(125), 65535)
	for _, size := range []int{8, 16, 1480, 32752, 65512, 65520} {
		expectSplit(t, "a long payload", with(payload), size, 9, api.OK)
	}
	// The fragment header of a part with more than 65527 bytes is too much.
	expectSplit(t, "too long parts", with(payload), 65528, 9, api.ErrLong)
	expectSplit(t, "one part that is too long", with(payload), 65536, 9, api.ErrLong)
	for n := 65500; n <= 65535; n++ {
		wanted := api.OK
		if n > 65527 {
			wanted = api.ErrLong
		}
		expectSplit(t, "one part", with(payload[:n]), 1<<20, 9, wanted)
		if n > 65528 {
			expectSplit(t, "two parts, of which the first one is too long", with(payload[:n]), 65528, 9, api.ErrLong)
			expectSplit(t, "two parts", with(payload[:n]), 65520, 9, api.OK)
		}
	}
	expectSplit(t, "too many bytes", with(payload+"x"), 8, 9, api.ErrLong)
	long := slices.Repeat([]api.Ext{{Kind: 60, Data: payload[:2046]}}, 8)
	room := 65535 - 8*2048
	expectSplit(t, "long headers", with(payload[:room], long...), 8, 9, api.OK)
	expectSplit(t, "long headers", with(payload[:room], long...), room/8*8-8, 9, api.OK)
	expectSplit(t, "long headers", with(payload[:room], long...), room/8*8, 9, api.ErrLong)
	expectSplit(t, "long headers", with(payload[:room-8], long...), 1<<20, 9, api.OK)
	expectSplit(t, "long headers", with(payload[:room-7], long...), 1<<20, 9, api.ErrLong)
	expectSplit(t, "headers that are too long", with(payload[:room+1], long...), 8, 9, api.ErrLong)
}

func TestSplitOfSeveralErrors(t *testing.T) {
	// bad has an error of Encode, is a fragment, and would have too long parts.
	bad := changedSample(func(p *api.Ip6) { p.Class, p.Fragment, p.Payload = 256, true, strings.Repeat("x", 65527) })
	expectSplit(t, "range", bad, 8, 1, api.ErrRange)
	long := bad
	long.Class, long.Payload = 0, long.Payload+"x"
	expectSplit(t, "length before size", long, 9, 1, api.ErrLong)
	expectSplit(t, "length before id", long, 8, -1, api.ErrLong)
	expectSplit(t, "length before Fragment", long, 8, 1, api.ErrLong)
	fragment := bad
	fragment.Class = 0
	expectSplit(t, "size before Fragment", fragment, 9, 1, api.ErrRange)
	expectSplit(t, "size 0 before Fragment", fragment, 0, 1, api.ErrRange)
	expectSplit(t, "id before Fragment", fragment, 8, maxId+1, api.ErrRange)
	expectSplit(t, "Fragment", fragment, 8, 1, api.ErrState)
	whole := with(strings.Repeat("x", 65535))
	expectSplit(t, "size before the length of a part", whole, 65529, 1, api.ErrRange)
	expectSplit(t, "id before the length of a part", whole, 65528, -1, api.ErrRange)
	expectSplit(t, "the length of a part", whole, 65528, 1, api.ErrLong)
	expectSplit(t, "no error", whole, 65520, 1, api.OK)
	nine := slices.Repeat([]api.Ext{ext(60)}, 9)
	expectSplit(t, "depth before size", with("ab", nine...), 9, 1, api.ErrDepth)
	expectSplit(t, "format before size", with("ab", ext(60), ext(0)), 9, -1, api.ErrFormat)
	expectSplit(t, "format before Fragment", changedSample(func(p *api.Ip6) { p.Fragment, p.Exts = true, []api.Ext{{Kind: 60}} }), 8, 1, api.ErrFormat)
	for _, offset := range []int{0, 8} {
		for _, more := range []bool{false, true} {
			expectSplit(t, "a fragment", changedSample(func(p *api.Ip6) { p.Fragment, p.Offset, p.More = true, offset, more }), 8, 1, api.ErrState)
		}
	}
	expectSplit(t, "Id without Fragment", changedSample(func(p *api.Ip6) { p.Id = 1 }), 8, 1, api.ErrRange)
	expectSplit(t, "an IPv4 address", changedSample(func(p *api.Ip6) { p.Dst.V6 = false }), 8, 1, api.ErrRange)
}

// P12.4

func TestFragment(t *testing.T) {
	p := api.Ip6{
		Class: 1, Label: 2, Hops: 3, Next: 4, Src: address(5), Dst: address(6), Exts: []api.Ext{ext(60)}, Fragment: true, Id: 7, Offset: 8, More: true, Payload: "abc",
	}
	want := api.Fragment{Src: address(5), Dst: address(6), Proto: 4, Id: 7, Ttl: 3, Offset: 8, More: true, Data: "abc"}
	if got := ipv6.Fragment(p); got != want {
		t.Error(got)
	}
	p.More = false
	want.More = false
	if got := ipv6.Fragment(p); got != want {
		t.Error("the last fragment:", got)
	}
	if got := ipv6.Fragment(sample()); got != (api.Fragment{Src: address(1), Dst: address(2), Proto: 17, Ttl: 64, Data: "ab"}) {
		t.Error("a whole packet:", got)
	}
	if got := ipv6.Fragment(api.Ip6{}); got != (api.Fragment{}) {
		t.Error("nothing is set:", got)
	}
}

func TestFragmentOfValuesThatEncodeDoesNotTake(t *testing.T) {
	for _, a := range []api.Addr{{}, {Lo: 4}, {Hi: 3, Lo: 4}, {Lo: 1 << 40}, {Hi: math.MaxUint64, Lo: math.MaxUint64}} {
		b := api.Addr{V6: !a.V6, Hi: a.Lo, Lo: a.Hi}
		for _, isFragment := range []bool{false, true} {
			p := api.Ip6{Src: a, Dst: b, Next: -1, Id: math.MinInt, Hops: math.MaxInt, Fragment: isFragment, Offset: -5, More: true, Payload: strings.Repeat("x", 100000)}
			if got := ipv6.Fragment(p); got != (api.Fragment{Src: a, Dst: b, Proto: -1, Id: math.MinInt, Ttl: math.MaxInt, Offset: -5, More: true, Data: p.Payload}) {
				t.Errorf("Fragment of a packet from %v to %v: %+.200v", a, b, got)
			}
		}
	}
}

func TestRouted(t *testing.T) {
	kinds := append(numbersAround(), 43+256, 43-256, 43+65536, -43)
	for n := range 300 {
		kinds = append(kinds, n)
	}
	for _, kind := range kinds {
		for k, p := range []api.Ip6{
			with("", ext(kind)), with("ab", api.Ext{Kind: kind}, ext(60)), with("", ext(60), ext(kind)),
			{Exts: slices.Insert(make([]api.Ext, 100), 99, api.Ext{Kind: kind}), Src: api.Addr{Hi: 1}},
			{Exts: []api.Ext{{Kind: kind}}, Fragment: true, Next: 44},
		} {
			if got := ipv6.Routed(p); got != (kind == 43) {
				t.Errorf("packet %d with the kind %d: %v", k, kind, got)
			}
		}
	}
	if !ipv6.Routed(with("", ext(43), ext(43))) {
		t.Error("two routing headers")
	}
	if ipv6.Routed(api.Ip6{}) || ipv6.Routed(api.Ip6{Next: 43, Exts: []api.Ext{{Kind: 60, Data: "\x2b\x2b++++"}}}) {
		t.Error("no routing header")
	}
}

func TestRoutedOfDecode(t *testing.T) {
	for n := range 6 {
		everyList([]int{0, 43, 44, 60}, n, func(kinds []int) {
			kind, headers := chain(kinds...)
			p, err := ipv6.Decode(packet(kind, headers))
			if want := err == api.OK && slices.Contains(kinds, 43); ipv6.Routed(p) != want {
				t.Errorf("the headers %v: %v", kinds, !want)
			}
		})
	}
}

// P12.5

func TestDecodeOfEncode(t *testing.T) {
	r := source(126)
	count := 0
	for range 50000 {
		p := somePacket(r)
		s, err := ipv6.Encode(p)
		if err != api.OK {
			continue
		}
		count++
		expectDecode(t, "Encode", s, p)
		expectDecode(t, "Encode and more bytes", s+mixed(r, r.IntN(30)), p)
	}
	if count < 20000 {
		t.Error("only", count, "packets were encoded")
	}
}

func TestEncodeOfDecode(t *testing.T) {
	r := source(127)
	count := 0
	check := func(s string) {
		p, err := ipv6.Decode(s)
		if err != api.OK {
			return
		}
		count++
		again, err := ipv6.Encode(p)
		if err != api.OK {
			t.Fatalf("Encode(Decode(%q)): %v", s, err)
		}
		expectDecode(t, "Encode of Decode", again, p)
		// Only the ignored bits of a fragment header can differ.
		if !p.Fragment && again != s[:len(again)] {
			t.Fatalf("Encode(Decode(%q)) = %q", s, again)
		}
	}
	for range 50000 {
		check(someBytes(r))
	}
	for n := range 7 {
		everyList([]int{0, 43, 44, 60}, n, func(kinds []int) {
			kind, headers := chain(kinds...)
			check(packet(kind, headers+"xyz"))
		})
	}
	for _, payload := range []string{mixed(r, 65535), "\x11\xff" + mixed(r, 65533)} {
		check(packet(60, payload))
		check(packet(59, payload))
		check(packet(44, "\x11"+payload[1:]))
	}
	if count < 20000 {
		t.Error("only", count, "packets were decoded")
	}
}

func TestPartsOfSplit(t *testing.T) {
	r := source(128)
	count := 0
	for range 30000 {
		p := somePacket(r)
		size, id := 8*(1+r.IntN(16)), int(r.Uint32())
		if len(p.Payload) > 1000 {
			// Fewer parts, for the time that they take.
			size *= 100
		}
		_, wanted := divided(p, size, id)
		expectSplit(t, "some packet", p, size, id, wanted)
		parts, err := ipv6.Split(p, size, id)
		if err != api.OK {
			continue
		}
		count++
		joined := ""
		for k, part := range parts {
			f := ipv6.Fragment(part)
			if f.Offset != len(joined) || f.Id != id || f.More != (k < len(parts)-1) || f.Proto != p.Next || f.Ttl != p.Hops {
				t.Fatalf("Split(%s, %d, %d): part %d is the fragment %v", show(p), size, id, k, f)
			}
			joined += part.Payload
			s, err := ipv6.Encode(part)
			if err != api.OK {
				t.Fatalf("Split(%s, %d, %d): part %d: %v", show(p), size, id, k, err)
			}
			expectDecode(t, "a part", s, part)
		}
		if joined != p.Payload {
			t.Fatalf("Split(%s, %d, %d): %q", show(p), size, id, joined)
		}
	}
	if count < 5000 {
		t.Error("only", count, "packets were divided")
	}
}

// R1

func TestAnyStrings(t *testing.T) {
	r := source(129)
	for range 50000 {
		s := mixed(r, r.IntN(120))
		expectDefinition(t, s)
		expectDefinition(t, "\x60"+s)
		if len(s) > 7 {
			kind := headerKinds[r.IntN(4)]
			expectDefinition(t, "\x60"+s[1:4]+two(r.IntN(len(s)))+one(kind)+s[7:])
		}
	}
}

func TestAnyPackets(t *testing.T) {
	r := source(130)
	for range 20000 {
		p := api.Ip6{
			Class: int(r.Uint64()), Label: int(r.Uint64()), Hops: int(r.Uint64()), Next: int(r.Uint64()), Id: int(r.Uint64()), Offset: int(r.Uint64()),
			Src: api.Addr{V6: true, Hi: r.Uint64(), Lo: r.Uint64()}, Dst: api.Addr{Hi: r.Uint64()}, Exts: []api.Ext{{Kind: int(r.Uint64())}}, Fragment: r.IntN(2) == 0,
		}
		expectEncode(t, "any packet", p, api.ErrRange)
		expectSplit(t, "any packet", p, int(r.Uint64()), int(r.Uint64()), api.ErrRange)
		ipv6.Fragment(p)
		ipv6.Routed(p)
	}
}

// R3

func TestArgumentsAreNotModified(t *testing.T) {
	all := []api.Ext{ext(0), ext(43), ext(60), {Kind: 43, Data: "abcdefghijklmn"}, ext(60), {Kind: 0, Data: "spare"}, {Kind: 300}}
	want := slices.Clone(all)
	for n := range len(all) + 1 {
		for _, payload := range []string{"", "abcdefghijkl", strings.Repeat("x", 65536)} {
			p := with(payload, all[:n]...)
			ipv6.Encode(p)
			ipv6.Split(p, 8, 5)
			ipv6.Fragment(p)
			ipv6.Routed(p)
			p.Fragment = true
			ipv6.Encode(p)
			if !slices.Equal(all, want) {
				t.Fatalf("the headers %v are now %v", want, all)
			}
		}
	}
}

func TestResultsAreNewMemory(t *testing.T) {
	kind, headers := chain(60, 43, 60)
	s := packet(kind, headers)
	want, _ := decoded(s)
	first, _ := ipv6.Decode(s)
	first.Exts[0] = api.Ext{Kind: 99}
	_ = append(first.Exts[:1], api.Ext{Kind: 98})
	expectDecode(t, "once more", s, want)

	exts := []api.Ext{ext(60), ext(43)}
	parts, err := ipv6.Split(with("aaaaaaaabbbbbbbbcccc", exts...), 8, 5)
	if err != api.OK || len(parts) != 3 {
		t.Fatal(parts, err)
	}
	for k := range parts {
		parts[k].Exts[0].Kind = 70 + k
		parts[k].Exts = append(parts[k].Exts, ext(80+k))
	}
	for k, part := range parts {
		if !slices.Equal(part.Exts, []api.Ext{ext(70 + k), ext(43), ext(80 + k)}) {
			t.Errorf("part %d has the headers %v", k, part.Exts)
		}
	}
	if !slices.Equal(exts, []api.Ext{ext(60), ext(43)}) {
		t.Error("the headers of the packet are now", exts)
	}
}
