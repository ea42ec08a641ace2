package address_test

import (
	"math"
	"math/big"
	"math/rand/v2"
	"net/netip"
	"regexp"
	"strconv"
	"strings"
	"testing"

	"intrusion/address"
	"intrusion/api"
)

// source returns pseudo random numbers, the same ones in every run.
func source(seed uint64) *rand.Rand { return rand.New(rand.NewPCG(seed, 0)) }

// v4 returns the IPv4 address of a number.
func v4(lo uint64) api.Addr { return api.Addr{Lo: lo} }

// v6 returns the IPv6 address of a number.
func v6(hi, lo uint64) api.Addr { return api.Addr{V6: true, Hi: hi, Lo: lo} }

// prefix returns a prefix, which need not be valid.
func prefix(a api.Addr, bits int) api.Prefix { return api.Prefix{Addr: a, Bits: bits} }

const (
	all4 = math.MaxUint32
	all  = math.MaxUint64
)

// bitsOf returns the number of bits of an address.
func bitsOf(a api.Addr) int {
	if a.V6 {
		return 128
	}
	return 32
}

// bitAt returns bit k of an address, of which bit 0 is the most significant one of the first byte.
func bitAt(a api.Addr, k int) uint64 {
	if !a.V6 {
		return a.Lo >> (31 - k) & 1
	}
	if k < 64 {
		return a.Hi >> (63 - k) & 1
	}
	return a.Lo >> (127 - k) & 1
}

// withBit returns the address with bit k replaced.
func withBit(a api.Addr, k int, bit uint64) api.Addr {
	place, at := &a.Lo, bitsOf(a)-1-k
	if at >= 64 {
		place, at = &a.Hi, at-64
	}
	*place = *place&^(1<<at) | bit<<at
	return a
}

// withEnd returns the address with all bits after the first ones replaced.
func withEnd(a api.Addr, bits int, bit uint64) api.Addr {
	for k := bits; k < bitsOf(a); k++ {
		a = withBit(a, k, bit)
	}
	return a
}

// bigOf returns an address as a number.
func bigOf(a api.Addr) *big.Int {
	n := new(big.Int).SetUint64(a.Hi)
	return n.Lsh(n, 64).Or(n, new(big.Int).SetUint64(a.Lo))
}

// edges are valid addresses at the ends of the families and of their 64-bit halves.
func edges() []api.Addr {
	return []api.Addr{
		v4(0), v4(1), v4(0xff), v4(0x100), v4(0x0a000000), v4(0x7fffffff), v4(0x80000000), v4(all4 - 1), v4(all4),
		v6(0, 0), v6(0, 1), v6(0, all4), v6(0, 1<<32), v6(0, 1<<63-1), v6(0, 1<<63), v6(0, all-1), v6(0, all),
		v6(1, 0), v6(1, 1), v6(1, all), v6(2, 0), v6(1<<63-1, all), v6(1<<63, 0), v6(all-1, all), v6(all, 0), v6(all, 1), v6(all, all-1), v6(all, all),
	}
}

// someAddr returns a valid address; those with many zero groups, or near the ends of a half, are frequent.
func someAddr(r *rand.Rand) api.Addr {
	switch r.IntN(5) {
	case 0:
		return v4(uint64(r.Uint32()))
	case 1:
		return edges()[r.IntN(len(edges()))]
	case 2:
		return v6(r.Uint64(), r.Uint64())
	}
	var halves [2]uint64
	for k := range 8 {
		group := uint64(0)
		if r.IntN(3) == 0 {
			group = r.Uint64N(1<<16) >> r.IntN(16)
		}
		halves[k/4] = halves[k/4]<<16 | group
	}
	return v6(halves[0], halves[1])
}

// invalidAddrs are addresses that are not valid.
func invalidAddrs() []api.Addr {
	return []api.Addr{{Lo: 1 << 32}, {Lo: all}, {Hi: 1}, {Hi: 1, Lo: 1}, {Hi: all}, {Hi: all, Lo: all}, {Hi: 1 << 63, Lo: 5}}
}

// oddBits are numbers of bits that no prefix has, but for those from 33 to 128, which only IPv6 prefixes have.
func oddBits() []int {
	return []int{math.MinInt, math.MinInt + 1, -1 << 32, -129, -128, -65, -64, -33, -32, -1, 129, 192, 256, 1 << 31, 1 << 32, math.MaxInt - 1, math.MaxInt}
}

// P6.1

func TestValid(t *testing.T) {
	for _, a := range edges() {
		if !address.Valid(a) {
			t.Errorf("%v is an address", a)
		}
	}
	for _, a := range invalidAddrs() {
		if address.Valid(a) {
			t.Errorf("%v is not an address", a)
		}
		a.V6 = true
		if !address.Valid(a) {
			t.Errorf("%v is an address", a)
		}
	}
}

func TestValidPrefix(t *testing.T) {
	for _, p := range []api.Prefix{{}, prefix(v4(0x0a000000), 8), prefix(v4(0x0a000000), 7), prefix(v4(0x0a000000), 32), prefix(v4(0x0a000001), 32), prefix(v4(all4), 32),
		prefix(v4(1<<31), 1), prefix(v6(0, 0), 0), prefix(v6(0, 0), 128), prefix(v6(1, 0), 64), prefix(v6(0, 1<<63), 65), prefix(v6(all, all), 128), prefix(v6(all, 0), 64)} {
		if !address.ValidPrefix(p) {
			t.Errorf("%v is a prefix", p)
		}
	}
	for _, p := range []api.Prefix{prefix(v4(0x0a000001), 24), prefix(v4(0x0a000000), 6), prefix(v4(1), 0), prefix(v4(1<<31), 0), prefix(v4(0), 33), prefix(v4(0), 128),
		prefix(v6(1, 0), 63), prefix(v6(1, 0), 0), prefix(v6(0, 1<<63), 64), prefix(v6(all, all), 127), prefix(v6(all, 1), 64)} {
		if address.ValidPrefix(p) {
			t.Errorf("%v is not a prefix", p)
		}
	}
	for _, bits := range oddBits() {
		for _, a := range edges() {
			if address.ValidPrefix(prefix(a, bits)) {
				t.Errorf("no prefix has %d bits", bits)
			}
		}
	}
	for _, a := range invalidAddrs() {
		for bits := -1; bits <= 129; bits++ {
			if address.ValidPrefix(prefix(a, bits)) {
				t.Errorf("%v with %d bits is not a prefix", a, bits)
			}
		}
	}
}

func TestValidPrefixOfEachBit(t *testing.T) {
	for _, family := range []api.Addr{v4(0), v6(0, 0)} {
		for k := range bitsOf(family) {
			for bits := 0; bits <= bitsOf(family); bits++ {
				if got := address.ValidPrefix(prefix(withBit(family, k, 1), bits)); got != (k < bits) {
					t.Errorf("ValidPrefix of an address with bit %d and %d bits = %v", k, bits, got)
				}
			}
		}
	}
}

// P6.2

var (
	text4 = regexp.MustCompile(`^(0|[1-9][0-9]*)\.(0|[1-9][0-9]*)\.(0|[1-9][0-9]*)\.(0|[1-9][0-9]*)$`)
	text6 = regexp.MustCompile(`^([0-9a-fA-F]{1,4}:){7}[0-9a-fA-F]{1,4}$`)
)

// definition4 returns the IPv4 address with a text, by the chapter's definition.
func definition4(s string) (api.Addr, bool) {
	parts := text4.FindStringSubmatch(s)
	if parts == nil {
		return api.Addr{}, false
	}
	var a api.Addr
	for _, part := range parts[1:] {
		n, err := strconv.ParseUint(part, 10, 8)
		if err != nil {
			return api.Addr{}, false
		}
		a.Lo = a.Lo<<8 | n
	}
	return a, true
}

// completions are s itself and, where it has two adjacent colons, s with each number of zero groups in their place.
func completions(s string) []string {
	l := []string{s}
	for at := range max(len(s)-1, 0) {
		if s[at:at+2] != "::" {
			continue
		}
		for n := 1; n <= 8; n++ {
			between := strings.Repeat("0:", n)[:2*n-1]
			if at > 0 {
				between = ":" + between
			}
			if at+2 < len(s) {
				between += ":"
			}
			l = append(l, s[:at]+between+s[at+2:])
		}
	}
	return l
}

// definition6 returns the IPv6 address with a text, by the chapter's definition.
func definition6(s string) (api.Addr, bool) {
	for _, whole := range completions(s) {
		if !text6.MatchString(whole) {
			continue
		}
		var halves [2]uint64
		for k, group := range strings.Split(whole, ":") {
			n, _ := strconv.ParseUint(group, 16, 16)
			halves[k/4] = halves[k/4]<<16 | n
		}
		return v6(halves[0], halves[1]), true
	}
	return api.Addr{}, false
}

func definition(s string) (api.Addr, api.Errno) {
	if len(s) > 64 {
		return api.Addr{}, api.ErrLong
	}
	if a, ok := definition4(s); ok {
		return a, api.OK
	}
	if a, ok := definition6(s); ok {
		return a, api.OK
	}
	return api.Addr{}, api.ErrFormat
}

// expectParsed checks Parse, and ParsePrefix of a text without a slash, against the definition.
func expectParsed(t *testing.T, s string) {
	t.Helper()
	want, wantErr := definition(s)
	got, err := address.Parse(s)
	if got != want || err != wantErr {
		t.Fatalf("Parse(%q) = %v, %v, want %v, %v", s, got, err, want, wantErr)
	}
	if strings.Contains(s, "/") {
		return
	}
	var whole api.Prefix
	if wantErr == api.OK {
		whole = prefix(want, bitsOf(want))
	}
	if p, err := address.ParsePrefix(s); p != whole || err != wantErr {
		t.Fatalf("ParsePrefix(%q) = %v, %v, want %v, %v", s, p, err, whole, wantErr)
	}
}

func TestParse(t *testing.T) {
	for s, want := range map[string]api.Addr{
		"0.0.0.0":         v4(0),
		"1.2.3.4":         v4(0x01020304),
		"10.0.0.1":        v4(0x0a000001),
		"255.255.255.255": v4(all4),
		"100.99.10.9":     v4(0x64630a09),
		"::":              v6(0, 0),
		"::1":             v6(0, 1),
		"::1:0":           v6(0, 65536),
		"1::":             v6(1<<48, 0),
		"1::2":            v6(1<<48, 2),
		"fe80::":          v6(0xfe80<<48, 0),
		"::ffff:102:304":  v6(0, 0xffff01020304),
		"0:0:0:0:0:0:0:0": v6(0, 0),
		"1:2:3:4:5:6:7:8": v6(0x0001000200030004, 0x0005000600070008),
		"1:2:3:4:5:6:7::": v6(0x0001000200030004, 0x0005000600070000),
		"::2:3:4:5:6:7:8": v6(0x0000000200030004, 0x0005000600070008),
		"1:2:3::5:6:7:8":  v6(0x0001000200030000, 0x0005000600070008),
		"1:2:3::8":        v6(0x0001000200030000, 0x0000000000000008),
		"0::0":            v6(0, 0),
		"0:0::0:1":        v6(0, 1),
		"::0:0:0:0:0:0:0": v6(0, 0),
		"2001:DB8::aB":    v6(0x20010db800000000, 0xab),
		"2001:db8::1:0:0:1": v6(0x20010db800000000,
			0x0001000000000001),
		"0001:0020:0300:4000:00ab:0CDE:F::": v6(0x0001002003004000, 0x00ab0cde000f0000),
		"abcd:ef01:2345:6789:ABCD:EF01:2345:6789": v6(0xabcdef0123456789,
			0xabcdef0123456789),
		"ffff:ffff:ffff:ffff:ffff:ffff:ffff:ffff": v6(all, all),
	} {
		if got, err := address.Parse(s); got != want || err != api.OK {
			t.Errorf("Parse(%q) = %v, %v, want %v", s, got, err, want)
		}
		expectParsed(t, s)
	}
}

func TestParseOfOtherTexts(t *testing.T) {
	for _, s := range []string{
		"", " ", "x", ".", "...", "1", "1.2.3", "1.2.3.4.5", "1.2.3.4.", ".1.2.3.4", "1..3.4", "1.2.3.", "01.2.3.4", "1.02.3.4", "1.2.003.4", "1.2.3.00",
		"256.0.0.0", "0.0.0.256", "1.2.3.1000", "1.2.3.65536", "1.2.3.4294967296", "1.2.3.18446744073709551617", "1.2.3.18446744073709551616",
		"+1.2.3.4", "-1.2.3.4", "1.2.3.-0", "1.2.3.4 ", " 1.2.3.4", "1.2. 3.4", "1.2.3.a", "0x1.2.3.4", "a.b.c.d", "1,2,3,4", "1.2.3.4\n", "1.2.3.4\x00", "1_0.2.3.4", "1.2.3.٤",
		"1.2.3.4.5.6.7.8.9.10.11.12.13.14.15.16",
		":", ":::", "::::", ":1", "1:", ":1:", ":1::", "::1:", "1:::2", "1::2:", ":1::2", "1::2::3", "::1::", "::::1", "1:2", "1:2:3:4:5:6:7", "1:2:3:4:5:6:7:",
		":2:3:4:5:6:7:8", "1:2:3:4:5:6:7:8:9", "1:2:3:4:5:6:7:8::", "::1:2:3:4:5:6:7:8", "1:2:3:4::5:6:7:8", "1:2:3:4:5:6:7:8:", ":1:2:3:4:5:6:7:8", "1::2:3:4:5:6:7:8",
		"12345::", "::12345", "00001::", "1:2:3:4:5:6:7:00008", "g::", "::g", "::-1", "::+1", "::0x1", "::1 ", " ::1", ":: ", "::1_0", "::1%eth0", "[::1]", "::\x00", "::/", "::1/128",
		"::1.2.3.4", "::ffff:1.2.3.4", "1:2:3:4:5:6:1.2.3.4", "1.2.3.4::", "1.2.3.4:5:6:7:8:9:10:11", "::é", "１::", "@::", "G::", "`::", "/::", "::;",
	} {
		if got, err := address.Parse(s); got != (api.Addr{}) || err != api.ErrFormat {
			t.Errorf("Parse(%q) = %v, %v", s, got, err)
		}
		expectParsed(t, s)
	}
}

func TestParseOfLongTexts(t *testing.T) {
	for _, unit := range []string{"1", "0", ".", ":", "x", "1.", "0:", "::", "\x00", "1.2.3.4", "1:2:3:4:5:6:7:8:", "/"} {
		for n := 1; n <= 70; n++ {
			s := strings.Repeat(unit, n)
			for _, size := range []int{63, 64, 65, 66} {
				if len(s) < size {
					continue
				}
				want := api.ErrFormat
				if size > 64 {
					want = api.ErrLong
				}
				if got, err := address.Parse(s[:size]); got != (api.Addr{}) || err != want {
					t.Errorf("Parse(%q) = %v, %v", s[:size], got, err)
				}
			}
		}
	}
	for _, s := range []string{"1.2.3.4" + strings.Repeat(" ", 58), strings.Repeat("0", 63) + "::", "::" + strings.Repeat("0", 1<<20)} {
		if got, err := address.Parse(s); got != (api.Addr{}) || err != api.ErrLong {
			t.Errorf("Parse of %d bytes = %v, %v", len(s), got, err)
		}
	}
}

// eachText calls f with all texts of at most n bytes of an alphabet.
func eachText(alphabet string, n int, f func(s string)) {
	var extend func(s string)
	extend = func(s string) {
		f(s)
		for k := 0; k < len(alphabet) && len(s) < n; k++ {
			extend(s + alphabet[k:k+1])
		}
	}
	extend("")
}

func TestParseOfEveryShortText(t *testing.T) {
	eachText(":.019afAFg/ ", 4, func(s string) { expectParsed(t, s) })
	// The shortest text with all groups has 15 bytes.
	eachText(":1", 16, func(s string) { expectParsed(t, s) })
	eachText(".02", 9, func(s string) { expectParsed(t, s) })
}

func TestParseOfEachNumber(t *testing.T) {
	for n := range 1100 {
		s := strconv.Itoa(n)
		for _, text := range []string{s + ".0.0.0", "0." + s + ".0.0", "0.0." + s + ".0", "0.0.0." + s, "0.0.0.0" + s} {
			expectParsed(t, text)
		}
	}
	for n := range 1<<16 + 20 {
		small := strconv.FormatUint(uint64(n), 16)
		expectParsed(t, "::"+small+":0")
		expectParsed(t, strings.ToUpper(small)+"::")
	}
}

// changed returns s with some bytes removed, inserted or replaced.
func changed(r *rand.Rand, s string) string {
	const frequent = ".:0123456789abcdefABCDEFgG/% "
	for range 1 + r.IntN(3) {
		from := r.IntN(len(s) + 1)
		to := min(from+r.IntN(3), len(s))
		middle := ""
		if n := r.IntN(len(frequent) + 1); n < len(frequent) {
			middle = frequent[n : n+1]
		} else {
			middle = string([]byte{byte(r.IntN(256))})
		}
		if r.IntN(3) == 0 {
			middle = ""
		}
		s = s[:from] + middle + s[to:]
	}
	return s
}

// someText returns a text of an address, which need not be the canonical one.
func someText(r *rand.Rand, a api.Addr) string {
	s := address.Format(a)
	if !a.V6 {
		return s
	}
	var groups []string
	for k := range 8 {
		half := a.Hi
		if k >= 4 {
			half = a.Lo
		}
		group := strconv.FormatUint(half>>(48-k%4*16)&0xffff, 16)
		if r.IntN(2) == 0 {
			group = strings.ToUpper(group)
		}
		groups = append(groups, strings.Repeat("0", r.IntN(5-len(group)))+group)
	}
	from := r.IntN(9)
	to := from
	for to < 8 && strings.Trim(groups[to], "0") == "" && r.IntN(4) > 0 {
		to++
	}
	if from == to {
		return strings.Join(groups, ":")
	}
	return strings.Join(groups[:from], ":") + "::" + strings.Join(groups[to:], ":")
}

func TestParseOfChangedTexts(t *testing.T) {
	r := source(62)
	for range 50000 {
		a := someAddr(r)
		s := someText(r, a)
		if got, err := address.Parse(s); got != a || err != api.OK {
			t.Fatalf("Parse(%q) = %v, %v, want %v", s, got, err, a)
		}
		expectParsed(t, s)
		expectParsed(t, changed(r, s))
	}
}

// P6.3

// leftOut returns the text of groups without those from one to another.
func leftOut(groups []string, from, to int) string {
	return strings.Join(groups[:from], ":") + "::" + strings.Join(groups[to:], ":")
}

// canonical returns the canonical text of an IPv6 address, by the chapter's definition.
func canonical(a api.Addr) string {
	var groups []string
	for _, half := range []uint64{a.Hi, a.Lo} {
		for _, shift := range []int{48, 32, 16, 0} {
			groups = append(groups, strconv.FormatUint(half>>shift&0xffff, 16))
		}
	}
	for n := 8; n >= 2; n-- {
		for from := 0; from+n <= 8; from++ {
			if strings.Join(groups[from:from+n], "") == strings.Repeat("0", n) {
				return leftOut(groups, from, from+n)
			}
		}
	}
	return strings.Join(groups, ":")
}

func TestFormat(t *testing.T) {
	for want, a := range map[string]api.Addr{
		"0.0.0.0":           v4(0),
		"0.0.0.1":           v4(1),
		"1.2.3.4":           v4(0x01020304),
		"255.255.255.255":   v4(all4),
		"192.168.10.100":    v4(0xc0a80a64),
		"128.0.0.0":         v4(1 << 31),
		"::":                v6(0, 0),
		"::1":               v6(0, 1),
		"1::":               v6(1<<48, 0),
		"::1:0":             v6(0, 65536),
		"::102:304":         v6(0, 0x01020304),
		"::ffff:102:304":    v6(0, 0xffff01020304),
		"1:2:3:4:5:6:7:0":   v6(0x0001000200030004, 0x0005000600070000),
		"0:2:3:4:5:6:7:8":   v6(0x0000000200030004, 0x0005000600070008),
		"1:2:3:0:5:6:7:8":   v6(0x0001000200030000, 0x0005000600070008),
		"1:2:3:4:5:6::":     v6(0x0001000200030004, 0x0005000600000000),
		"::3:4:5:6:7:8":     v6(0x0000000000030004, 0x0005000600070008),
		"1:2:3::6:7:8":      v6(0x0001000200030000, 0x0000000600070008),
		"2001:db8::1:0:0:1": v6(0x20010db800000000, 0x0001000000000001),
		"1:0:0:4::8":        v6(0x0001000000000004, 0x0000000000000008),
		"1::5:0:0:8":        v6(0x0001000000000000, 0x0005000000000008),
		"1::4:0:6:0:0":      v6(0x0001000000000004, 0x0000000600000000),
		"0:2:0:4::":         v6(0x0000000200000004, 0),
		"::2:0:0:5:0:0":     v6(0x0000000000020000, 0x0000000500000000),
		"0:2::":             v6(0x0000000200000000, 0),
		"0:2:0:4:0:6:0:8":   v6(0x0000000200000004, 0x0000000600000008),
		"fe80::abcd:ef":     v6(0xfe80<<48, 0xabcd00ef),
		"1000:100:10:1::":   v6(0x1000010000100001, 0),
		"10:100:1000::":     v6(0x0010010010000000, 0),
		"ffff:ffff:ffff:ffff:ffff:ffff:ffff:ffff": v6(all, all),
	} {
		if got := address.Format(a); got != want {
			t.Errorf("Format(%v) = %q, want %q", a, got, want)
		}
	}
}

func TestFormatOfEachArrangementOfZeroGroups(t *testing.T) {
	for mask := range 256 {
		for _, group := range []uint64{1, 0xf0, 0xabcd} {
			var halves [2]uint64
			for k := range 8 {
				halves[k/4] = halves[k/4]<<16 | uint64(mask>>k&1)*group
			}
			a := v6(halves[0], halves[1])
			if got, want := address.Format(a), canonical(a); got != want {
				t.Errorf("Format(%v) = %q, want %q", a, got, want)
			}
		}
	}
}

// expectFormatted checks Format against an implementation of others, which prints some addresses with an IPv4 part.
func expectFormatted(t *testing.T, a api.Addr) {
	t.Helper()
	other, ok := netip.AddrFromSlice([]byte(address.Bytes(a)))
	if !ok {
		t.Fatalf("Bytes(%v) = %q", a, address.Bytes(a))
	}
	got := address.Format(a)
	if !other.Is4In6() && got != other.String() {
		t.Fatalf("Format(%v) = %q, want %q", a, got, other)
	}
	if a.V6 && got != canonical(a) {
		t.Fatalf("Format(%v) = %q, want %q", a, got, canonical(a))
	}
}

func TestFormatOfManyAddresses(t *testing.T) {
	r := source(63)
	for _, a := range edges() {
		expectFormatted(t, a)
	}
	for range 50000 {
		expectFormatted(t, someAddr(r))
	}
}

// P6.4

func TestBytes(t *testing.T) {
	for want, a := range map[string]api.Addr{
		"\x01\x02\x03\x04": v4(0x01020304),
		"\x00\x00\x00\x00": v4(0),
		"\xff\xff\xff\xff": v4(all4),
		"\x80\x00\x00\x01": v4(0x80000001),
		"\x01\x02\x03\x04\x05\x06\x07\x08\x09\x0a\x0b\x0c\x0d\x0e\x0f\x10": v6(0x0102030405060708, 0x090a0b0c0d0e0f10),
		strings.Repeat("\x00", 16):                      v6(0, 0),
		strings.Repeat("\x00", 12) + "\x01\x02\x03\x04": v6(0, 0x01020304),
		strings.Repeat("\xff", 16):                      v6(all, all),
		"\x80" + strings.Repeat("\x00", 15):             v6(1<<63, 0),
	} {
		if got := address.Bytes(a); got != want {
			t.Errorf("Bytes(%v) = %q, want %q", a, got, want)
		}
		if got, err := address.FromBytes(want); got != a || err != api.OK {
			t.Errorf("FromBytes(%q) = %v, %v, want %v", want, got, err, a)
		}
	}
}

func TestBytesOfEachBit(t *testing.T) {
	for _, family := range []api.Addr{v4(0), v6(0, 0)} {
		for k := range bitsOf(family) {
			a := withBit(family, k, 1)
			b := make([]byte, bitsOf(family)/8)
			b[k/8] = 0x80 >> (k % 8)
			if got := address.Bytes(a); got != string(b) {
				t.Errorf("Bytes of bit %d = %q, want %q", k, got, b)
			}
			if got, err := address.FromBytes(string(b)); got != a || err != api.OK {
				t.Errorf("FromBytes(%q) = %v, %v, want %v", b, got, err, a)
			}
		}
	}
}

func TestFromBytesOfOtherLengths(t *testing.T) {
	for n := range 300 {
		if n == 4 || n == 16 {
			continue
		}
		for _, unit := range []string{"\x00", "\x01", "\xff"} {
			if got, err := address.FromBytes(strings.Repeat(unit, n)); got != (api.Addr{}) || err != api.ErrFormat {
				t.Errorf("FromBytes of %d bytes = %v, %v", n, got, err)
			}
		}
	}
}

// P6.5

func TestCompare(t *testing.T) {
	// The edges are in increasing order.
	l := edges()
	for x, a := range l {
		for y, b := range l {
			want := 0
			if x < y {
				want = -1
			} else if x > y {
				want = 1
			}
			if got := address.Compare(a, b); got != want {
				t.Errorf("Compare(%v, %v) = %d, want %d", a, b, got, want)
			}
		}
	}
	if address.Compare(v4(0xff000000), v6(0, 0)) != -1 || address.Compare(v6(0, 0), v4(0xff000000)) != 1 {
		t.Error("255.0.0.0 is before ::")
	}
}

func TestCompareOfManyAddresses(t *testing.T) {
	r := source(65)
	for range 50000 {
		a, b := someAddr(r), someAddr(r)
		if r.IntN(2) == 0 {
			// Addresses that differ only at the end.
			b = withEnd(a, r.IntN(bitsOf(a)+1), uint64(r.IntN(2)))
		}
		x, y := address.Bytes(a), address.Bytes(b)
		want := strings.Compare(x, y)
		if len(x) < len(y) {
			want = -1
		} else if len(x) > len(y) {
			want = 1
		}
		if got := address.Compare(a, b); got != want {
			t.Fatalf("Compare(%v, %v) = %d, want %d", a, b, got, want)
		}
		if got := address.Compare(b, a); got != -want {
			t.Fatalf("Compare(%v, %v) = %d, want %d", b, a, got, -want)
		}
	}
}

// P6.6

func TestNextAndPrevious(t *testing.T) {
	for _, x := range []struct{ a, next api.Addr }{
		{v4(0), v4(1)}, {v4(255), v4(256)}, {v4(0xffff), v4(0x10000)}, {v4(0x0affffff), v4(0x0b000000)}, {v4(1<<31 - 1), v4(1 << 31)}, {v4(all4 - 1), v4(all4)},
		{v6(0, 0), v6(0, 1)}, {v6(0, all4), v6(0, 1<<32)}, {v6(0, 1<<63-1), v6(0, 1<<63)}, {v6(0, all-1), v6(0, all)}, {v6(0, all), v6(1, 0)}, {v6(7, all), v6(8, 0)},
		{v6(1<<63-1, all), v6(1<<63, 0)}, {v6(all-1, all), v6(all, 0)}, {v6(all, 0), v6(all, 1)}, {v6(all, all4), v6(all, 1<<32)}, {v6(all, all-1), v6(all, all)},
	} {
		if got, ok := address.Next(x.a); got != x.next || !ok {
			t.Errorf("Next(%v) = %v, %v", x.a, got, ok)
		}
		if got, ok := address.Previous(x.next); got != x.a || !ok {
			t.Errorf("Previous(%v) = %v, %v", x.next, got, ok)
		}
	}
	for _, last := range []api.Addr{v4(all4), v6(all, all)} {
		if got, ok := address.Next(last); got != (api.Addr{}) || ok {
			t.Errorf("Next(%v) = %v, %v", last, got, ok)
		}
	}
	for _, first := range []api.Addr{v4(0), v6(0, 0)} {
		if got, ok := address.Previous(first); got != (api.Addr{}) || ok {
			t.Errorf("Previous(%v) = %v, %v", first, got, ok)
		}
	}
}

func TestNextAndPreviousOfManyAddresses(t *testing.T) {
	r := source(66)
	one := big.NewInt(1)
	for range 50000 {
		a := someAddr(r)
		if next, ok := address.Next(a); ok {
			if next.V6 != a.V6 || !address.Valid(next) || bigOf(next).Cmp(new(big.Int).Add(bigOf(a), one)) != 0 {
				t.Fatalf("Next(%v) = %v", a, next)
			}
			if back, ok := address.Previous(next); back != a || !ok {
				t.Fatalf("Previous(%v) = %v, %v", next, back, ok)
			}
		} else if a != v4(all4) && a != v6(all, all) {
			t.Fatalf("%v is not the last address", a)
		}
		if previous, ok := address.Previous(a); ok {
			if previous.V6 != a.V6 || !address.Valid(previous) || bigOf(previous).Cmp(new(big.Int).Sub(bigOf(a), one)) != 0 {
				t.Fatalf("Previous(%v) = %v", a, previous)
			}
		} else if a != v4(0) && a != v6(0, 0) {
			t.Fatalf("%v is not the first address", a)
		}
	}
}

// P6.7

func TestMakePrefix(t *testing.T) {
	for _, x := range []struct {
		a    api.Addr
		bits int
		want api.Prefix
	}{
		{v4(0x0a010203), 8, prefix(v4(0x0a000000), 8)},
		{v4(0x0a010203), 0, prefix(v4(0), 0)},
		{v4(0x0a010203), 32, prefix(v4(0x0a010203), 32)},
		{v4(0x0a010203), 31, prefix(v4(0x0a010202), 31)},
		{v4(0x0a010203), 7, prefix(v4(0x0a000000), 7)},
		{v4(0x0a010203), 6, prefix(v4(0x08000000), 6)},
		{v4(all4), 1, prefix(v4(1<<31), 1)},
		{v6(all, all), 0, prefix(v6(0, 0), 0)},
		{v6(all, all), 1, prefix(v6(1<<63, 0), 1)},
		{v6(all, all), 63, prefix(v6(all-1, 0), 63)},
		{v6(all, all), 64, prefix(v6(all, 0), 64)},
		{v6(all, all), 65, prefix(v6(all, 1<<63), 65)},
		{v6(all, all), 127, prefix(v6(all, all-1), 127)},
		{v6(all, all), 128, prefix(v6(all, all), 128)},
		{v6(0x20010db8<<32, 5), 32, prefix(v6(0x20010db8<<32, 0), 32)},
	} {
		if got, err := address.MakePrefix(x.a, x.bits); got != x.want || err != api.OK {
			t.Errorf("MakePrefix(%v, %d) = %v, %v, want %v", x.a, x.bits, got, err, x.want)
		}
	}
	for _, a := range edges() {
		for _, bits := range append(oddBits(), bitsOf(a)+1) {
			if got, err := address.MakePrefix(a, bits); got != (api.Prefix{}) || err != api.ErrRange {
				t.Errorf("MakePrefix(%v, %d) = %v, %v", a, bits, got, err)
			}
		}
	}
	for bits := 33; bits <= 130; bits++ {
		if got, err := address.MakePrefix(v4(0), bits); got != (api.Prefix{}) || err != api.ErrRange {
			t.Errorf("MakePrefix of an IPv4 address and %d = %v, %v", bits, got, err)
		}
	}
}

// P6.7, P6.10, P6.11

// expectPrefix checks the functions of the prefix of an address against the definitions, bit by bit.
func expectPrefix(t *testing.T, a api.Addr, bits int) {
	t.Helper()
	p := prefix(withEnd(a, bits, 0), bits)
	if got, err := address.MakePrefix(a, bits); got != p || err != api.OK || !address.ValidPrefix(got) {
		t.Fatalf("MakePrefix(%v, %d) = %v, %v, want %v", a, bits, got, err, p)
	}
	bounds := api.Range{Lo: p.Addr, Hi: withEnd(a, bits, 1)}
	if got := address.Bounds(p); got != bounds {
		t.Fatalf("Bounds(%v) = %v, want %v", p, got, bounds)
	}
	if got := address.ValidPrefix(prefix(a, bits)); got != (a == p.Addr) {
		t.Fatalf("ValidPrefix(%v, %d) = %v", a, bits, got)
	}
	s := address.FormatPrefix(p)
	if want := address.Format(p.Addr) + "/" + strconv.Itoa(bits); s != want {
		t.Fatalf("FormatPrefix(%v) = %q, want %q", p, s, want)
	}
	if got, err := address.ParsePrefix(s); got != p || err != api.OK {
		t.Fatalf("ParsePrefix(%q) = %v, %v, want %v", s, got, err, p)
	}
	for _, member := range []api.Addr{a, bounds.Lo, bounds.Hi} {
		if !address.Contains(p, member) {
			t.Fatalf("%v contains %v", p, member)
		}
	}
	if before, ok := address.Previous(bounds.Lo); ok && address.Contains(p, before) {
		t.Fatalf("%v does not contain %v", p, before)
	}
	if after, ok := address.Next(bounds.Hi); ok && address.Contains(p, after) {
		t.Fatalf("%v does not contain %v", p, after)
	}
}

// expectContained checks Contains against the definition, bit by bit, and against the bounds.
func expectContained(t *testing.T, p api.Prefix, a api.Addr) {
	t.Helper()
	want := p.Addr.V6 == a.V6
	for k := 0; want && k < p.Bits; k++ {
		want = bitAt(p.Addr, k) == bitAt(a, k)
	}
	if got := address.Contains(p, a); got != want {
		t.Fatalf("Contains(%v, %v) = %v", p, a, got)
	}
	bounds := address.Bounds(p)
	if got := address.Compare(bounds.Lo, a) <= 0 && address.Compare(a, bounds.Hi) <= 0; got != want {
		t.Fatalf("%v is in the bounds of %v: %v", a, p, got)
	}
}

func TestPrefixesOfEachNumberOfBits(t *testing.T) {
	r := source(67)
	l := edges()
	for range 60 {
		l = append(l, someAddr(r))
	}
	for _, a := range l {
		for bits := 0; bits <= bitsOf(a); bits++ {
			expectPrefix(t, a, bits)
			p := prefix(withEnd(a, bits, 0), bits)
			for k := range bitsOf(a) {
				expectContained(t, p, withBit(a, k, 1-bitAt(a, k)))
			}
			for _, b := range l {
				expectContained(t, p, b)
			}
		}
	}
}

// P6.8

func TestParsePrefix(t *testing.T) {
	for s, want := range map[string]api.Prefix{
		"10.0.0.0/8":         prefix(v4(0x0a000000), 8),
		"10.0.0.1":           prefix(v4(0x0a000001), 32),
		"10.0.0.1/32":        prefix(v4(0x0a000001), 32),
		"0.0.0.0/0":          prefix(v4(0), 0),
		"0.0.0.0":            prefix(v4(0), 32),
		"128.0.0.0/1":        prefix(v4(1<<31), 1),
		"255.255.255.254/31": prefix(v4(all4-1), 31),
		"::/0":               prefix(v6(0, 0), 0),
		"::":                 prefix(v6(0, 0), 128),
		"::1":                prefix(v6(0, 1), 128),
		"::1/128":            prefix(v6(0, 1), 128),
		"2001:DB8:0::/32":    prefix(v6(0x20010db8<<32, 0), 32),
		"0001::/16":          prefix(v6(1<<48, 0), 16),
		"::8000:0:0:0/65":    prefix(v6(0, 1<<63), 65),
		"ffff:ffff:ffff:ffff:ffff:ffff:ffff:fffe/127": prefix(v6(all, all-1), 127),
	} {
		if got, err := address.ParsePrefix(s); got != want || err != api.OK {
			t.Errorf("ParsePrefix(%q) = %v, %v, want %v", s, got, err, want)
		}
	}
}

func TestErrorsOfParsePrefix(t *testing.T) {
	nines := strings.Repeat("9", 64)
	for s, want := range map[string]api.Errno{
		// What stands before the first slash is not the text of an address.
		"": api.ErrFormat, "/": api.ErrFormat, "/8": api.ErrFormat, "x/8": api.ErrFormat, "x/999": api.ErrFormat, "10.0.0/8": api.ErrFormat, "10/8": api.ErrFormat, "010.0.0.0/8": api.ErrFormat,
		"10.0.0.0 /8": api.ErrFormat, "10.0.0.0:8": api.ErrFormat, "256.0.0.0/8": api.ErrFormat, "1::2::/32": api.ErrFormat, "::1.2.3.4/128": api.ErrFormat, "//": api.ErrFormat, "/10.0.0.0/8": api.ErrFormat,
		// What follows it is not a number.
		"10.0.0.0/": api.ErrFormat, "::/": api.ErrFormat, "10.0.0.0/08": api.ErrFormat, "10.0.0.0/00": api.ErrFormat, "0.0.0.0/00": api.ErrFormat, "10.0.0.0/+8": api.ErrFormat, "10.0.0.0/-8": api.ErrFormat,
		"0.0.0.0/-0": api.ErrFormat, "10.0.0.0/8 ": api.ErrFormat, "10.0.0.0/ 8": api.ErrFormat, "10.0.0.0/8/8": api.ErrFormat, "10.0.0.0//8": api.ErrFormat, "10.0.0.0/8/": api.ErrFormat,
		"10.0.0.0/a": api.ErrFormat, "10.0.0.0/0x8": api.ErrFormat, "10.0.0.0/1e1": api.ErrFormat, "::/f": api.ErrFormat, "::/1F": api.ErrFormat, "10.0.0.0/255.0.0.0": api.ErrFormat, "10.0.0.0/8\n": api.ErrFormat,
		"10.0.0.0/033": api.ErrFormat, "10.0.0.0/33x": api.ErrFormat, "10.0.0.1/08": api.ErrFormat, "10.0.0.0/99999999999999999999x": api.ErrFormat, "::/0129": api.ErrFormat,
		// The number exceeds the number of bits.
		"10.0.0.0/33": api.ErrRange, "10.0.0.1/33": api.ErrRange, "10.0.0.0/128": api.ErrRange, "::/129": api.ErrRange, "::1/129": api.ErrRange, "10.0.0.0/256": api.ErrRange, "10.0.0.0/65536": api.ErrRange,
		"10.0.0.0/65544": api.ErrRange, "10.0.0.0/4294967304": api.ErrRange, "10.0.0.0/18446744073709551616": api.ErrRange, "10.0.0.0/18446744073709551624": api.ErrRange,
		"10.0.0.0/9223372036854775808": api.ErrRange, "::/18446744073709551680": api.ErrRange, "::/" + nines[:61]: api.ErrRange, "0.0.0.0/" + nines[:56]: api.ErrRange,
		// A bit after the first ones is not 0.
		"10.0.0.1/8": api.ErrFormat, "10.0.0.1/31": api.ErrFormat, "10.0.0.0/6": api.ErrFormat, "0.0.0.1/0": api.ErrFormat, "128.0.0.0/0": api.ErrFormat, "::1/127": api.ErrFormat, "::1/0": api.ErrFormat,
		"8000::/0": api.ErrFormat, "0:0:0:1::/63": api.ErrFormat, "::8000:0:0:0/64": api.ErrFormat,
		// More than 64 bytes.
		"::/" + nines[:62]: api.ErrLong, "0.0.0.0/" + nines[:57]: api.ErrLong, "x" + nines: api.ErrLong, "10.0.0.0/8" + strings.Repeat(" ", 55): api.ErrLong, nines + "/": api.ErrLong,
		strings.Repeat("0", 1<<20): api.ErrLong,
	} {
		if got, err := address.ParsePrefix(s); got != (api.Prefix{}) || err != want {
			t.Errorf("ParsePrefix(%q) = %v, %v, want %v", s, got, err, want)
		}
	}
}

// prefixDefinition returns the prefix that a text denotes, by the chapter's definition.
func prefixDefinition(s string) (api.Prefix, api.Errno) {
	if len(s) > 64 {
		return api.Prefix{}, api.ErrLong
	}
	parts := strings.SplitN(s, "/", 2)
	a, err := definition(parts[0])
	if err != api.OK {
		return api.Prefix{}, err
	}
	bits := bitsOf(a)
	if len(parts) > 1 {
		n, ok := new(big.Int).SetString(parts[1], 10)
		if !ok || n.String() != parts[1] || n.Sign() < 0 {
			return api.Prefix{}, api.ErrFormat
		}
		if n.Cmp(big.NewInt(int64(bits))) > 0 {
			return api.Prefix{}, api.ErrRange
		}
		bits = int(n.Int64())
	}
	if withEnd(a, bits, 0) != a {
		return api.Prefix{}, api.ErrFormat
	}
	return prefix(a, bits), api.OK
}

func TestParsePrefixOfChangedTexts(t *testing.T) {
	r := source(68)
	for range 50000 {
		a := someAddr(r)
		bits := r.IntN(bitsOf(a) + 3)
		if r.IntN(2) == 0 {
			a = withEnd(a, bits, 0)
		}
		s := someText(r, a) + "/" + strconv.Itoa(bits)
		for _, text := range []string{s, changed(r, s), s + strconv.Itoa(r.IntN(10))} {
			want, wantErr := prefixDefinition(text)
			if got, err := address.ParsePrefix(text); got != want || err != wantErr {
				t.Fatalf("ParsePrefix(%q) = %v, %v, want %v, %v", text, got, err, want, wantErr)
			}
		}
	}
}

// P6.9

func TestFormatPrefix(t *testing.T) {
	for want, p := range map[string]api.Prefix{
		"0.0.0.0/0":          {},
		"0.0.0.0/32":         prefix(v4(0), 32),
		"10.0.0.0/8":         prefix(v4(0x0a000000), 8),
		"10.0.0.1/32":        prefix(v4(0x0a000001), 32),
		"255.255.255.254/31": prefix(v4(all4-1), 31),
		"::/0":               prefix(v6(0, 0), 0),
		"::/128":             prefix(v6(0, 0), 128),
		"2001:db8::/32":      prefix(v6(0x20010db8<<32, 0), 32),
		"1:2:3:4:5:6:7:0/112": prefix(v6(0x0001000200030004,
			0x0005000600070000), 112),
	} {
		if got := address.FormatPrefix(p); got != want {
			t.Errorf("FormatPrefix(%v) = %q, want %q", p, got, want)
		}
	}
}

// P6.10

func TestContains(t *testing.T) {
	ten := prefix(v4(0x0a000000), 8)
	for _, x := range []struct {
		p    api.Prefix
		a    api.Addr
		want bool
	}{
		{ten, v4(0x0a000000), true}, {ten, v4(0x0a010203), true}, {ten, v4(0x0affffff), true}, {ten, v4(0x09ffffff), false}, {ten, v4(0x0b000000), false}, {ten, v4(0), false}, {ten, v6(0, 0x0a000000), false},
		{api.Prefix{}, v4(0), true}, {api.Prefix{}, v4(all4), true}, {api.Prefix{}, v6(0, 0), false}, {api.Prefix{}, v6(all, all), false},
		{prefix(v6(0, 0), 0), v6(all, all), true}, {prefix(v6(0, 0), 0), v6(0, 0), true}, {prefix(v6(0, 0), 0), v4(0), false}, {prefix(v6(0, 0), 96), v4(5), false}, {prefix(v6(0, 0), 96), v6(0, 5), true},
		{prefix(v4(7), 32), v4(7), true}, {prefix(v4(7), 32), v4(6), false}, {prefix(v4(6), 31), v4(7), true}, {prefix(v6(1, 0), 64), v6(1, all), true}, {prefix(v6(1, 0), 64), v6(0, all), false},
		{prefix(v6(1, 0), 64), v6(2, 0), false}, {prefix(v6(1, 2), 128), v6(1, 2), true}, {prefix(v6(1, 2), 128), v6(1, 3), false}, {prefix(v6(1, 2), 128), v6(0, 2), false},
	} {
		if got := address.Contains(x.p, x.a); got != x.want {
			t.Errorf("Contains(%v, %v) = %v", x.p, x.a, got)
		}
	}
}

func TestBounds(t *testing.T) {
	for _, x := range []struct {
		p  api.Prefix
		hi api.Addr
	}{
		{prefix(v4(0x0a000000), 30), v4(0x0a000003)}, {prefix(v4(0x0a000000), 8), v4(0x0affffff)}, {api.Prefix{}, v4(all4)}, {prefix(v4(9), 32), v4(9)}, {prefix(v4(1<<31), 1), v4(all4)},
		{prefix(v6(0, 0), 0), v6(all, all)}, {prefix(v6(0, 0), 1), v6(1<<63-1, all)}, {prefix(v6(2, 0), 63), v6(3, all)}, {prefix(v6(2, 0), 64), v6(2, all)}, {prefix(v6(2, 0), 65), v6(2, 1<<63-1)},
		{prefix(v6(2, 4), 127), v6(2, 5)}, {prefix(v6(2, 4), 128), v6(2, 4)},
	} {
		if got := address.Bounds(x.p); got != (api.Range{Lo: x.p.Addr, Hi: x.hi}) {
			t.Errorf("Bounds(%v) = %v", x.p, got)
		}
	}
}

// P6.11

func TestParseOfFormat(t *testing.T) {
	r := source(611)
	l := edges()
	for range 50000 {
		l = append(l, someAddr(r))
	}
	for _, a := range l {
		s := address.Format(a)
		if got, err := address.Parse(s); got != a || err != api.OK {
			t.Fatalf("Parse(%q) = %v, %v, want %v", s, got, err, a)
		}
		if got, err := address.FromBytes(address.Bytes(a)); got != a || err != api.OK {
			t.Fatalf("FromBytes(Bytes(%v)) = %v, %v", a, got, err)
		}
		p, err := address.MakePrefix(a, r.IntN(bitsOf(a)+1))
		if got, parseErr := address.ParsePrefix(address.FormatPrefix(p)); got != p || err != api.OK || parseErr != api.OK {
			t.Fatalf("ParsePrefix(%q) = %v, %v, want %v", address.FormatPrefix(p), got, parseErr, p)
		}
	}
}

func TestPrefixContainsTheAddressesBetweenItsBounds(t *testing.T) {
	for _, base := range []api.Addr{v4(0x0a0000f0), v4(0), v4(all4 - 31), v6(0, 0), v6(5, all-31), v6(all, all-31)} {
		for bits := bitsOf(base) - 5; bits <= bitsOf(base); bits++ {
			p := prefix(withEnd(base, bits, 0), bits)
			bounds := address.Bounds(p)
			count := 1
			for a := bounds.Lo; a != bounds.Hi; count++ {
				if !address.Contains(p, a) {
					t.Errorf("%v contains %v", p, a)
				}
				next, ok := address.Next(a)
				if !ok || address.Compare(a, next) != -1 {
					t.Fatalf("Next(%v) = %v, %v", a, next, ok)
				}
				a = next
			}
			if want := 1 << (bitsOf(base) - bits); count != want {
				t.Errorf("%v has %d addresses, want %d", p, count, want)
			}
		}
	}
}

// R1, R5

func TestFunctionsOfInvalidValues(t *testing.T) {
	addrs := append(invalidAddrs(), edges()...)
	bits := append(oddBits(), 0, 1, 31, 32, 33, 63, 64, 65, 127, 128)
	for _, a := range addrs {
		address.Format(a)
		address.Bytes(a)
		address.Next(a)
		address.Previous(a)
		for _, b := range addrs {
			address.Compare(a, b)
		}
		for _, n := range bits {
			p := prefix(a, n)
			address.MakePrefix(a, n)
			address.FormatPrefix(p)
			address.Bounds(p)
			for _, b := range addrs {
				address.Contains(p, b)
			}
		}
	}
}
