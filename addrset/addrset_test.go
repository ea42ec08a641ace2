package addrset_test

import (
	"math"
	"math/big"
	"math/bits"
	"math/rand/v2"
	"slices"
	"testing"

	"intrusion/addrset"
	"intrusion/api"
)

const (
	all4 = math.MaxUint32
	all  = math.MaxUint64
)

// source returns pseudo random numbers, the same ones in every run.
func source(seed uint64) *rand.Rand { return rand.New(rand.NewPCG(seed, 0)) }

// v4 returns the IPv4 address of a number.
func v4(lo uint64) api.Addr { return api.Addr{Lo: lo} }

// v6 returns the IPv6 address of a number.
func v6(hi, lo uint64) api.Addr { return api.Addr{V6: true, Hi: hi, Lo: lo} }

// ten returns the IPv4 address 10.0.0.0 plus n.
func ten(n uint64) api.Addr { return v4(10<<24 + n) }

// prefix returns a prefix, which need not be valid.
func prefix(a api.Addr, bits int) api.Prefix { return api.Prefix{Addr: a, Bits: bits} }

// ranges returns the ranges with these bounds.
func ranges(bounds ...api.Addr) []api.Range {
	var l []api.Range
	for k := 0; k+1 < len(bounds); k += 2 {
		l = append(l, api.Range{Lo: bounds[k], Hi: bounds[k+1]})
	}
	return l
}

// tens returns the ranges with these bounds, which are added to 10.0.0.0.
func tens(bounds ...uint64) []api.Range {
	var l []api.Addr
	for _, n := range bounds {
		l = append(l, ten(n))
	}
	return ranges(l...)
}

// everything is the set of all addresses.
func everything() []api.Range { return ranges(v4(0), v4(all4), v6(0, 0), v6(all, all)) }

// invalidAddrs are addresses that are not valid.
func invalidAddrs() []api.Addr {
	return []api.Addr{{Lo: 1 << 32}, {Lo: all}, {Hi: 1}, {Hi: 1, Lo: 10<<24 + 1}, {Hi: all, Lo: all}, {Hi: 1 << 63, Lo: 5}}
}

// invalidPrefixes are prefixes that are not valid.
func invalidPrefixes() []api.Prefix {
	l := []api.Prefix{prefix(ten(1), 24), prefix(ten(0), 6), prefix(v4(1), 0), prefix(ten(0), 33), prefix(ten(0), 128), prefix(v4(0), -1), prefix(v4(0), math.MinInt), prefix(v4(0), math.MaxInt),
		prefix(v6(1, 0), 63), prefix(v6(0, 1), 0), prefix(v6(0, 1), 127), prefix(v6(0, 0), 129), prefix(v6(0, 0), -1), prefix(v6(0, 0), math.MinInt), prefix(v6(0, 0), math.MaxInt)}
	for _, a := range invalidAddrs() {
		l = append(l, prefix(a, 0), prefix(a, 32), prefix(a, 64), prefix(a, 128))
	}
	return l
}

func expectRanges(t *testing.T, what string, got, want []api.Range) {
	t.Helper()
	if !slices.Equal(got, want) {
		t.Errorf("%s = %v, want %v", what, got, want)
	}
}

func expectPrefixes(t *testing.T, what any, got, want []api.Prefix) {
	t.Helper()
	if !slices.Equal(got, want) {
		t.Errorf("Prefixes of %v = %v, want %v", what, got, want)
	}
}

// isAddr is the definition of a valid address.
func isAddr(a api.Addr) bool { return a.V6 || a.Hi == 0 && a.Lo <= all4 }

// isBefore is the order of valid addresses.
func isBefore(a, b api.Addr) bool {
	if a.V6 != b.V6 {
		return b.V6
	}
	return a.Hi < b.Hi || a.Hi == b.Hi && a.Lo < b.Lo
}

func compare(a, b api.Addr) int {
	switch {
	case isBefore(a, b):
		return -1
	case isBefore(b, a):
		return 1
	}
	return 0
}

// after returns the address after a in the order of all addresses, that is, :: after the last IPv4 address.
func after(a api.Addr) (api.Addr, bool) {
	switch a {
	case v4(all4):
		return v6(0, 0), true
	case v6(all, all):
		return api.Addr{}, false
	}
	var carry uint64
	a.Lo, carry = bits.Add64(a.Lo, 1, 0)
	a.Hi += carry
	return a, true
}

// previous returns the address before a in the order of all addresses.
func previous(a api.Addr) (api.Addr, bool) {
	switch a {
	case v4(0):
		return api.Addr{}, false
	case v6(0, 0):
		return v4(all4), true
	}
	var borrow uint64
	a.Lo, borrow = bits.Sub64(a.Lo, 1, 0)
	a.Hi -= borrow
	return a, true
}

// denotes is the chapter's definition of the addresses of a range.
func denotes(r api.Range, a api.Addr) bool {
	return isAddr(a) && isAddr(r.Lo) && isAddr(r.Hi) && r.Lo.V6 == r.Hi.V6 && !isBefore(a, r.Lo) && !isBefore(r.Hi, a)
}

// has is the chapter's definition of the addresses of a list.
func has(l []api.Range, a api.Addr) bool {
	for _, r := range l {
		if denotes(r, a) {
			return true
		}
	}
	return false
}

// isSet is the chapter's definition of a set.
func isSet(l []api.Range) bool {
	for k, r := range l {
		if !denotes(r, r.Lo) {
			return false
		}
		if k == 0 {
			continue
		}
		gap, ok := after(l[k-1].Hi)
		touches := gap == r.Lo && gap.V6 == l[k-1].Hi.V6
		if !ok || isBefore(r.Lo, gap) || touches {
			return false
		}
	}
	return true
}

// points are the valid addresses at which being denoted by some of the lists can change, and their neighbours, in increasing order.
func points(lists ...[]api.Range) []api.Addr {
	var l []api.Addr
	for _, list := range append(lists, everything()) {
		for _, r := range list {
			for _, a := range []api.Addr{r.Lo, r.Hi} {
				if !isAddr(a) {
					continue
				}
				l = append(l, a)
				if b, ok := previous(a); ok {
					l = append(l, b)
				}
				if b, ok := after(a); ok {
					l = append(l, b)
				}
			}
		}
	}
	slices.SortFunc(l, compare)
	return slices.Compact(l)
}

// setOf returns the set of the addresses that belong, if belongs changes only next to the points.
func setOf(at []api.Addr, belongs func(a api.Addr) bool) []api.Range {
	var set []api.Range
	for _, a := range at {
		if !belongs(a) {
			continue
		}
		before, ok := previous(a)
		if !ok || before.V6 != a.V6 || !belongs(before) {
			set = append(set, api.Range{Lo: a})
		}
		set[len(set)-1].Hi = a
	}
	return set
}

// operations are the functions of two lists, with their Boolean combinations.
func operations() []struct {
	name    string
	of      func(a, b []api.Range) []api.Range
	combine func(inA, inB bool) bool
} {
	return []struct {
		name    string
		of      func(a, b []api.Range) []api.Range
		combine func(inA, inB bool) bool
	}{
		{"Union", addrset.Union, func(inA, inB bool) bool { return inA || inB }},
		{"Intersect", addrset.Intersect, func(inA, inB bool) bool { return inA && inB }},
		{"Minus", addrset.Minus, func(inA, inB bool) bool { return inA && !inB }},
	}
}

// expectOne checks the functions of one list against the definitions.
func expectOne(t *testing.T, l []api.Range) {
	t.Helper()
	at := points(l)
	set := setOf(at, func(a api.Addr) bool { return has(l, a) })
	if got := addrset.Normal(l); !slices.Equal(got, set) {
		t.Fatalf("Normal(%v) = %v, want %v", l, got, set)
	}
	if got, want := addrset.Valid(l), slices.Equal(l, set); got != want || want != isSet(l) {
		t.Fatalf("Valid(%v) = %v, want %v", l, got, want)
	}
	for _, a := range at {
		if got := addrset.Contains(l, a); got != has(l, a) {
			t.Fatalf("Contains(%v, %v) = %v", l, a, got)
		}
	}
}

// expectTwo checks the functions of two lists against the definitions, and the consequences that the chapter names.
func expectTwo(t *testing.T, a, b []api.Range) {
	t.Helper()
	at := points(a, b)
	for _, x := range operations() {
		set := setOf(at, func(n api.Addr) bool { return x.combine(has(a, n), has(b, n)) })
		got := x.of(a, b)
		if !slices.Equal(got, set) || !isSet(got) {
			t.Fatalf("%s(%v, %v) = %v, want %v", x.name, a, b, got, set)
		}
		for _, n := range at {
			if addrset.Contains(got, n) != x.combine(addrset.Contains(a, n), addrset.Contains(b, n)) {
				t.Fatalf("%s(%v, %v) and %v", x.name, a, b, n)
			}
		}
	}
	isSubset := !slices.ContainsFunc(at, func(n api.Addr) bool { return has(a, n) && !has(b, n) })
	if got := addrset.Subset(a, b); got != isSubset {
		t.Fatalf("Subset(%v, %v) = %v", a, b, got)
	}
	if got, want := addrset.Minus(a, addrset.Minus(a, b)), addrset.Intersect(a, b); !slices.Equal(got, want) {
		t.Fatalf("of %v and %v, Minus of Minus is %v, Intersect %v", a, b, got, want)
	}
}

// windows are lists of successive addresses: at the first and the last one of each family, where they meet, and where the lower 64 bits overflow.
func windows() [][]api.Addr {
	var l [][]api.Addr
	for _, a := range []api.Addr{v4(0), ten(254), v4(all4 - 6), v4(all4 - 2), v6(0, 0), v6(0, all4-2), v6(0, all-2), v6(5, 1<<63-3), v6(all-1, all-2), v6(all, all-6)} {
		window := []api.Addr{a}
		for len(window) < 7 {
			a, _ = after(a)
			window = append(window, a)
		}
		l = append(l, window)
	}
	return l
}

// eachList calls f with all lists of at most n ranges between any two of the addresses.
func eachList(n int, bounds []api.Addr, f func(l []api.Range)) {
	var extend func(l []api.Range)
	extend = func(l []api.Range) {
		f(l)
		if len(l) == n {
			return
		}
		for _, lo := range bounds {
			for _, hi := range bounds {
				extend(append(slices.Clone(l), api.Range{Lo: lo, Hi: hi}))
			}
		}
	}
	extend(nil)
}

// someAddr returns an address that often is near another one of many calls; one in many is not valid.
func someAddr(r *rand.Rand) api.Addr {
	near := r.Uint64N(9)
	switch r.IntN(12) {
	case 0:
		return v4(uint64(r.Uint32()))
	case 1:
		return v6(r.Uint64(), r.Uint64())
	case 2:
		return v4(near)
	case 3:
		return v4(all4 - near)
	case 4:
		return v6(0, near)
	case 5:
		return v6(all, all-near)
	case 6:
		return v6(3, near)
	case 7:
		return v6(2, all-near)
	case 8:
		return invalidAddrs()[r.IntN(len(invalidAddrs()))]
	}
	return ten(r.Uint64N(40))
}

// someList returns a list of at most n ranges, most of which are short.
func someList(r *rand.Rand, n int) []api.Range {
	var l []api.Range
	for range r.IntN(n + 1) {
		x := api.Range{Lo: someAddr(r)}
		x.Hi = x.Lo
		if r.IntN(6) == 0 {
			x.Hi = someAddr(r)
		} else if more := r.Uint64N(5); x.Hi.Lo <= all-more {
			x.Hi.Lo += more
		}
		l = append(l, x)
	}
	return l
}

// P7.1

func TestValid(t *testing.T) {
	for _, l := range [][]api.Range{nil, {}, everything(), tens(0, 0), tens(1, 3), tens(1, 3, 5, 5), tens(0, 0, 2, 2, 4, 4),
		ranges(v4(0), v4(0)), ranges(v4(all4), v4(all4)), ranges(v6(0, 0), v6(0, 0)), ranges(v6(all, all), v6(all, all)),
		ranges(v4(all4), v4(all4), v6(0, 0), v6(0, 0)),
		ranges(v4(all4), v4(all4), v6(0, 10<<24), v6(0, 10<<24)), ranges(ten(5), ten(9), v6(0, 0), v6(0, 3)), ranges(ten(5), ten(9), v6(0, 10<<24+10), v6(0, 10<<24+10)),
		ranges(v6(0, 0), v6(0, all), v6(1, 1), v6(1, 1)), ranges(v6(0, all4), v6(0, all4)), ranges(v6(0, 5), v6(7, 2))} {
		if !addrset.Valid(l) {
			t.Errorf("%v is a set", l)
		}
	}
	for _, l := range [][]api.Range{
		tens(3, 2), tens(1, 0), tens(1, 3, 4, 5), tens(1, 3, 3, 5), tens(1, 3, 2, 2), tens(1, 3, 1, 3), tens(5, 5, 1, 3), tens(4, 4, 1, 3), tens(1, 3, 6, 5), tens(6, 5, 8, 9), tens(1, 1, 3, 3, 4, 4), tens(1, 1, 3, 3, 0, 0),
		ranges(v4(all4), v4(all4), v4(0), v4(0)), ranges(v4(0), v4(all4), v4(all4), v4(all4)), ranges(v4(all4), v4(all4), v4(all4), v4(all4)), ranges(v4(0), v4(all4), v4(0), v4(0)),
		ranges(v6(0, 0), v6(0, 0), v4(all4), v4(all4)), ranges(v6(0, 0), v6(0, 0), v4(0), v4(0)), ranges(v6(all, all), v6(all, all), v4(0), v4(0)),
		ranges(v4(0), v6(0, 0)), ranges(v4(all4), v6(0, 0)), ranges(v6(0, 0), v4(all4)), ranges(v4(0), v6(all, all)),
		ranges(v6(0, 0), v6(0, all), v6(1, 0), v6(1, 1)), ranges(v6(1, 0), v6(0, all)), ranges(v6(0, 1), v6(0, 0)), ranges(v6(all, all), v6(all, all), v6(0, 0), v6(0, 0)),
		ranges(v6(0, 0), v6(all, all), v6(all, all), v6(all, all)), ranges(v6(all, all), v6(all, all), v6(all, all), v6(all, all)),
	} {
		if addrset.Valid(l) {
			t.Errorf("%v is not a set", l)
		}
	}
	for _, a := range invalidAddrs() {
		for _, l := range [][]api.Range{ranges(a, a), ranges(v4(0), a), ranges(a, v4(all4)), ranges(a, v6(0, 0)), ranges(v6(0, 0), a), ranges(v4(0), v4(3), a, a), ranges(a, a, v6(0, 0), v6(0, 0))} {
			if addrset.Valid(l) {
				t.Errorf("%v is not a set", l)
			}
		}
	}
}

// P7.2

func TestNormal(t *testing.T) {
	for _, x := range []struct{ l, want []api.Range }{
		{tens(2, 3, 1, 1), tens(1, 3)},
		{nil, nil},
		{[]api.Range{}, nil},
		{everything(), everything()},
		{tens(4, 4), tens(4, 4)},
		{tens(4, 3), nil},
		{tens(4, 3, 2, 1), nil},
		{tens(1, 2, 4, 5), tens(1, 2, 4, 5)},
		{tens(4, 5, 1, 2), tens(1, 2, 4, 5)},
		{tens(1, 2, 3, 4), tens(1, 4)},
		{tens(1, 9, 2, 3, 5, 6, 10, 12), tens(1, 12)},
		{tens(2, 3, 1, 9, 11, 11), tens(1, 9, 11, 11)},
		{tens(6, 6, 6, 6, 6, 6), tens(6, 6)},
		{tens(1, 1, 1, 3, 1, 2), tens(1, 3)},
		{ranges(v4(all4), v4(all4), v6(0, 0), v6(0, 0)), ranges(v4(all4), v4(all4), v6(0, 0), v6(0, 0))},
		{ranges(v6(0, 0), v6(0, 0), v4(all4), v4(all4)), ranges(v4(all4), v4(all4), v6(0, 0), v6(0, 0))},
		{ranges(v6(0, 10<<24+4), v6(0, 10<<24+4), ten(3), ten(3)), ranges(ten(3), ten(3), v6(0, 10<<24+4), v6(0, 10<<24+4))},
		{ranges(v4(all4), v4(all4), v4(5), v4(all4), v4(0), v4(4)), ranges(v4(0), v4(all4))},
		{ranges(v4(all4), v4(all4), v4(all4), v4(all4)), ranges(v4(all4), v4(all4))},
		{ranges(v4(all4), v4(all4), v4(0), v4(0)), ranges(v4(0), v4(0), v4(all4), v4(all4))},
		{ranges(v6(all, all), v6(all, all), v6(all, all), v6(all, all)), ranges(v6(all, all), v6(all, all))},
		{ranges(v6(all, all), v6(all, all), v6(0, 0), v6(0, 0)), ranges(v6(0, 0), v6(0, 0), v6(all, all), v6(all, all))},
		{ranges(v6(1, 0), v6(1, 4), v6(0, 7), v6(0, all)), ranges(v6(0, 7), v6(1, 4))},
		{ranges(v6(1, 1), v6(1, 4), v6(0, 7), v6(0, all)), ranges(v6(0, 7), v6(0, all), v6(1, 1), v6(1, 4))},
		{ranges(v4(0), v6(all, all)), nil},
		{ranges(v4(all4), v6(0, 0), v6(0, 0), v4(all4)), nil},
	} {
		expectRanges(t, "Normal", addrset.Normal(x.l), x.want)
	}
	for _, a := range invalidAddrs() {
		expectRanges(t, "Normal", addrset.Normal(ranges(a, a, v4(0), a, ten(5), ten(5), a, v6(all, all), a, v4(all4), v6(0, 0), a)), tens(5, 5))
	}
}

func TestFunctionsOfEveryShortList(t *testing.T) {
	for _, window := range windows() {
		eachList(2, append(window[:5:5], invalidAddrs()[3]), func(l []api.Range) { expectOne(t, l) })
	}
	for _, a := range []api.Addr{v4(all4 - 1), v6(0, all-1)} {
		b, _ := after(a)
		c, _ := after(b)
		d, _ := after(c)
		eachList(3, []api.Addr{a, b, c, d}, func(l []api.Range) { expectOne(t, l) })
	}
}

func TestFunctionsOfMixedLists(t *testing.T) {
	r := source(7)
	for range 10000 {
		expectOne(t, someList(r, 9))
	}
}

func TestNormalOfASet(t *testing.T) {
	r := source(72)
	for range 5000 {
		l := someList(r, 8)
		set := addrset.Normal(l)
		if !addrset.Valid(set) {
			t.Fatalf("%v is not a set", set)
		}
		expectRanges(t, "Normal of a set", addrset.Normal(set), set)
		shuffled := slices.Concat(l, set)
		r.Shuffle(len(shuffled), func(x, y int) { shuffled[x], shuffled[y] = shuffled[y], shuffled[x] })
		expectRanges(t, "Normal of a shuffled list", addrset.Normal(shuffled), set)
	}
}

// P7.3

func TestAll(t *testing.T) {
	expectRanges(t, "All", addrset.All(), everything())
	clear(addrset.All())
	expectRanges(t, "All after a change of another result", addrset.All(), everything())
}

func TestOf(t *testing.T) {
	for _, x := range []struct {
		l    []api.Prefix
		want []api.Range
	}{
		{nil, nil},
		{[]api.Prefix{}, nil},
		{[]api.Prefix{prefix(v4(0), 0)}, ranges(v4(0), v4(all4))},
		{[]api.Prefix{prefix(v6(0, 0), 0)}, ranges(v6(0, 0), v6(all, all))},
		{[]api.Prefix{prefix(v6(0, 0), 0), prefix(v4(0), 0)}, everything()},
		{[]api.Prefix{prefix(ten(7), 32)}, tens(7, 7)},
		{[]api.Prefix{prefix(ten(0), 8)}, tens(0, 1<<24-1)},
		{[]api.Prefix{prefix(ten(4), 30), prefix(ten(0), 30)}, tens(0, 7)},
		{[]api.Prefix{prefix(ten(4), 30), prefix(ten(0), 31)}, tens(0, 1, 4, 7)},
		{[]api.Prefix{prefix(ten(4), 30), prefix(ten(6), 31), prefix(ten(4), 30), prefix(ten(0), 29)}, tens(0, 7)},
		{[]api.Prefix{prefix(v4(0), 1), prefix(v4(1<<31), 1)}, ranges(v4(0), v4(all4))},
		{[]api.Prefix{prefix(v6(0, 0), 32), prefix(v4(0), 32)}, ranges(v4(0), v4(0), v6(0, 0), v6(1<<32-1, all))},
		{[]api.Prefix{prefix(v6(0, 0), 128), prefix(v4(all4), 32)}, ranges(v4(all4), v4(all4), v6(0, 0), v6(0, 0))},
		{[]api.Prefix{prefix(v6(7, 0), 64), prefix(v6(9, 1<<63), 65)}, ranges(v6(7, 0), v6(7, all), v6(9, 1<<63), v6(9, all))},
		{[]api.Prefix{prefix(v6(8, 0), 63), prefix(v6(6, 0), 63)}, ranges(v6(6, 0), v6(9, all))},
		{[]api.Prefix{prefix(v6(all, all), 128)}, ranges(v6(all, all), v6(all, all))},
	} {
		expectRanges(t, "Of", addrset.Of(x.l), x.want)
	}
	expectRanges(t, "Of invalid prefixes", addrset.Of(invalidPrefixes()), nil)
	for _, p := range invalidPrefixes() {
		expectRanges(t, "Of one invalid prefix", addrset.Of([]api.Prefix{p}), nil)
		expectRanges(t, "Of an invalid prefix and others", addrset.Of([]api.Prefix{prefix(ten(8), 31), p, prefix(ten(0), 32)}), tens(0, 0, 8, 9))
	}
}

// widthOf returns the number of bits of the addresses of a's family.
func widthOf(a api.Addr) int {
	if a.V6 {
		return 128
	}
	return 32
}

// numberOf returns an address as a number.
func numberOf(a api.Addr) *big.Int {
	n := new(big.Int).SetUint64(a.Hi)
	return n.Lsh(n, 64).Or(n, new(big.Int).SetUint64(a.Lo))
}

// addrOf returns the address of a family with a number.
func addrOf(v6 bool, n *big.Int) api.Addr {
	lo := new(big.Int).And(n, new(big.Int).SetUint64(all))
	return api.Addr{V6: v6, Hi: new(big.Int).Rsh(n, 64).Uint64(), Lo: lo.Uint64()}
}

// sizeOf returns the number of addresses of a valid prefix.
func sizeOf(p api.Prefix) *big.Int {
	return new(big.Int).Lsh(big.NewInt(1), uint(widthOf(p.Addr)-p.Bits))
}

// isPrefix is the definition of a valid prefix.
func isPrefix(p api.Prefix) bool {
	if !isAddr(p.Addr) || p.Bits < 0 || p.Bits > widthOf(p.Addr) {
		return false
	}
	return new(big.Int).Mod(numberOf(p.Addr), sizeOf(p)).Sign() == 0
}

// boundsOf returns the range of a valid prefix.
func boundsOf(p api.Prefix) api.Range {
	end := new(big.Int).Add(numberOf(p.Addr), sizeOf(p))
	return api.Range{Lo: p.Addr, Hi: addrOf(p.Addr.V6, end.Sub(end, big.NewInt(1)))}
}

// rangesOf returns the ranges of the valid ones of some prefixes.
func rangesOf(l []api.Prefix) []api.Range {
	var parts []api.Range
	for _, p := range l {
		if isPrefix(p) {
			parts = append(parts, boundsOf(p))
		}
	}
	return parts
}

// around returns the prefix of a valid address with a number of bits.
func around(a api.Addr, bits int) api.Prefix {
	n := numberOf(a)
	n.Sub(n, new(big.Int).Mod(n, sizeOf(prefix(a, bits))))
	return prefix(addrOf(a.V6, n), bits)
}

// somePrefixes returns at most n prefixes, some of which are not valid.
func somePrefixes(r *rand.Rand, n int) []api.Prefix {
	var l []api.Prefix
	for range r.IntN(n + 1) {
		a := someAddr(r)
		bits := widthOf(a) - r.IntN(6)
		if r.IntN(4) == 0 {
			bits = r.IntN(widthOf(a) + 1)
		}
		switch {
		case !isAddr(a) || r.IntN(8) == 0:
			l = append(l, prefix(a, bits))
		default:
			l = append(l, around(a, bits))
		}
	}
	return l
}

func TestOfMixedPrefixes(t *testing.T) {
	r := source(73)
	for range 5000 {
		l := somePrefixes(r, 8)
		parts := rangesOf(l)
		want := setOf(points(parts), func(a api.Addr) bool { return has(parts, a) })
		if got := addrset.Of(l); !slices.Equal(got, want) {
			t.Fatalf("Of(%v) = %v, want %v", l, got, want)
		}
	}
}

func TestOfEachNumberOfBits(t *testing.T) {
	for _, a := range []api.Addr{v4(0), v4(0xaaaaaaaa), v4(all4), v6(0, 0), v6(0x5555555555555555, 0xaaaaaaaaaaaaaaaa), v6(all, all)} {
		for bits := 0; bits <= widthOf(a); bits++ {
			p := around(a, bits)
			expectRanges(t, "Of", addrset.Of([]api.Prefix{p}), []api.Range{boundsOf(p)})
			expectPrefixes(t, p, addrset.Prefixes([]api.Range{boundsOf(p)}), []api.Prefix{p})
		}
	}
}

// P7.4

func TestContains(t *testing.T) {
	l := slices.Concat(tens(5, 7, 1, 2, 9, 8, 7, 7), ranges(v6(0, 3), v6(1, 3), v4(all4), v4(all4)))
	for n := range uint64(13) {
		if got, want := addrset.Contains(l, ten(n)), n == 1 || n == 2 || n >= 5 && n <= 7; got != want {
			t.Errorf("Contains(%v) = %v", ten(n), got)
		}
		if got := addrset.Contains(l, v6(0, n)); got != (n >= 3) {
			t.Errorf("Contains(%v) = %v", v6(0, n), got)
		}
		if got := addrset.Contains(l, v6(1, n)); got != (n <= 3) {
			t.Errorf("Contains(%v) = %v", v6(1, n), got)
		}
		if addrset.Contains(l, v4(n)) || addrset.Contains(l, v6(10, n)) {
			t.Errorf("Contains of the number %d", n)
		}
	}
	for _, a := range []api.Addr{v4(0), ten(3), v4(all4), v6(0, 0), v6(0, 10<<24), v6(0, all), v6(all, all)} {
		if !addrset.Contains(everything(), a) || !addrset.Contains(ranges(a, a), a) || addrset.Contains(nil, a) || addrset.Contains([]api.Range{}, a) {
			t.Errorf("Contains of %v", a)
		}
		if got := addrset.Contains(ranges(v4(0), v4(all4)), a); got != !a.V6 {
			t.Errorf("the IPv4 addresses contain %v: %v", a, got)
		}
		if got := addrset.Contains(ranges(v6(0, 0), v6(all, all)), a); got != a.V6 {
			t.Errorf("the IPv6 addresses contain %v: %v", a, got)
		}
		if addrset.Contains(ranges(v4(0), v6(all, all), v6(0, 0), v4(all4)), a) {
			t.Errorf("a range with two families contains %v", a)
		}
	}
}

func TestContainsOfInvalidValues(t *testing.T) {
	for _, a := range invalidAddrs() {
		for _, l := range [][]api.Range{everything(), ranges(a, a), ranges(v4(0), a), ranges(a, v4(all4)), ranges(v4(0), api.Addr{Hi: all, Lo: all}), ranges(a, v6(all, all)), nil} {
			if addrset.Contains(l, a) {
				t.Errorf("Contains(%v, %v), which is not an address", l, a)
			}
			if len(l) == 1 && l[0].Lo.V6 == l[0].Hi.V6 && addrset.Contains(l, ten(1)) {
				t.Errorf("Contains(%v, %v), though an end is not an address", l, ten(1))
			}
		}
		for _, l := range [][]api.Range{ranges(a, a), ranges(v4(0), a), ranges(a, v4(all4)), ranges(a, v6(all, all)), ranges(v6(0, 0), a)} {
			for _, b := range []api.Addr{v4(0), ten(1), v4(all4), v6(0, 0), v6(1, 10<<24+1), v6(all, all)} {
				if addrset.Contains(l, b) {
					t.Errorf("Contains(%v, %v), though an end is not an address", l, b)
				}
			}
		}
	}
}

// P7.5

func TestUnionIntersectMinus(t *testing.T) {
	four, six := ranges(v4(0), v4(all4)), ranges(v6(0, 0), v6(all, all))
	for _, x := range []struct{ a, b, union, intersect, minus []api.Range }{
		{nil, nil, nil, nil, nil},
		{tens(1, 2), nil, tens(1, 2), nil, tens(1, 2)},
		{nil, tens(1, 2), tens(1, 2), nil, nil},
		{tens(0, 9), tens(3, 3), tens(0, 9), tens(3, 3), tens(0, 2, 4, 9)},
		{tens(3, 3), tens(0, 9), tens(0, 9), tens(3, 3), nil},
		{tens(1, 3), tens(1, 3), tens(1, 3), tens(1, 3), nil},
		{tens(1, 2), tens(3, 4), tens(1, 4), nil, tens(1, 2)},
		{tens(1, 2), tens(4, 5), tens(1, 2, 4, 5), nil, tens(1, 2)},
		{tens(1, 5), tens(4, 8), tens(1, 8), tens(4, 5), tens(1, 3)},
		{tens(4, 8), tens(1, 5), tens(1, 8), tens(4, 5), tens(6, 8)},
		{tens(1, 5), tens(5, 8), tens(1, 8), tens(5, 5), tens(1, 4)},
		{tens(1, 9), tens(1, 3), tens(1, 9), tens(1, 3), tens(4, 9)},
		{tens(1, 9), tens(7, 9), tens(1, 9), tens(7, 9), tens(1, 6)},
		{tens(0, 0, 2, 2, 4, 4), tens(1, 1, 3, 3), tens(0, 4), nil, tens(0, 0, 2, 2, 4, 4)},
		{tens(0, 3, 5, 8), tens(2, 6), tens(0, 8), tens(2, 3, 5, 6), tens(0, 1, 7, 8)},
		{tens(2, 6), tens(5, 8, 0, 3), tens(0, 8), tens(2, 3, 5, 6), tens(4, 4)},
		{tens(0, 20), tens(7, 7, 3, 3, 11, 12, 5, 5), tens(0, 20), tens(3, 3, 5, 5, 7, 7, 11, 12), tens(0, 2, 4, 4, 6, 6, 8, 10, 13, 20)},
		{tens(2, 1), tens(9, 8), nil, nil, nil},
		{everything(), nil, everything(), nil, everything()},
		{nil, everything(), everything(), nil, nil},
		{everything(), everything(), everything(), everything(), nil},
		{everything(), four, everything(), four, six},
		{everything(), six, everything(), six, four},
		{four, six, everything(), nil, four},
		{six, four, everything(), nil, six},
		{everything(), ranges(v4(0), v4(0), v6(all, all), v6(all, all)), everything(), ranges(v4(0), v4(0), v6(all, all), v6(all, all)), ranges(v4(1), v4(all4), v6(0, 0), v6(all, all-1))},
		{everything(), ranges(v4(all4), v4(all4), v6(0, 0), v6(0, 0)), everything(), ranges(v4(all4), v4(all4), v6(0, 0), v6(0, 0)), ranges(v4(0), v4(all4-1), v6(0, 1), v6(all, all))},
		{six, ranges(v6(4, 0), v6(4, all)), six, ranges(v6(4, 0), v6(4, all)), ranges(v6(0, 0), v6(3, all), v6(5, 0), v6(all, all))},
		{tens(3, 4), ranges(v6(0, 10<<24), v6(0, 10<<24+9)), ranges(ten(3), ten(4), v6(0, 10<<24), v6(0, 10<<24+9)), nil, tens(3, 4)},
		{tens(3, 4), ranges(v4(0), v6(0, 0), v6(0, 0), v4(all4)), tens(3, 4), nil, tens(3, 4)},
		{tens(3, 4), ranges(api.Addr{}, api.Addr{Hi: 1}, api.Addr{Hi: 1}, v6(all, all)), tens(3, 4), nil, tens(3, 4)},
	} {
		expectRanges(t, "Union", addrset.Union(x.a, x.b), x.union)
		expectRanges(t, "Intersect", addrset.Intersect(x.a, x.b), x.intersect)
		expectRanges(t, "Minus", addrset.Minus(x.a, x.b), x.minus)
	}
}

// P7.6

func TestSubset(t *testing.T) {
	four, six := ranges(v4(0), v4(all4)), ranges(v6(0, 0), v6(all, all))
	for _, x := range []struct {
		a, b []api.Range
		want bool
	}{
		{nil, nil, true}, {nil, tens(1, 2), true}, {tens(1, 2), nil, false}, {tens(2, 1), nil, true}, {tens(2, 1), tens(9, 8), true}, {tens(2, 2), tens(9, 0), false},
		{tens(1, 2), tens(1, 2), true}, {tens(1, 2), tens(0, 3), true}, {tens(0, 2), tens(1, 3), false}, {tens(1, 4), tens(1, 3), false}, {tens(0, 3), tens(1, 3), false},
		{tens(1, 4), tens(3, 4, 1, 2), true}, {tens(1, 5), tens(4, 5, 1, 2), false}, {tens(1, 1, 5, 5), tens(4, 5, 1, 2), true}, {tens(1, 1, 3, 3), tens(4, 5, 1, 2), false},
		{tens(3, 5, 4, 9, 3, 3), tens(3, 9), true}, {everything(), everything(), true}, {four, everything(), true}, {six, everything(), true},
		{everything(), four, false}, {everything(), six, false}, {everything(), slices.Concat(six, four), true}, {four, six, false}, {six, four, false},
		{tens(1, 1), six, false}, {ranges(v6(0, 10<<24), v6(0, 10<<24)), four, false},
		{four, ranges(v4(0), v4(all4-1)), false}, {four, ranges(v4(1), v4(all4)), false}, {six, ranges(v6(0, 0), v6(all, all-1)), false}, {six, ranges(v6(0, 1), v6(all, all)), false},
		{six, ranges(v6(1, 0), v6(all, all), v6(0, 0), v6(0, all)), true}, {six, ranges(v6(1, 1), v6(all, all), v6(0, 0), v6(0, all)), false},
		{ranges(v4(0), v6(0, 0)), nil, true}, {ranges(v4(0), api.Addr{Hi: 1}), nil, true}, {tens(3, 3), ranges(v4(0), v6(0, 0)), false}, {tens(3, 3), ranges(v4(0), api.Addr{Lo: all}), false},
	} {
		if got := addrset.Subset(x.a, x.b); got != x.want {
			t.Errorf("Subset(%v, %v) = %v", x.a, x.b, got)
		}
	}
}

// P7.5, P7.6, P7.9

func TestEveryPairOfShortLists(t *testing.T) {
	for _, start := range []int{3, 6} {
		window := windows()[start]
		var l [][]api.Range
		eachList(1, append(window[:5:5], invalidAddrs()[0]), func(x []api.Range) { l = append(l, x) })
		eachList(2, window[1:4], func(x []api.Range) { l = append(l, x) })
		for _, a := range l {
			for _, b := range l {
				expectTwo(t, a, b)
			}
		}
	}
}

// subsetOf returns the set of the addresses of a window that have their bits in mask.
func subsetOf(window []api.Addr, mask int) []api.Range {
	var set []api.Range
	for k, a := range window {
		if mask>>k&1 == 0 {
			continue
		}
		if k == 0 || mask>>(k-1)&1 == 0 || window[k-1].V6 != a.V6 {
			set = append(set, api.Range{Lo: a})
		}
		set[len(set)-1].Hi = a
	}
	return set
}

func TestSetsAsBits(t *testing.T) {
	for _, window := range windows() {
		for a := range 128 {
			x := subsetOf(window, a)
			if !addrset.Valid(x) {
				t.Fatalf("%v is a set", x)
			}
			for b := range 128 {
				y := subsetOf(window, b)
				expectRanges(t, "Union", addrset.Union(x, y), subsetOf(window, a|b))
				expectRanges(t, "Intersect", addrset.Intersect(x, y), subsetOf(window, a&b))
				expectRanges(t, "Minus", addrset.Minus(x, y), subsetOf(window, a&^b))
				if got := addrset.Subset(x, y); got != (a&^b == 0) {
					t.Fatalf("Subset(%v, %v) = %v", x, y, got)
				}
			}
		}
	}
}

func TestPairsOfMixedLists(t *testing.T) {
	r := source(79)
	for range 5000 {
		expectTwo(t, someList(r, 8), someList(r, 8))
	}
}

// P7.7

func TestPrefixes(t *testing.T) {
	for _, x := range []struct {
		l    []api.Range
		want []api.Prefix
	}{
		{tens(1, 4), []api.Prefix{prefix(ten(1), 32), prefix(ten(2), 31), prefix(ten(4), 32)}},
		{tens(4, 4, 1, 1, 2, 3), []api.Prefix{prefix(ten(1), 32), prefix(ten(2), 31), prefix(ten(4), 32)}},
		{nil, nil},
		{[]api.Range{}, nil},
		{tens(3, 2), nil},
		{everything(), []api.Prefix{prefix(v4(0), 0), prefix(v6(0, 0), 0)}},
		{tens(7, 7), []api.Prefix{prefix(ten(7), 32)}},
		{tens(0, 1), []api.Prefix{prefix(ten(0), 31)}},
		{tens(1, 2), []api.Prefix{prefix(ten(1), 32), prefix(ten(2), 32)}},
		{tens(4, 5, 8, 9), []api.Prefix{prefix(ten(4), 31), prefix(ten(8), 31)}},
		{tens(4, 5, 6, 7), []api.Prefix{prefix(ten(4), 30)}},
		{tens(6, 7, 8, 9), []api.Prefix{prefix(ten(6), 31), prefix(ten(8), 31)}},
		{ranges(v4(all4), v4(all4), v6(0, 0), v6(0, 0)), []api.Prefix{prefix(v4(all4), 32), prefix(v6(0, 0), 128)}},
		{ranges(v6(0, 0), v6(0, 0), v4(all4-1), v4(all4)), []api.Prefix{prefix(v4(all4-1), 31), prefix(v6(0, 0), 128)}},
		{ranges(v4(0), v4(all4-1)), fourWithoutTheLast()},
		{ranges(v6(all, all), v6(all, all)), []api.Prefix{prefix(v6(all, all), 128)}},
		{ranges(v6(0, 1<<63), v6(1, 1<<63-1)), []api.Prefix{prefix(v6(0, 1<<63), 65), prefix(v6(1, 0), 65)}},
		{ranges(v6(0, 1<<63), v6(1, all)), []api.Prefix{prefix(v6(0, 1<<63), 65), prefix(v6(1, 0), 64)}},
		{ranges(v6(2, 0), v6(3, all)), []api.Prefix{prefix(v6(2, 0), 63)}},
		{ranges(v4(0), v6(0, 0), v6(0, 0), v4(all4)), nil},
		{ranges(api.Addr{Hi: 1}, api.Addr{Hi: 1}, v4(0), api.Addr{Lo: 1 << 32}, ten(2), ten(2)), []api.Prefix{prefix(ten(2), 32)}},
	} {
		expectPrefixes(t, x.l, addrset.Prefixes(x.l), x.want)
	}
}

// fourWithoutTheLast are the prefixes of all IPv4 addresses but the last one.
func fourWithoutTheLast() []api.Prefix {
	var l []api.Prefix
	for bits := 1; bits <= 32; bits++ {
		l = append(l, around(v4(all4<<(33-bits)&all4), bits))
	}
	return l
}

// tree returns a prefix and its parts of one eighth or more, each with the bits of the eighths that it contains.
func tree(whole api.Prefix) map[api.Prefix]int {
	masks := map[api.Prefix]int{}
	for level := range 4 {
		part := prefix(whole.Addr, whole.Bits+level)
		for k := range 1 << level {
			n := new(big.Int).Mul(sizeOf(part), big.NewInt(int64(k)))
			n.Add(n, numberOf(whole.Addr))
			eighths := 8 >> level
			masks[prefix(addrOf(whole.Addr.V6, n), part.Bits)] = (1<<eighths - 1) << (k * eighths)
		}
	}
	return masks
}

// fewest returns, for each set of eighths of a prefix, all lists of the fewest of its parts that are that set together.
func fewest(whole api.Prefix) (parts []api.Prefix, lists [256][][]api.Prefix) {
	masks := tree(whole)
	for p := range masks {
		parts = append(parts, p)
	}
	slices.SortFunc(parts, func(x, y api.Prefix) int {
		if x.Addr != y.Addr {
			return compare(x.Addr, y.Addr)
		}
		return x.Bits - y.Bits
	})
	for choice := range 1 << len(parts) {
		var l []api.Prefix
		mask := 0
		for k, p := range parts {
			if choice>>k&1 == 1 {
				l = append(l, p)
				mask |= masks[p]
			}
		}
		if old := lists[mask]; len(old) == 0 || len(l) < len(old[0]) {
			lists[mask] = [][]api.Prefix{l}
		} else if len(l) == len(old[0]) {
			lists[mask] = append(old, l)
		}
	}
	return parts, lists
}

func TestPrefixesAreTheFewest(t *testing.T) {
	r := source(77)
	for _, whole := range []api.Prefix{prefix(v4(0), 29), prefix(ten(0), 29), prefix(ten(248), 29), prefix(v4(all4-7), 29), prefix(ten(0), 16), prefix(v4(0), 0), prefix(v4(1<<31), 1),
		prefix(v6(0, 0), 125), prefix(v6(all, all-7), 125), prefix(v6(0, all-7), 125), prefix(v6(0, 0), 0), prefix(v6(8, 0), 61), prefix(v6(4, 0), 62), prefix(v6(6, 0), 63), prefix(v6(5, 0), 64), prefix(v6(5, 1<<63), 65)} {
		parts, lists := fewest(whole)
		for mask, want := range lists {
			if len(want) != 1 {
				t.Fatalf("%d lists of the fewest prefixes for %b in %v", len(want), mask, whole)
			}
			var l []api.Range
			for _, p := range parts {
				if p.Bits == whole.Bits+3 && has(rangesOf(want[0]), p.Addr) {
					l = append(l, boundsOf(p))
				}
			}
			r.Shuffle(len(l), func(x, y int) { l[x], l[y] = l[y], l[x] })
			expectPrefixes(t, l, addrset.Prefixes(l), want[0])
		}
	}
}

// single returns n ranges of one address each that do not touch, the first of which is a.
func single(a api.Addr, n int) []api.Range {
	var l []api.Range
	for k := range n {
		b := a
		b.Lo += 2 * uint64(k)
		l = append(l, api.Range{Lo: b, Hi: b})
	}
	return l
}

func TestTheNumberOfPrefixesIsLimited(t *testing.T) {
	for _, a := range []api.Addr{v4(0), ten(1), v4(all4 - 4000), v6(0, 0), v6(0, all4-200), v6(all, all-4000)} {
		for _, n := range []int{1, 2, 255, 256, 257, 258, 512, 2000} {
			var want []api.Prefix
			if n <= 256 {
				for _, x := range single(a, n) {
					want = append(want, prefix(x.Lo, widthOf(x.Lo)))
				}
			}
			expectPrefixes(t, n, addrset.Prefixes(single(a, n)), want)
		}
	}
	inner := ranges(v6(0, 1), v6(all, all-1))
	for _, x := range []struct {
		l    []api.Range
		want int
	}{
		{ranges(v4(1), v4(all4-1)), 62},
		{inner, 254},
		{slices.Concat(inner, single(ten(0), 2)), 256},
		{slices.Concat(inner, tens(1, 2)), 256},
		{slices.Concat(inner, single(ten(0), 3)), 0},
		{slices.Concat(inner, tens(1, 4)), 0},
		{slices.Concat(single(ten(0), 254), tens(1001, 1002)), 256},
		{slices.Concat(single(ten(0), 255), tens(1001, 1002)), 0},
		{slices.Concat(tens(1001, 1002), single(v6(0, 0), 255)), 0},
		{slices.Concat(single(ten(0), 128), single(v6(0, 0), 128)), 256},
		{slices.Concat(single(ten(0), 128), single(v6(0, 0), 129)), 0},
		{slices.Concat(single(ten(0), 256), single(ten(0), 256), single(ten(100), 50)), 256},
		{slices.Concat(single(ten(0), 512), single(ten(1), 512)), 1},
		{slices.Concat(single(ten(0), 300), tens(0, 500)), 6 + 50},
	} {
		if got := len(addrset.Prefixes(x.l)); got != x.want {
			t.Errorf("%d ranges have %d prefixes, want %d", len(x.l), got, x.want)
		}
	}
}

// greedy returns the prefixes of a set: each one is the greatest that begins where the one before it ends.
func greedy(set []api.Range) []api.Prefix {
	var l []api.Prefix
	for _, r := range set {
		from, end := numberOf(r.Lo), numberOf(r.Hi)
		for from.Cmp(end) <= 0 {
			left := new(big.Int).Sub(end, from)
			free := left.Add(left, big.NewInt(1)).BitLen() - 1
			if from.Sign() != 0 {
				free = min(free, int(from.TrailingZeroBits()))
			}
			p := prefix(addrOf(r.Lo.V6, from), widthOf(r.Lo)-free)
			l = append(l, p)
			from.Add(from, sizeOf(p))
		}
	}
	return l
}

// P7.7, P7.10

func expectPrefixesOf(t *testing.T, l []api.Range) {
	t.Helper()
	set := addrset.Normal(l)
	want := greedy(set)
	isMany := len(want) > 256
	if isMany {
		want = nil
	}
	got := addrset.Prefixes(l)
	if !slices.Equal(got, want) {
		t.Fatalf("Prefixes(%v) = %v, want %v", l, got, want)
	}
	if of := addrset.Of(got); !isMany && !slices.Equal(of, set) {
		t.Fatalf("Of(%v) = %v, want %v", got, of, set)
	}
}

func TestOfOfPrefixes(t *testing.T) {
	eachList(2, windows()[3], func(l []api.Range) { expectPrefixesOf(t, l) })
	r := source(710)
	for range 5000 {
		expectPrefixesOf(t, someList(r, 8))
	}
	for _, v6 := range []bool{false, true} {
		width := widthOf(api.Addr{V6: v6})
		for range 3000 {
			n, m := new(big.Int), new(big.Int)
			for k := range width {
				n.SetBit(n, k, uint(r.IntN(2)))
				m.SetBit(m, k, uint(r.IntN(2)))
			}
			// Both ends in a part of the family of any size.
			same := uint(r.IntN(width))
			m.Rsh(m, same).Add(m, n).SetBit(m, width, 0)
			expectPrefixesOf(t, ranges(addrOf(v6, n), addrOf(v6, m)))
		}
	}
}

func TestPrefixesOfOf(t *testing.T) {
	r := source(711)
	for range 5000 {
		l := somePrefixes(r, 9)
		expectPrefixesOf(t, addrset.Of(l))
		if got := addrset.Prefixes(addrset.Of(l)); len(got) > len(l) {
			t.Fatalf("%v are fewer prefixes than %v", l, got)
		}
	}
}

// P7.8

func TestEval(t *testing.T) {
	four, six := prefix(v4(0), 0), prefix(v6(0, 0), 0)
	for _, x := range []struct {
		with, without []api.Prefix
		want          []api.Range
	}{
		{[]api.Prefix{prefix(ten(0), 8)}, []api.Prefix{prefix(ten(1<<16), 16)}, tens(0, 1<<16-1, 2<<16, 1<<24-1)},
		{nil, nil, everything()},
		{[]api.Prefix{}, []api.Prefix{}, everything()},
		{[]api.Prefix{four}, nil, ranges(v4(0), v4(all4))},
		{[]api.Prefix{six}, nil, ranges(v6(0, 0), v6(all, all))},
		{nil, []api.Prefix{four}, ranges(v6(0, 0), v6(all, all))},
		{nil, []api.Prefix{six}, ranges(v4(0), v4(all4))},
		{nil, []api.Prefix{six, four}, nil},
		{nil, []api.Prefix{prefix(v4(0), 1), prefix(v6(all, all), 128)}, ranges(v4(1<<31), v4(all4), v6(0, 0), v6(all, all-1))},
		{[]api.Prefix{prefix(ten(0), 30)}, []api.Prefix{prefix(ten(0), 30)}, nil},
		{[]api.Prefix{prefix(ten(0), 30)}, []api.Prefix{prefix(ten(0), 8)}, nil},
		{[]api.Prefix{prefix(ten(0), 30)}, []api.Prefix{prefix(ten(4), 30)}, tens(0, 3)},
		{[]api.Prefix{prefix(ten(8), 30), prefix(ten(0), 30)}, []api.Prefix{prefix(ten(9), 32), prefix(ten(2), 31)}, tens(0, 1, 8, 8, 10, 11)},
		{[]api.Prefix{prefix(ten(4), 30), prefix(ten(0), 30)}, nil, tens(0, 7)},
		{[]api.Prefix{prefix(ten(0), 30), six}, []api.Prefix{prefix(v6(0, 0), 1)}, ranges(ten(0), ten(3), v6(1<<63, 0), v6(all, all))},
	} {
		expectRanges(t, "Eval", addrset.Eval(x.with, x.without), x.want)
	}
}

func TestEvalOfInvalidPrefixes(t *testing.T) {
	expectRanges(t, "Eval with invalid prefixes only", addrset.Eval(invalidPrefixes(), nil), nil)
	expectRanges(t, "Eval without invalid prefixes", addrset.Eval(nil, invalidPrefixes()), everything())
	for _, p := range invalidPrefixes() {
		expectRanges(t, "Eval with an invalid prefix only", addrset.Eval([]api.Prefix{p}, nil), nil)
		expectRanges(t, "Eval without an invalid prefix", addrset.Eval([]api.Prefix{prefix(ten(0), 30)}, []api.Prefix{p}), tens(0, 3))
		expectRanges(t, "Eval with an invalid prefix and another one", addrset.Eval([]api.Prefix{p, prefix(ten(0), 30)}, []api.Prefix{prefix(ten(0), 31), p}), tens(2, 3))
	}
}

func TestEvalOfMixedPrefixes(t *testing.T) {
	r := source(78)
	for range 5000 {
		with, without := somePrefixes(r, 5), somePrefixes(r, 5)
		in, out := rangesOf(with), rangesOf(without)
		want := setOf(points(in, out), func(a api.Addr) bool { return (len(with) == 0 || has(in, a)) && !has(out, a) })
		if got := addrset.Eval(with, without); !slices.Equal(got, want) {
			t.Fatalf("Eval(%v, %v) = %v, want %v", with, without, got, want)
		}
	}
}

// R1

func TestFunctionsOfInvalidValues(t *testing.T) {
	r := source(1)
	for range 3000 {
		var a, b []api.Range
		var p, q []api.Prefix
		for range r.IntN(6) {
			x := api.Addr{V6: r.IntN(2) == 0, Hi: r.Uint64() >> r.IntN(65), Lo: r.Uint64() >> r.IntN(65)}
			y := api.Addr{V6: r.IntN(2) == 0, Hi: r.Uint64() >> r.IntN(65), Lo: r.Uint64() >> r.IntN(65)}
			a, b = append(a, api.Range{Lo: x, Hi: y}), append(b, api.Range{Lo: y, Hi: x})
			p, q = append(p, prefix(x, int(r.Uint64())>>r.IntN(64))), append(q, prefix(y, r.IntN(130)))
		}
		expectOne(t, a)
		expectTwo(t, a, b)
		expectPrefixesOf(t, a)
		if got := addrset.Eval(p, q); !isSet(got) {
			t.Fatalf("Eval(%v, %v) = %v", p, q, got)
		}
	}
}

func TestLongLists(t *testing.T) {
	const n = 100000
	var even, odd []api.Range
	for k := range uint64(n) {
		even = append(even, tens(4*(n-k), 4*(n-k)+1)...)
		odd = append(odd, tens(4*k+6, 4*k+7)...)
	}
	expectRanges(t, "Union", addrset.Union(even, odd), tens(4, 4*n+3))
	if l := addrset.Minus(odd, even); !slices.Equal(l, odd) {
		t.Errorf("Minus has %d ranges", len(l))
	}
	if l := addrset.Minus(everything(), odd); len(l) != n+2 || !addrset.Valid(l) {
		t.Errorf("Minus of everything has %d ranges", len(l))
	}
	if len(addrset.Intersect(even, odd)) != 0 || addrset.Subset(even, odd) || !addrset.Subset(even, addrset.Normal(even)) || len(addrset.Prefixes(even)) != 0 {
		t.Error("functions of long lists")
	}
}

// R3

func TestArgumentsAreNotModified(t *testing.T) {
	unordered := slices.Concat(tens(5, 7, 1, 2, 9, 8, 3, 3), ranges(v6(0, 0), v6(1, 5), v4(0), v6(0, 0)), tens(20, 30, 31, 32, 40, 41))
	ordered := slices.Concat(tens(1, 2, 4, 5, 7, 9), everything()[1:])
	prefixes := []api.Prefix{prefix(ten(8), 30), prefix(ten(1), 30), prefix(ten(0), 30), prefix(v6(0, 0), 3), prefix(ten(0), 31), prefix(ten(3), 32)}
	for _, whole := range [][]api.Range{unordered, ordered} {
		a, b, p, q := slices.Clone(whole), slices.Clone(whole), slices.Clone(prefixes), slices.Clone(prefixes)
		// The last elements are spare capacity.
		x, y := a[:len(a)-2], b[:len(b)-1]
		addrset.Valid(x)
		addrset.Normal(x)
		addrset.Contains(x, ten(6))
		addrset.Prefixes(x)
		addrset.Subset(x, y)
		for _, op := range operations() {
			op.of(x, y)
			op.of(y, x)
			op.of(x, nil)
			op.of(nil, x)
			op.of(x, x)
		}
		addrset.Of(p[:4])
		addrset.Eval(p[:5], q[:2])
		addrset.Eval(nil, q[:3])
		expectRanges(t, "the first argument", a, whole)
		expectRanges(t, "the second argument", b, whole)
		expectPrefixes(t, "the first argument", p, prefixes)
		expectPrefixes(t, "the second argument", q, prefixes)
	}
}

func TestResultsAreNewMemory(t *testing.T) {
	a, b, p := tens(1, 2, 4, 5), tens(7, 8), []api.Prefix{prefix(ten(0), 8)}
	results := map[string]func() []api.Range{
		"Normal": func() []api.Range { return addrset.Normal(a) },
		"All":    addrset.All,
		"Of":     func() []api.Range { return addrset.Of(p) },
		"Eval":   func() []api.Range { return addrset.Eval(nil, nil) },
	}
	for _, op := range operations() {
		results[op.name+" with a list"] = func() []api.Range { return op.of(a, b) }
		results[op.name+" with nothing"] = func() []api.Range { return op.of(a, nil) }
		results[op.name+" with itself"] = func() []api.Range { return op.of(b, b) }
	}
	for name, result := range results {
		first := result()
		want := slices.Clone(first)
		second := result()
		clear(first[:cap(first)])
		expectRanges(t, name+" after a change of another result", second, want)
		expectRanges(t, name+" again", result(), want)
	}
	clear(addrset.Prefixes(a))
	expectRanges(t, "the first argument", a, tens(1, 2, 4, 5))
	expectRanges(t, "the second argument", b, tens(7, 8))
	expectPrefixes(t, "the prefixes", p, []api.Prefix{prefix(ten(0), 8)})
}
