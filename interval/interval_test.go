package interval_test

import (
	"math"
	"math/rand/v2"
	"slices"
	"testing"

	"intrusion/api"
	"intrusion/interval"
)

// everything is the number of integers from 0 to MaxNumber.
const everything = api.MaxNumber + 1

// source returns pseudo random numbers, the same ones in every run.
func source(seed uint64) *rand.Rand { return rand.New(rand.NewPCG(seed, 0)) }

// list returns the spans with these bounds.
func list(bounds ...int) []api.Span {
	var l []api.Span
	for k := 0; k+1 < len(bounds); k += 2 {
		l = append(l, api.Span{Lo: bounds[k], Hi: bounds[k+1]})
	}
	return l
}

func expectList(t *testing.T, what string, got, want []api.Span) {
	t.Helper()
	if !slices.Equal(got, want) {
		t.Errorf("%s = %v, want %v", what, got, want)
	}
}

// has is the chapter's definition of the numbers of a list.
func has(l []api.Span, n int) bool {
	for _, s := range l {
		if 0 <= n && n <= api.MaxNumber && s.Lo <= n && n <= s.Hi {
			return true
		}
	}
	return false
}

// points are the integers at which being a number of some of the lists can change, and their neighbours.
func points(lists ...[]api.Span) []int {
	l := []int{math.MinInt, math.MaxInt}
	for _, spans := range append(lists, list(0, api.MaxNumber)) {
		for _, s := range spans {
			for _, n := range []int{s.Lo, s.Hi} {
				if n > math.MinInt && n < math.MaxInt {
					l = append(l, n-1, n, n+1)
				}
			}
		}
	}
	slices.Sort(l)
	return slices.Compact(l)
}

// setOf returns the set of the integers that belong, if belongs changes only next to the points.
func setOf(at []int, belongs func(n int) bool) []api.Span {
	var set []api.Span
	for _, n := range at {
		if !belongs(n) {
			continue
		}
		if len(set) == 0 || !belongs(n-1) {
			set = append(set, api.Span{Lo: n})
		}
		set[len(set)-1].Hi = n
	}
	return set
}

// isSet is the chapter's definition of a set.
func isSet(l []api.Span) bool {
	for k, s := range l {
		if s.Lo < 0 || s.Lo > s.Hi || s.Hi > api.MaxNumber || k > 0 && s.Lo-l[k-1].Hi < 2 {
			return false
		}
	}
	return true
}

// sizeOf returns how many numbers a set has.
func sizeOf(set []api.Span) int {
	n := 0
	for _, s := range set {
		n += s.Hi + 1 - s.Lo
	}
	return n
}

// operations are the functions of two lists, with their Boolean combinations.
func operations() []struct {
	name    string
	of      func(a, b []api.Span) []api.Span
	combine func(inA, inB bool) bool
} {
	return []struct {
		name    string
		of      func(a, b []api.Span) []api.Span
		combine func(inA, inB bool) bool
	}{
		{"Union", interval.Union, func(inA, inB bool) bool { return inA || inB }},
		{"Intersect", interval.Intersect, func(inA, inB bool) bool { return inA && inB }},
		{"Minus", interval.Minus, func(inA, inB bool) bool { return inA && !inB }},
	}
}

// expectOne checks the functions of one list against the definitions.
func expectOne(t *testing.T, l []api.Span) {
	t.Helper()
	at := points(l)
	set := setOf(at, func(n int) bool { return has(l, n) })
	if got := interval.Normal(l); !slices.Equal(got, set) {
		t.Fatalf("Normal(%v) = %v, want %v", l, got, set)
	}
	if got, want := interval.Valid(l), slices.Equal(l, set); got != want || want != isSet(l) {
		t.Fatalf("Valid(%v) = %v, want %v", l, got, want)
	}
	if got := interval.Count(l); got != sizeOf(set) {
		t.Fatalf("Count(%v) = %v, want %v", l, got, sizeOf(set))
	}
	for _, n := range at {
		if got := interval.Contains(l, n); got != has(l, n) {
			t.Fatalf("Contains(%v, %v) = %v", l, n, got)
		}
	}
}

// expectTwo checks the functions of two lists against the definitions, and the consequences that the chapter names.
func expectTwo(t *testing.T, a, b []api.Span) {
	t.Helper()
	at := points(a, b)
	for _, x := range operations() {
		set := setOf(at, func(n int) bool { return x.combine(has(a, n), has(b, n)) })
		got := x.of(a, b)
		if !slices.Equal(got, set) || !interval.Valid(got) {
			t.Fatalf("%s(%v, %v) = %v, want %v", x.name, a, b, got, set)
		}
		for _, n := range at {
			if in := x.combine(interval.Contains(a, n), interval.Contains(b, n)); interval.Contains(got, n) != in {
				t.Fatalf("Contains(%s(%v, %v), %v) is not %v", x.name, a, b, n, in)
			}
		}
	}
	subset := !slices.ContainsFunc(at, func(n int) bool { return has(a, n) && !has(b, n) })
	if got := interval.Subset(a, b); got != subset {
		t.Fatalf("Subset(%v, %v) = %v", a, b, got)
	}
	both := interval.Count(interval.Intersect(a, b))
	if interval.Count(interval.Union(a, b))+both != interval.Count(a)+interval.Count(b) {
		t.Fatalf("Count of the union of %v and %v", a, b)
	}
	if interval.Count(interval.Minus(a, b)) != interval.Count(a)-both {
		t.Fatalf("Count(Minus(%v, %v))", a, b)
	}
}

func expectComplement(t *testing.T, l []api.Span, lo, hi int) {
	t.Helper()
	set := setOf(points(l, list(lo, hi)), func(n int) bool { return has(list(lo, hi), n) && !has(l, n) })
	if got := interval.Complement(l, lo, hi); !slices.Equal(got, set) || !interval.Valid(got) {
		t.Fatalf("Complement(%v, %v, %v) = %v, want %v", l, lo, hi, got, set)
	}
}

// eachList calls f with all lists of at most n spans whose bounds are from lo to hi.
func eachList(n, lo, hi int, f func(l []api.Span)) {
	var extend func(l []api.Span)
	extend = func(l []api.Span) {
		f(slices.Clone(l))
		if len(l) == n {
			return
		}
		for x := lo; x <= hi; x++ {
			for y := lo; y <= hi; y++ {
				extend(append(l, api.Span{Lo: x, Hi: y}))
			}
		}
	}
	extend(nil)
}

// someBound returns a bound of a span: near 0, near MaxNumber, in between or extreme.
func someBound(r *rand.Rand) int {
	switch r.IntN(12) {
	case 0, 1, 2, 3:
		return r.IntN(24) - 4
	case 4, 5, 6, 7:
		return api.MaxNumber - 19 + r.IntN(24)
	case 8, 9:
		return r.IntN(everything)
	case 10:
		return math.MinInt + r.IntN(2)
	}
	return math.MaxInt - r.IntN(2)
}

// someList returns a list of at most n spans, most of which are short.
func someList(r *rand.Rand, n int) []api.Span {
	var l []api.Span
	for range r.IntN(n + 1) {
		s := api.Span{Lo: someBound(r)}
		s.Hi = someBound(r)
		if r.IntN(4) > 0 {
			s.Hi = s.Lo + r.IntN(5) - 1
		}
		l = append(l, s)
	}
	return l
}

// P5.1

func TestValid(t *testing.T) {
	for _, l := range [][]api.Span{nil, {}, list(0, 0), list(7, 7), list(0, api.MaxNumber), list(api.MaxNumber, api.MaxNumber),
		list(1, 2, 4, 5), list(0, 0, 2, 2, 4, 4), list(0, api.MaxNumber-2, api.MaxNumber, api.MaxNumber), list(1, 2, 100, 200, 202, 202)} {
		if !interval.Valid(l) {
			t.Errorf("%v is a set", l)
		}
	}
	for _, l := range [][]api.Span{
		list(-1, 3), list(-1, -1), list(-3, -2), list(math.MinInt, 5), list(math.MinInt, math.MaxInt),
		list(0, everything), list(everything, everything), list(0, math.MaxInt), list(math.MaxInt, math.MaxInt),
		list(3, 2), list(1, 0), list(0, -1), list(everything, api.MaxNumber), list(math.MaxInt, math.MinInt),
		list(1, 2, 3, 4), list(1, 2, 2, 4), list(1, 2, 1, 2), list(1, 9, 3, 4), list(4, 5, 1, 2), list(3, 4, 1, 2), list(4, 5, 2, 2),
		list(1, 2, 4, 5, 6, 7), list(1, 2, 4, 5, 0, 0), list(1, 2, 5, 4), list(5, 4, 7, 8), list(1, 2, 9, 8, 11, 12),
		list(1, 2, math.MinInt, 5), list(1, 2, 4, everything), list(0, math.MaxInt, math.MinInt, 4), list(1, math.MaxInt-1, math.MaxInt, math.MaxInt),
	} {
		if interval.Valid(l) {
			t.Errorf("%v is not a set", l)
		}
	}
}

func TestNormal(t *testing.T) {
	for _, x := range []struct{ l, want []api.Span }{
		{list(5, 7, 1, 2, 3, 3, 9, 8), list(1, 3, 5, 7)},
		{nil, nil},
		{[]api.Span{}, nil},
		{list(4, 4), list(4, 4)},
		{list(4, 3), nil},
		{list(4, 3, 2, 1, 0, -1), nil},
		{list(1, 2, 4, 5), list(1, 2, 4, 5)},
		{list(4, 5, 1, 2), list(1, 2, 4, 5)},
		{list(1, 2, 3, 4), list(1, 4)},
		{list(3, 4, 1, 2), list(1, 4)},
		{list(1, 3, 3, 4), list(1, 4)},
		{list(1, 9, 2, 3), list(1, 9)},
		{list(2, 3, 1, 9), list(1, 9)},
		{list(1, 9, 2, 3, 5, 6, 10, 12), list(1, 12)},
		{list(1, 9, 2, 3, 11, 12), list(1, 9, 11, 12)},
		{list(6, 6, 6, 6, 6, 6), list(6, 6)},
		{list(1, 1, 1, 3, 1, 2), list(1, 3)},
		{list(8, 8, 6, 6, 4, 4, 2, 2, 0, 0), list(0, 0, 2, 2, 4, 4, 6, 6, 8, 8)},
		{list(-5, -1), nil},
		{list(-5, 0), list(0, 0)},
		{list(-5, -2, -1, 3), list(0, 3)},
		{list(everything, everything+9), nil},
		{list(api.MaxNumber, everything), list(api.MaxNumber, api.MaxNumber)},
		{list(everything, api.MaxNumber), nil},
		{list(-1, -5), nil},
		{list(math.MinInt, math.MaxInt), list(0, api.MaxNumber)},
		{list(math.MaxInt, math.MinInt), nil},
		{list(math.MaxInt, math.MaxInt, math.MinInt, math.MinInt), nil},
		{list(5, math.MaxInt, 0, 3), list(0, 3, 5, api.MaxNumber)},
		{list(math.MinInt, 3, 5, 5), list(0, 3, 5, 5)},
	} {
		expectList(t, "Normal", interval.Normal(x.l), x.want)
	}
}

func TestFunctionsOfEveryShortList(t *testing.T) {
	eachList(3, -1, 4, func(l []api.Span) { expectOne(t, l) })
	eachList(2, api.MaxNumber-3, api.MaxNumber+2, func(l []api.Span) { expectOne(t, l) })
}

func TestFunctionsOfMixedLists(t *testing.T) {
	r := source(5)
	for range 20000 {
		expectOne(t, someList(r, 9))
	}
}

// P5.2

func TestContains(t *testing.T) {
	l := list(5, 7, 1, 2, 9, 8, 7, 7)
	for n := -3; n <= 12; n++ {
		if got, want := interval.Contains(l, n), n == 1 || n == 2 || n >= 5 && n <= 7; got != want {
			t.Errorf("Contains(%v, %d) = %v", l, n, got)
		}
	}
	all := list(math.MinInt, math.MaxInt)
	for _, n := range []int{0, 1, 1 << 31, api.MaxNumber - 1, api.MaxNumber} {
		if !interval.Contains(all, n) || interval.Contains(nil, n) || interval.Contains(list(math.MaxInt, math.MinInt), n) {
			t.Errorf("Contains of %d", n)
		}
	}
	for _, n := range []int{math.MinInt, -1 << 32, -1, everything, 1 << 40, math.MaxInt} {
		if interval.Contains(all, n) || interval.Contains(list(n, n), n) {
			t.Errorf("%d is not from 0 to MaxNumber", n)
		}
	}
}

func TestCount(t *testing.T) {
	for _, x := range []struct {
		l    []api.Span
		want int
	}{
		{nil, 0}, {list(3, 3), 1}, {list(3, 2), 0}, {list(0, 9), 10}, {list(1, 3, 2, 5), 5}, {list(1, 3, 1, 3), 3}, {list(1, 3, 7, 8), 5}, {list(7, 8, 4, 4, 1, 3), 6},
		{list(-4, 2), 3}, {list(-4, -2), 0}, {list(0, api.MaxNumber), everything}, {list(math.MinInt, math.MaxInt), everything},
		{list(math.MinInt, math.MaxInt, 3, 3, 0, api.MaxNumber), everything}, {list(api.MaxNumber, math.MaxInt), 1}, {list(everything, math.MaxInt), 0},
	} {
		if got := interval.Count(x.l); got != x.want {
			t.Errorf("Count(%v) = %d, want %d", x.l, got, x.want)
		}
	}
}

func TestSubset(t *testing.T) {
	for _, x := range []struct {
		a, b []api.Span
		want bool
	}{
		{nil, nil, true}, {nil, list(1, 2), true}, {list(1, 2), nil, false}, {list(2, 1), nil, true}, {list(-2, -1), nil, true}, {list(everything, everything), list(3, 2), true},
		{list(1, 2), list(1, 2), true}, {list(1, 2), list(0, 3), true}, {list(0, 2), list(1, 3), false}, {list(1, 4), list(1, 3), false}, {list(0, 3), list(1, 3), false},
		{list(1, 4), list(3, 4, 1, 2), true}, {list(1, 5), list(4, 5, 1, 2), false}, {list(1, 1, 5, 5), list(4, 5, 1, 2), true}, {list(1, 1, 3, 3), list(4, 5, 1, 2), false},
		{list(3, 5, 4, 9, 3, 3), list(3, 9), true}, {list(math.MinInt, math.MaxInt), list(0, api.MaxNumber), true}, {list(math.MinInt, math.MaxInt), list(1, api.MaxNumber), false},
		{list(math.MinInt, math.MaxInt), list(0, api.MaxNumber-1), false},
	} {
		if got := interval.Subset(x.a, x.b); got != x.want {
			t.Errorf("Subset(%v, %v) = %v", x.a, x.b, got)
		}
	}
}

// P5.3

func TestUnionIntersectMinus(t *testing.T) {
	for _, x := range []struct{ a, b, union, intersect, minus []api.Span }{
		{nil, nil, nil, nil, nil},
		{list(1, 2), nil, list(1, 2), nil, list(1, 2)},
		{nil, list(1, 2), list(1, 2), nil, nil},
		{list(0, 9), list(3, 3), list(0, 9), list(3, 3), list(0, 2, 4, 9)},
		{list(3, 3), list(0, 9), list(0, 9), list(3, 3), nil},
		{list(1, 3), list(1, 3), list(1, 3), list(1, 3), nil},
		{list(1, 2), list(3, 4), list(1, 4), nil, list(1, 2)},
		{list(1, 2), list(4, 5), list(1, 2, 4, 5), nil, list(1, 2)},
		{list(1, 5), list(4, 8), list(1, 8), list(4, 5), list(1, 3)},
		{list(4, 8), list(1, 5), list(1, 8), list(4, 5), list(6, 8)},
		{list(1, 5), list(5, 8), list(1, 8), list(5, 5), list(1, 4)},
		{list(1, 9), list(1, 3), list(1, 9), list(1, 3), list(4, 9)},
		{list(1, 9), list(7, 9), list(1, 9), list(7, 9), list(1, 6)},
		{list(0, 0, 2, 2, 4, 4), list(1, 1, 3, 3), list(0, 4), nil, list(0, 0, 2, 2, 4, 4)},
		{list(0, 3, 5, 8), list(2, 6), list(0, 8), list(2, 3, 5, 6), list(0, 1, 7, 8)},
		{list(5, 8, 0, 3), list(2, 6), list(0, 8), list(2, 3, 5, 6), list(0, 1, 7, 8)},
		{list(2, 6), list(5, 8, 0, 3), list(0, 8), list(2, 3, 5, 6), list(4, 4)},
		{list(2, 1, -9, -1), list(9, 8, everything, everything), nil, nil, nil},
		{list(math.MinInt, math.MaxInt), list(5, 5), list(0, api.MaxNumber), list(5, 5), list(0, 4, 6, api.MaxNumber)},
		{list(5, 5), list(math.MinInt, math.MaxInt), list(0, api.MaxNumber), list(5, 5), nil},
		{list(0, api.MaxNumber), list(0, 0, api.MaxNumber, api.MaxNumber), list(0, api.MaxNumber), list(0, 0, api.MaxNumber, api.MaxNumber), list(1, api.MaxNumber-1)},
		{list(-9, 3), list(-9, 1), list(0, 3), list(0, 1), list(2, 3)},
	} {
		expectList(t, "Union", interval.Union(x.a, x.b), x.union)
		expectList(t, "Intersect", interval.Intersect(x.a, x.b), x.intersect)
		expectList(t, "Minus", interval.Minus(x.a, x.b), x.minus)
	}
}

func TestComplement(t *testing.T) {
	for _, x := range []struct {
		l      []api.Span
		lo, hi int
		want   []api.Span
	}{
		{list(3, 5), 0, 9, list(0, 2, 6, 9)},
		{nil, 0, 9, list(0, 9)},
		{nil, 4, 4, list(4, 4)},
		{nil, 5, 4, nil},
		{list(3, 5), 3, 5, nil},
		{list(3, 5), 4, 4, nil},
		{list(3, 5), 2, 5, list(2, 2)},
		{list(3, 5), 3, 6, list(6, 6)},
		{list(3, 5), 5, 7, list(6, 7)},
		{list(3, 5), 7, 9, list(7, 9)},
		{list(7, 8, 1, 2, 9, 8), 0, 9, list(0, 0, 3, 6, 9, 9)},
		{list(3, 5), 9, 0, nil},
		{nil, -5, -1, nil},
		{nil, -5, 2, list(0, 2)},
		{nil, everything, math.MaxInt, nil},
		{nil, api.MaxNumber, math.MaxInt, list(api.MaxNumber, api.MaxNumber)},
		{nil, math.MinInt, math.MaxInt, list(0, api.MaxNumber)},
		{nil, math.MaxInt, math.MinInt, nil},
		{list(0, api.MaxNumber), math.MinInt, math.MaxInt, nil},
		{list(-7, -3, everything, everything), math.MinInt, math.MaxInt, list(0, api.MaxNumber)},
		{list(0, 0, api.MaxNumber, api.MaxNumber), math.MinInt, math.MaxInt, list(1, api.MaxNumber-1)},
		{list(math.MinInt, 3, api.MaxNumber-3, math.MaxInt), 0, api.MaxNumber, list(4, api.MaxNumber-4)},
	} {
		expectList(t, "Complement", interval.Complement(x.l, x.lo, x.hi), x.want)
	}
}

func TestComplementOfEveryShortList(t *testing.T) {
	eachList(2, -1, 3, func(l []api.Span) {
		for lo := -2; lo <= 5; lo++ {
			for hi := -2; hi <= 5; hi++ {
				expectComplement(t, l, lo, hi)
			}
		}
	})
}

func TestComplementOfMixedLists(t *testing.T) {
	r := source(53)
	for range 10000 {
		expectComplement(t, someList(r, 8), someBound(r), someBound(r))
	}
}

// P5.4, P5.5

func TestEveryPairOfShortLists(t *testing.T) {
	var l [][]api.Span
	eachList(2, -1, 2, func(x []api.Span) { l = append(l, x) })
	for _, a := range l {
		for _, b := range l {
			expectTwo(t, a, b)
		}
	}
}

// subsetAt returns the set of the numbers of the bits of mask, the lowest of which is base.
func subsetAt(base, mask int) []api.Span {
	var l []api.Span
	for k := range 7 {
		if mask>>k&1 == 1 {
			l = append(l, api.Span{Lo: base + k, Hi: base + k})
		}
	}
	return interval.Normal(l)
}

func TestSetsAsBits(t *testing.T) {
	for _, base := range []int{0, 1, 65530, api.MaxNumber - 6} {
		for a := range 128 {
			x := subsetAt(base, a)
			expectList(t, "Complement", interval.Complement(x, base, base+6), subsetAt(base, 127&^a))
			expectList(t, "Normal of a set", interval.Normal(x), x)
			for b := range 128 {
				y := subsetAt(base, b)
				expectList(t, "Union", interval.Union(x, y), subsetAt(base, a|b))
				expectList(t, "Intersect", interval.Intersect(x, y), subsetAt(base, a&b))
				expectList(t, "Minus", interval.Minus(x, y), subsetAt(base, a&^b))
				if got := interval.Subset(x, y); got != (a&^b == 0) {
					t.Errorf("Subset(%v, %v) = %v", x, y, got)
				}
			}
		}
	}
}

func TestPairsOfMixedLists(t *testing.T) {
	r := source(54)
	for range 10000 {
		expectTwo(t, someList(r, 8), someList(r, 8))
	}
}

// P5.6

func TestSetsWithTheSameNumbersAreEqual(t *testing.T) {
	r := source(56)
	for range 10000 {
		l := someList(r, 8)
		set := interval.Normal(l)
		shuffled := slices.Concat(l, set)
		r.Shuffle(len(shuffled), func(x, y int) { shuffled[x], shuffled[y] = shuffled[y], shuffled[x] })
		expectList(t, "Normal of a set", interval.Normal(set), set)
		expectList(t, "Normal of a shuffled list", interval.Normal(shuffled), set)
		expectList(t, "Union with itself", interval.Union(shuffled, l), set)
		expectList(t, "Intersect with itself", interval.Intersect(l, shuffled), set)
		expectList(t, "Minus of nothing", interval.Minus(shuffled, nil), set)
		expectList(t, "Complement of the complement", interval.Complement(interval.Complement(l, 0, api.MaxNumber), 0, api.MaxNumber), set)
		if n := len(interval.Minus(l, shuffled)); n != 0 {
			t.Errorf("Minus of %v and a list of its numbers has %d spans", l, n)
		}
	}
}

// R3

func TestArgumentsAreNotModified(t *testing.T) {
	unordered := list(5, 7, 1, 2, 9, 8, -3, 3, 20, everything, 30, 31, 32, 40)
	ordered := list(1, 2, 4, 5, 7, 9)
	for _, whole := range [][]api.Span{unordered, ordered} {
		a, b := slices.Clone(whole), slices.Clone(whole)
		// The last spans are spare capacity.
		x, y := a[:len(a)-2], b[:len(b)-1]
		interval.Valid(x)
		interval.Normal(x)
		interval.Contains(x, 6)
		interval.Complement(x, -1, 50)
		interval.Count(x)
		interval.Subset(x, y)
		for _, op := range operations() {
			op.of(x, y)
			op.of(y, x)
			op.of(x, nil)
			op.of(x, x)
		}
		expectList(t, "the first argument", a, whole)
		expectList(t, "the second argument", b, whole)
	}
}

func TestResultsAreNewMemory(t *testing.T) {
	a, b := list(1, 2, 4, 5), list(7, 8)
	results := map[string]func() []api.Span{
		"Normal":     func() []api.Span { return interval.Normal(a) },
		"Complement": func() []api.Span { return interval.Complement(nil, 1, 5) },
	}
	for _, op := range operations() {
		results[op.name+" with a list"] = func() []api.Span { return op.of(a, b) }
		results[op.name+" with nothing"] = func() []api.Span { return op.of(a, nil) }
		results[op.name+" with itself"] = func() []api.Span { return op.of(b, b) }
	}
	for name, result := range results {
		first := result()
		want := slices.Clone(first)
		second := result()
		clear(first[:cap(first)])
		expectList(t, name+" after a change of another result", second, want)
		expectList(t, name+" again", result(), want)
	}
	expectList(t, "the first argument", a, list(1, 2, 4, 5))
	expectList(t, "the second argument", b, list(7, 8))
}

// R1

func TestLongLists(t *testing.T) {
	const n = 100000
	var even, odd []api.Span
	for k := range n {
		even = append(even, api.Span{Lo: 4 * (n - k), Hi: 4*(n-k) + 1})
		odd = append(odd, api.Span{Lo: 4*k + 6, Hi: 4*k + 7})
	}
	expectList(t, "Union", interval.Union(even, odd), list(4, 4*n+3))
	if l := interval.Minus(odd, even); len(l) != n || !slices.Equal(l, odd) {
		t.Errorf("Minus has %d spans", len(l))
	}
	if len(interval.Intersect(even, odd)) != 0 || interval.Count(even) != 2*n || interval.Subset(even, odd) || !interval.Subset(even, interval.Normal(even)) {
		t.Error("functions of long lists")
	}
}
