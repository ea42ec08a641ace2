package portset_test

import (
	"math"
	"math/big"
	"math/rand/v2"
	"regexp"
	"slices"
	"strconv"
	"strings"
	"testing"

	"intrusion/api"
	"intrusion/interval"
	"intrusion/portset"
)

const last = 65535

// source returns pseudo random numbers, the same ones in every run.
func source(seed uint64) *rand.Rand { return rand.New(rand.NewPCG(seed, 0)) }

// list returns the spans with these bounds.
func list(bounds ...int) []api.Span {
	var l []api.Span
	for k := 0; k+1 < len(bounds); k += 2 {
		l = append(l, api.Span{Lo: bounds[k], Hi: bounds[k+1]})
	}
	return l
}

func expectList(t *testing.T, what string, got, want []api.Span) {
	t.Helper()
	if !slices.Equal(got, want) {
		t.Errorf("%s = %v, want %v", what, got, want)
	}
}

func expectParse(t *testing.T, s string, want []api.Span) {
	t.Helper()
	if got, err := portset.Parse(s); err != api.OK || !slices.Equal(got, want) {
		t.Errorf("Parse(%q) = %v, %v, want %v", s, got, err, want)
	}
}

func expectError(t *testing.T, s string, want api.Errno) {
	t.Helper()
	if got, err := portset.Parse(s); err != want || len(got) > 0 {
		t.Errorf("Parse(%q) = %v, %v, want %v", s, got, err, want)
	}
}

// has is the chapter's definition of the ports of a list.
func has(l []api.Span, n int) bool {
	for _, s := range l {
		if 0 <= n && n <= last && s.Lo <= n && n <= s.Hi {
			return true
		}
	}
	return false
}

// setOf returns the set of the ports that belong, if belongs changes only at bounds of the lists.
func setOf(belongs func(n int) bool, lists ...[]api.Span) []api.Span {
	at := []int{0, last}
	for _, l := range lists {
		for _, s := range l {
			for _, n := range []int{s.Lo, s.Hi} {
				if n >= -1 && n <= last+1 {
					at = append(at, max(n-1, 0), min(max(n, 0), last), min(n+1, last))
				}
			}
		}
	}
	slices.Sort(at)
	var set []api.Span
	for _, n := range slices.Compact(at) {
		if !belongs(n) {
			continue
		}
		if len(set) == 0 || n == 0 || !belongs(n-1) {
			set = append(set, api.Span{Lo: n})
		}
		set[len(set)-1].Hi = n
	}
	return set
}

// someBound returns a bound of a span: near 0, near the last port, in between, or no port.
func someBound(r *rand.Rand) int {
	switch r.IntN(12) {
	case 0, 1, 2, 3:
		return r.IntN(24) - 4
	case 4, 5, 6, 7:
		return last - 19 + r.IntN(24)
	case 8, 9:
		return r.IntN(last + 1)
	case 10:
		return api.MaxNumber - 2 + r.IntN(5)
	}
	return []int{math.MinInt, math.MinInt + 1, -1, last + 1, math.MaxInt - 1, math.MaxInt}[r.IntN(6)]
}

// someList returns a list of at most n spans, most of which are short.
func someList(r *rand.Rand, n int) []api.Span {
	var l []api.Span
	for range r.IntN(n + 1) {
		s := api.Span{Lo: someBound(r)}
		s.Hi = someBound(r)
		if r.IntN(4) > 0 {
			s.Hi = s.Lo + r.IntN(5) - 1
		}
		l = append(l, s)
	}
	return l
}

// eachList calls f with all lists of at most n spans whose bounds are among these.
func eachList(n int, bounds []int, f func(l []api.Span)) {
	var extend func(l []api.Span)
	extend = func(l []api.Span) {
		f(slices.Clone(l))
		if len(l) == n {
			return
		}
		for _, x := range bounds {
			for _, y := range bounds {
				extend(append(l, api.Span{Lo: x, Hi: y}))
			}
		}
	}
	extend(nil)
}

// parts is the chapter's definition of a part of a text: a !, or not, and one of the four kinds of items.
var parts = regexp.MustCompile(`^(!?)(?:(0|[1-9][0-9]*)|(0|[1-9][0-9]*):(0|[1-9][0-9]*)|(0|[1-9][0-9]*):|:(0|[1-9][0-9]*))$`)

// parsed is the chapter's definition of Parse.
func parsed(s string) ([]api.Span, api.Errno) {
	if len(s) > 1024 || strings.Count(s, ",") >= 64 {
		return nil, api.ErrLong
	}
	if s == "any" {
		return list(0, last), api.OK
	}
	var with, without []api.Span
	for _, part := range strings.Split(s, ",") {
		m := parts.FindStringSubmatch(part)
		if m == nil {
			return nil, api.ErrSyntax
		}
		lo, hi := big.NewInt(0), big.NewInt(last)
		for _, digits := range []string{m[2], m[3], m[5]} {
			if digits != "" {
				lo.SetString(digits, 10)
			}
		}
		for _, digits := range []string{m[2], m[4], m[6]} {
			if digits != "" {
				hi.SetString(digits, 10)
			}
		}
		if lo.Cmp(big.NewInt(last)) > 0 || hi.Cmp(big.NewInt(last)) > 0 || lo.Cmp(hi) > 0 {
			return nil, api.ErrRange
		}
		span := list(int(lo.Int64()), int(hi.Int64()))
		if m[1] == "!" {
			without = append(without, span...)
		} else {
			with = append(with, span...)
		}
	}
	if with == nil {
		with = list(0, last)
	}
	return setOf(func(n int) bool { return has(with, n) && !has(without, n) }, with, without), api.OK
}

func expectParsed(t *testing.T, s string) {
	t.Helper()
	want, wanted := parsed(s)
	if got, err := portset.Parse(s); err != wanted || !slices.Equal(got, want) {
		t.Fatalf("Parse(%q) = %v, %v, want %v, %v", s, got, err, want, wanted)
	}
}

// P8.1

func TestParse(t *testing.T) {
	for s, want := range map[string][]api.Span{
		"80,8000:8002,!8001":     list(80, 80, 8000, 8000, 8002, 8002),
		"any":                    list(0, last),
		"0":                      list(0, 0),
		"7":                      list(7, 7),
		"10":                     list(10, 10),
		"65535":                  list(last, last),
		"7:9":                    list(7, 9),
		"7:7":                    list(7, 7),
		"0:0":                    list(0, 0),
		"0:65535":                list(0, last),
		"65535:65535":            list(last, last),
		"7:":                     list(7, last),
		"0:":                     list(0, last),
		"65535:":                 list(last, last),
		":7":                     list(0, 7),
		":0":                     list(0, 0),
		":65535":                 list(0, last),
		"!22":                    list(0, 21, 23, last),
		"!0":                     list(1, last),
		"!65535":                 list(0, last-1),
		"!5:9":                   list(0, 4, 10, last),
		"!5:":                    list(0, 4),
		"!:5":                    list(6, last),
		"!0:":                    nil,
		"!:65535":                nil,
		"!0:65535":               nil,
		"!5,!7":                  list(0, 4, 6, 6, 8, last),
		"!7,!5":                  list(0, 4, 6, 6, 8, last),
		"!5,!6":                  list(0, 4, 7, last),
		"!5,5":                   nil,
		"5,!5":                   nil,
		"!5,6":                   list(6, 6),
		"!6,5:7":                 list(5, 5, 7, 7),
		"5:7,!6,6":               list(5, 5, 7, 7),
		"!5:6,0:9":               list(0, 4, 7, 9),
		"5,!0:,9":                nil,
		"1,2,3":                  list(1, 3),
		"3,1,2":                  list(1, 3),
		"9,1,9,5":                list(1, 1, 5, 5, 9, 9),
		"1:5,3:8":                list(1, 8),
		"1:5,6:8":                list(1, 8),
		"1:5,7:8":                list(1, 5, 7, 8),
		"1:9,3:4":                list(1, 9),
		":4,5:":                  list(0, last),
		":4,6:":                  list(0, 4, 6, last),
		"80,443,!1:79,8080":      list(80, 80, 443, 443, 8080, 8080),
		"80,!443":                list(80, 80),
		"1000:2000,!1500:":       list(1000, 1499),
		"1000:2000,!:1500":       list(1501, 2000),
		"10:20,!12:13,!18:30,25": list(10, 11, 14, 17),
	} {
		expectParse(t, s, want)
	}
}

func TestParseOfTextsWithoutItems(t *testing.T) {
	for _, s := range []string{
		"", ",", "1,", ",1", "1,,2", ",,", ":", "!", "!:", "::", "1::", "::1", "1:2:3", "1::2", ":1:", ":1:2", "1:2:",
		"!!5", "!!", "5!", "1!2", "1:!2", "!1:!2", "!any", "any,1", "1,any", "any,any", "Any", "ANY", "any ", " any", "an", "anyy", "an,y", "any:", ":any", "!1,!",
		"00", "01", "007", "1:02", "01:2", "00:1", "0:00", "!01", "000:", ":01", "00000000000000000080",
		" 1", "1 ", "1 2", "1, 2", "1 :2", "1: 2", "! 1", "1\n", "\n1", "1\t", "\x00", "1\x00", "1:2\x00",
		"+1", "-1", "1:-2", "-1:2", "1-2", "1.5", "1e3", "0x10", "1_000", "a", "1a", "a1", "http", "$P", "(1)", "[1,2]", "1;2", "1.2", "1/2",
		"\xb2", "\u0661", "1\xff", "\xff", "1:\u0662", "\uff11", "1\u0660", "/", "1/", ";", "/0", "9;",
	} {
		expectError(t, s, api.ErrSyntax)
	}
	// Every byte that does not occur in texts is refused everywhere.
	for c := range 256 {
		if b := byte(c); !strings.Contains("0123456789:,!", string([]byte{b})) {
			x := string([]byte{b})
			for _, s := range []string{x, x + "1", "1" + x, "1" + x + "2", "1:" + x, "1:2" + x, "!" + x + "3", "1," + x, x + ",1"} {
				expectError(t, s, api.ErrSyntax)
			}
		}
	}
}

func TestParseOfNumbersOutOfRange(t *testing.T) {
	for _, s := range []string{
		"65536", "65537", "99999", "100000", "655350", "131072", "4294967296", "4294967376", "18446744073709551616", "18446744073709551696", "9223372036854775808", "9223372036854775807",
		"340282366920938463463374607431768211456", "1" + strings.Repeat("0", 1000), strings.Repeat("9", 1024),
		"7:5", "1:0", "65535:0", "65535:65534", "!7:5", "65536:", ":65536", "!65536", "!65536:", "!:65536", "0:65536", "65535:65536", "65536:65535", "65536:65536", "65536:65537", "70000:5", "5:70000",
		"18446744073709551617:2", "1:18446744073709551618", "4294967297:4294967299", "18446744073709551616:18446744073709551617",
		"1,7:5", "7:5,1", "80,!7:5", "80,65536", "65536,80", "80,!65536,81",
	} {
		expectError(t, s, api.ErrRange)
	}
}

func TestParseExaminesPartsInOrder(t *testing.T) {
	for s, want := range map[string]api.Errno{
		"7:5,x": api.ErrRange, "x,7:5": api.ErrSyntax, "65536,": api.ErrRange, ",65536": api.ErrSyntax, "1,7:5,x": api.ErrRange, "1,x,7:5": api.ErrSyntax, "any,65536": api.ErrSyntax, "65536,any": api.ErrRange,
		"!7:5,!": api.ErrRange, "!,!7:5": api.ErrSyntax, "65536:01": api.ErrSyntax, "01:65536": api.ErrSyntax, "65536:x": api.ErrSyntax, "x:65536": api.ErrSyntax, "7:5:": api.ErrSyntax, "65536x": api.ErrSyntax,
		strings.Repeat("9", 900) + "x": api.ErrSyntax, "0" + strings.Repeat("9", 900): api.ErrSyntax,
	} {
		expectError(t, s, want)
	}
}

func TestParseOfLongTexts(t *testing.T) {
	nines, letters := strings.Repeat("9", 1024), strings.Repeat("x", 1024)
	expectError(t, nines, api.ErrRange)
	expectError(t, nines+"9", api.ErrLong)
	expectError(t, letters, api.ErrSyntax)
	expectError(t, letters+"x", api.ErrLong)
	expectError(t, "1,2,"+letters, api.ErrLong)
	expectError(t, strings.Repeat("80,", 100000)+"80", api.ErrLong)

	commas := strings.Repeat(",", 63)
	expectError(t, commas, api.ErrSyntax)
	expectError(t, commas+",", api.ErrLong)
	expectError(t, "65536"+commas, api.ErrRange)
	expectError(t, "65536"+commas+",", api.ErrLong)

	var items []string
	var want []api.Span
	for k := range 64 {
		items = append(items, strconv.Itoa(20000+2*k))
		want = append(want, api.Span{Lo: 20000 + 2*k, Hi: 20000 + 2*k})
	}
	expectParse(t, strings.Join(items, ","), want)
	slices.Reverse(items)
	expectParse(t, strings.Join(items, ","), want)
	expectParse(t, "!"+strings.Join(items, ",!"), interval.Complement(want, 0, last))
	expectError(t, strings.Join(items, ",")+",1", api.ErrLong)
	expectError(t, "!"+strings.Join(items, ",!")+",!1", api.ErrLong)
	expectParse(t, strings.Repeat("5,", 63)+"!5", nil)
}

func TestParseOfEveryShortText(t *testing.T) {
	alphabet := "019:,! a"
	var extend func(s string)
	extend = func(s string) {
		expectParsed(t, s)
		if len(s) < 6 {
			for _, c := range alphabet {
				extend(s + string(c))
			}
		}
	}
	extend("")
}

func TestParseOfEveryFewWords(t *testing.T) {
	words := []string{"0", "7", "65535", "65536", "18446744073709551621", ":", ",", "!", "00", "any"}
	var extend func(s string, n int)
	extend = func(s string, n int) {
		expectParsed(t, s)
		if n < 5 {
			for _, w := range words {
				extend(s+w, n+1)
			}
		}
	}
	extend("", 0)
}

// someText returns a text of many items, and sometimes one that is none.
func someText(r *rand.Rand) string {
	port := func() string { return strconv.Itoa(min(max(someBound(r), 0), last)) }
	var items []string
	for range 1 + r.IntN(12) {
		item := port()
		switch r.IntN(5) {
		case 0:
			item += ":"
		case 1:
			item = ":" + item
		case 2, 3:
			item += ":" + port()
		}
		if r.IntN(3) == 0 {
			item = "!" + item
		}
		items = append(items, item)
	}
	s := strings.Join(items, ",")
	if r.IntN(8) == 0 {
		at := r.IntN(len(s) + 1)
		s = s[:at] + string("0123456789:,! x"[r.IntN(15)]) + s[at:]
	}
	return s
}

func TestParseOfMixedTexts(t *testing.T) {
	r := source(81)
	texts := 0
	for range 60000 {
		s := someText(r)
		expectParsed(t, s)
		if _, err := portset.Parse(s); err == api.OK {
			texts++
		}
	}
	if texts < 10000 {
		t.Errorf("only %d texts denote sets", texts)
	}
}

// P8.2

// formatted is the chapter's definition of Format.
func formatted(l []api.Span) string {
	s := ""
	for _, x := range setOf(func(n int) bool { return has(l, n) }, l) {
		if x.Lo == 0 && x.Hi == last {
			return "any"
		}
		s += "," + strconv.Itoa(x.Lo)
		if x.Lo < x.Hi {
			s += ":" + strconv.Itoa(x.Hi)
		}
	}
	if s == "" {
		return "!0:65535"
	}
	return s[1:]
}

func expectFormat(t *testing.T, l []api.Span, want string) {
	t.Helper()
	if got := portset.Format(l); got != want {
		t.Fatalf("Format(%v) = %q, want %q", l, got, want)
	}
}

func TestFormat(t *testing.T) {
	for _, x := range []struct {
		l    []api.Span
		want string
	}{
		{list(1, 2, 9, 9), "1:2,9"},
		{list(0, 21, 23, last), "0:21,23:65535"},
		{nil, "!0:65535"}, {[]api.Span{}, "!0:65535"}, {list(5, 4), "!0:65535"}, {list(-5, -1), "!0:65535"}, {list(last+1, last+1), "!0:65535"}, {list(last+1, last+9, 4, 3, -2, -1), "!0:65535"},
		{list(last+1, last), "!0:65535"}, {list(math.MaxInt, math.MinInt), "!0:65535"}, {list(math.MinInt, -1), "!0:65535"}, {list(last+1, math.MaxInt), "!0:65535"},
		{list(0, last), "any"}, {list(-1, last), "any"}, {list(0, last+1), "any"}, {list(math.MinInt, math.MaxInt), "any"}, {list(0, api.MaxNumber), "any"}, {list(0, api.MaxNumber+1), "any"},
		{list(0, 9, 10, last), "any"}, {list(10, last, 0, 9), "any"}, {list(5, 9, 0, last, 7, 7), "any"}, {list(0, 40000, 30000, last), "any"},
		{list(0, last-1), "0:65534"}, {list(1, last), "1:65535"}, {list(0, last-1, last+1, last+5), "0:65534"}, {list(-1, -1, 1, last), "1:65535"},
		{list(0, 0), "0"}, {list(7, 7), "7"}, {list(last, last), "65535"}, {list(last, last+1), "65535"}, {list(-1, 0), "0"}, {list(last-1, math.MaxInt), "65534:65535"}, {list(math.MinInt, 1), "0:1"},
		{list(7, 8), "7:8"}, {list(7, 7, 8, 8), "7:8"}, {list(7, 7, 9, 9), "7,9"}, {list(9, 9, 7, 7), "7,9"}, {list(8, 8, 7, 7), "7:8"}, {list(7, 7, 7, 7), "7"},
		{list(1, 5, 3, 8), "1:8"}, {list(1, 5, 6, 8), "1:8"}, {list(1, 5, 7, 8), "1:5,7:8"}, {list(1, 9, 3, 4), "1:9"}, {list(3, 2, 80, 80, 5, 4), "80"}, {list(80, 80, 443, 443, 8000, 8100), "80,443,8000:8100"},
		{list(100, 100, 9, 9, 20, 20), "9,20,100"}, {list(0, 0, last, last), "0,65535"},
	} {
		expectFormat(t, x.l, x.want)
	}
}

// edges are bounds of spans around the least and the greatest port.
func edges() []int { return []int{-1, 0, 1, 2, last - 1, last, last + 1} }

func TestFormatOfEveryShortList(t *testing.T) {
	eachList(2, edges(), func(l []api.Span) { expectFormat(t, l, formatted(l)) })
	eachList(3, []int{-1, 0, 1, 3, 4}, func(l []api.Span) { expectFormat(t, l, formatted(l)) })
}

func TestFormatOfMixedLists(t *testing.T) {
	r := source(82)
	for range 30000 {
		l := someList(r, 9)
		expectFormat(t, l, formatted(l))
	}
}

func TestFormatOfManySpans(t *testing.T) {
	var l []api.Span
	var items []string
	for n := last; n >= 0; n -= 2 {
		l = append(l, api.Span{Lo: n, Hi: n})
		items = append(items, strconv.Itoa(n))
	}
	slices.Reverse(items)
	expectFormat(t, l, strings.Join(items, ","))
	expectFormat(t, slices.Repeat(list(9, 9, 5, 6), 100000), "5:6,9")
}

// P8.3

func TestAll(t *testing.T) {
	expectList(t, "All()", portset.All(), list(0, last))
	l, _ := portset.Parse("any")
	expectList(t, "All()", portset.All(), l)
}

func TestEval(t *testing.T) {
	for _, x := range []struct{ with, without, want []api.Span }{
		{nil, list(0, 1023), list(1024, last)},
		{nil, nil, list(0, last)},
		{[]api.Span{}, []api.Span{}, list(0, last)},
		{nil, list(0, last), nil},
		{nil, list(math.MinInt, math.MaxInt), nil},
		{nil, list(22, 22), list(0, 21, 23, last)},
		{nil, list(5, 4, -3, -1, last+1, last+1), list(0, last)},
		{list(80, 80), nil, list(80, 80)},
		{list(80, 80), list(80, 80), nil},
		{list(80, 80), list(79, 79, 81, 81), list(80, 80)},
		{list(0, 9), list(3, 3), list(0, 2, 4, 9)},
		{list(0, 9), list(7, 7, 3, 4, 7, 8), list(0, 2, 5, 6, 9, 9)},
		{list(5, 9, 0, 3, 4, 4), list(9, 20), list(0, 8)},
		// A list that has only elements without ports is not one without elements.
		{list(5, 4), nil, nil},
		{list(-2, -1), nil, nil},
		{list(last+1, last+1), nil, nil},
		{list(last+1, api.MaxNumber, 3, 2), list(1, 1), nil},
		{list(math.MaxInt, math.MinInt), nil, nil},
		// Only ports belong to the result.
		{list(-5, 3), nil, list(0, 3)},
		{list(last-1, last+1), nil, list(last-1, last)},
		{list(math.MinInt, math.MaxInt), nil, list(0, last)},
		{list(math.MinInt, math.MaxInt), list(1, last-1), list(0, 0, last, last)},
		{list(0, api.MaxNumber), list(last, last), list(0, last-1)},
		{list(0, last), list(-5, 5, last-5, math.MaxInt), list(6, last-6)},
		{list(0, last), list(last+1, 0, 9, 8), list(0, last)},
	} {
		expectList(t, "Eval", portset.Eval(x.with, x.without), x.want)
	}
}

func expectEval(t *testing.T, with, without []api.Span) {
	t.Helper()
	want := setOf(func(n int) bool { return (len(with) == 0 || has(with, n)) && !has(without, n) }, with, without)
	got := portset.Eval(with, without)
	if !slices.Equal(got, want) || !interval.Valid(got) {
		t.Fatalf("Eval(%v, %v) = %v, want %v", with, without, got, want)
	}
}

func TestEvalOfEveryShortList(t *testing.T) {
	eachList(1, edges(), func(with []api.Span) {
		eachList(2, edges(), func(without []api.Span) {
			expectEval(t, with, without)
			expectEval(t, without, with)
		})
	})
}

func TestEvalOfMixedLists(t *testing.T) {
	r := source(83)
	for range 30000 {
		expectEval(t, someList(r, 6), someList(r, 6))
	}
}

// P8.4

// expectRoundTrip checks that Parse gives back the set of the ports of l, and reports whether the chapter promises it.
func expectRoundTrip(t *testing.T, l []api.Span) bool {
	t.Helper()
	s, set := portset.Format(l), setOf(func(n int) bool { return has(l, n) }, l)
	if len(set) > 64 || len(s) > 1024 {
		return false
	}
	if got, err := portset.Parse(s); err != api.OK || !slices.Equal(got, set) {
		t.Fatalf("Parse(%q) = %v, %v, want %v", s, got, err, set)
	}
	return true
}

func TestRoundTrip(t *testing.T) {
	for _, l := range [][]api.Span{nil, list(0, last), list(0, 0), list(last, last), list(0, last-1), list(1, last), list(22, 22), list(5, 4), list(-9, last+9), list(math.MinInt, math.MaxInt)} {
		expectRoundTrip(t, l)
	}
	eachList(2, edges(), func(l []api.Span) { expectRoundTrip(t, l) })
	r := source(84)
	for range 20000 {
		expectRoundTrip(t, someList(r, 9))
	}
}

func TestRoundTripOfLongLists(t *testing.T) {
	for _, n := range []int{63, 64} {
		var l []api.Span
		for k := range n {
			l = append(l, api.Span{Lo: 60000 + 3*k, Hi: 60001 + 3*k})
		}
		if !expectRoundTrip(t, l) {
			t.Errorf("%d spans are not too many", n)
		}
		slices.Reverse(l)
		if !expectRoundTrip(t, append(slices.Clone(l), l...)) {
			t.Errorf("%d spans of a set are not too many", n)
		}
	}
	r := source(85)
	for range 2000 {
		var l []api.Span
		for range 40 + r.IntN(40) {
			lo := r.IntN(last)
			l = append(l, api.Span{Lo: lo, Hi: lo + r.IntN(200)})
		}
		expectRoundTrip(t, l)
	}
}

// P8.5

func TestFormatOfTheSameSet(t *testing.T) {
	for _, x := range []struct {
		texts []string
		want  string
	}{
		{[]string{"!22", "0:21,23:65535", ":21,23:", "23:,:21", "0:,!22", "!22:22", "!22,!22", "0:65535,!22", ":30,20:,!22"}, "0:21,23:65535"},
		{[]string{"any", "0:65535", "0:", ":65535", ":4,5:", "7,0:", ":40000,30000:"}, "any"},
		{[]string{"!0:65535", "!0:", "!:65535", "5,!5", "!5,5", "!:4,!5:", "1:9,!0:10"}, "!0:65535"},
		{[]string{"80", "80:80", "80,80", "79:80,!79", "!:79,!81:", "!81,80"}, "80"},
		{[]string{"1:3", "1,2,3", "3,2,1", "1:2,2:3", "0:4,!0,!4", "!0,!4:"}, "1:3"},
		{[]string{"1,3", "3,1", "1:3,!2", "!0,!2,!4:"}, "1,3"},
	} {
		for _, s := range x.texts {
			l, err := portset.Parse(s)
			if got := portset.Format(l); err != api.OK || got != x.want {
				t.Errorf("Format(Parse(%q)) = %q, %v, want %q", s, got, err, x.want)
			}
		}
	}
}

func TestFormatOfParsedTexts(t *testing.T) {
	r := source(86)
	for range 30000 {
		s := someText(r)
		if l, err := portset.Parse(s); err == api.OK {
			set, _ := parsed(s)
			expectFormat(t, l, formatted(set))
			// The text without the order of its items and with some of them twice denotes the same set.
			items := strings.Split(s, ",")
			items = append(items, items[r.IntN(len(items))])
			r.Shuffle(len(items), func(i, j int) { items[i], items[j] = items[j], items[i] })
			again, err := portset.Parse(strings.Join(items, ","))
			if err != api.OK || portset.Format(again) != portset.Format(l) {
				t.Fatalf("%q and %q differ", s, items)
			}
		}
	}
}

// R3

func TestArgumentsAreNotModified(t *testing.T) {
	backing := list(9, 12, 3, last+7, -4, 2, 7, 5, 40, 40, 41, 50)
	want := slices.Clone(backing)
	l, other := backing[:3], backing[3:5]
	portset.Format(l)
	portset.Eval(l, other)
	portset.Eval(other, l)
	portset.Eval(nil, l)
	portset.Eval(l, nil)
	expectList(t, "arguments", backing, want)
}

func TestResultsAreNewMemory(t *testing.T) {
	all := portset.All()
	all[0] = api.Span{Lo: 5, Hi: 5}
	expectList(t, "All()", portset.All(), list(0, last))

	parsed, _ := portset.Parse("any")
	parsed[0] = api.Span{Lo: 5, Hi: 5}
	expectParse(t, "any", list(0, last))
	expectList(t, "All()", portset.All(), list(0, last))

	evaluated := portset.Eval(nil, nil)
	evaluated[0] = api.Span{Lo: 5, Hi: 5}
	expectList(t, "All()", portset.Eval(nil, nil), list(0, last))
	expectFormat(t, list(0, last), "any")

	set := list(3, 4, 8, 9)
	result := portset.Eval(set, nil)
	result[0] = api.Span{Lo: 5, Hi: 5}
	_ = append(result[:1], api.Span{})
	expectList(t, "the argument", set, list(3, 4, 8, 9))
}
