package overlap_test

import (
	"maps"
	"math"
	"math/big"
	"math/rand/v2"
	"slices"
	"strings"
	"testing"

	"intrusion/api"
	"intrusion/overlap"
)

const (
	// lastAt is the greatest offset at which Insert takes a segment, lastEnd the greatest end in a buffer.
	lastAt  = 2147483648
	lastEnd = 4294967296
	// mostPieces is the greatest number of pieces that Insert returns.
	mostPieces = 64
)

// source returns pseudo random numbers, the same ones in every run.
func source(seed uint64) *rand.Rand { return rand.New(rand.NewPCG(seed, 0)) }

// whole returns the piece that is a whole segment.
func whole(at int, data string) api.Piece {
	return api.Piece{At: at, Data: data, From: at, To: at + len(data)}
}

// part returns a piece of a segment.
func part(at int, data string, from, to int) api.Piece {
	return api.Piece{At: at, Data: data, From: from, To: to}
}

// buffer returns a list of pieces.
func buffer(l ...api.Piece) []api.Piece { return l }

// words returns all strings of a length that consist of the bytes of an alphabet.
func words(alphabet string, length int) []string {
	l := []string{""}
	for range length {
		var longer []string
		for _, s := range l {
			for k := range len(alphabet) {
				longer = append(longer, s+alphabet[k:k+1])
			}
		}
		l = longer
	}
	return l
}

// cell is what a buffer has at an offset: a byte, and the ends of the segment that it belongs to.
type cell struct {
	data     byte
	from, to int
}

// cellsOf returns what a buffer has at each offset.
func cellsOf(l []api.Piece) map[int]cell {
	cells := map[int]cell{}
	for _, p := range l {
		for k := range len(p.Data) {
			cells[p.At+k] = cell{p.Data[k], p.From, p.To}
		}
	}
	return cells
}

// piecesOf returns the pieces of the maximal sequences of adjacent bytes of segments with the same ends.
func piecesOf(cells map[int]cell) []api.Piece {
	var l []api.Piece
	for _, at := range slices.Sorted(maps.Keys(cells)) {
		c := cells[at]
		before, ok := cells[at-1]
		if !ok || before.from != c.from || before.to != c.to {
			l = append(l, api.Piece{At: at, From: c.from, To: c.to})
		}
		l[len(l)-1].Data += string([]byte{c.data})
	}
	return l
}

// definedValid is the chapter's definition of a buffer, without numbers that wrap.
func definedValid(l []api.Piece) bool {
	n := func(x int) *big.Int { return big.NewInt(int64(x)) }
	isUp := func(numbers ...*big.Int) bool {
		return slices.IsSortedFunc(numbers, func(x, y *big.Int) int { return x.Cmp(y) })
	}
	for k, p := range l {
		end := new(big.Int).Add(n(p.At), n(len(p.Data)))
		if p.Data == "" || !isUp(n(0), n(p.From), n(p.At)) || !isUp(end, n(p.To), n(lastEnd)) {
			return false
		}
		if k+1 < len(l) && !isUp(end, n(l[k+1].At)) {
			return false
		}
	}
	return true
}

// definedWins is the chapter's definition of the segment that wins.
func definedWins(policy int, old, next cell) bool {
	isEarlier := next.from < old.from
	isLonger := next.from == old.from && next.to > old.to
	return policy == 2 || policy == 3 && isEarlier || policy == 4 && (isEarlier || isLonger)
}

// inserted is what the chapter says about Insert, byte by byte.
func inserted(l []api.Piece, p api.Piece, policy int) ([]api.Piece, int, api.Errno) {
	if p.Data == "" {
		return l, 0, api.OK
	}
	if p.At < 0 || p.At > lastAt || policy < 1 || policy > 5 {
		return nil, 0, api.ErrRange
	}
	cells := cellsOf(l)
	common, differing := 0, 0
	for k := range len(p.Data) {
		next := cell{p.Data[k], p.At, p.At + len(p.Data)}
		old, ok := cells[p.At+k]
		if ok {
			common++
		}
		if ok && old.data != next.data {
			differing++
		}
		if !ok || definedWins(policy, old, next) {
			cells[p.At+k] = next
		}
	}
	if policy == 5 && common == len(p.Data) && differing == 0 {
		return l, 0, api.OK
	}
	if policy == 5 && common > 0 {
		return nil, 0, api.ErrOverlap
	}
	result := piecesOf(cells)
	if len(result) > mostPieces {
		return nil, 0, api.ErrFull
	}
	return result, differing, api.OK
}

// without is what the chapter says about Cut, byte by byte.
func without(l []api.Piece, at int) []api.Piece {
	var rest []api.Piece
	for _, p := range l {
		for p.At < at && p.Data != "" {
			p.At++
			p.Data = p.Data[1:]
		}
		if p.Data != "" {
			rest = append(rest, p)
		}
	}
	return rest
}

// taken is what the chapter says about Take, byte by byte.
func taken(l []api.Piece, at int) (string, []api.Piece) {
	cells := cellsOf(l)
	s := ""
	for {
		c, ok := cells[at]
		if !ok {
			return s, without(l, at)
		}
		s += string([]byte{c.data})
		at++
	}
}

// expectInsert checks a result of Insert.
func expectInsert(t *testing.T, what string, l []api.Piece, p api.Piece, policy int, want []api.Piece, differing int, wanted api.Errno) {
	t.Helper()
	got, n, err := overlap.Insert(l, p, policy)
	if !slices.Equal(got, want) || n != differing || err != wanted {
		t.Fatalf("%s: Insert(%v, %v, %d) = %v, %d, %v, want %v, %d, %v", what, l, p, policy, got, n, err, want, differing, wanted)
	}
}

// expectInsertError checks that Insert returns an error, and nothing else.
func expectInsertError(t *testing.T, what string, l []api.Piece, p api.Piece, policy int, wanted api.Errno) {
	t.Helper()
	expectInsert(t, what, l, p, policy, nil, 0, wanted)
}

// expectDefinedInsert checks Insert against the definition, and returns its result.
func expectDefinedInsert(t *testing.T, what string, l []api.Piece, p api.Piece, policy int) ([]api.Piece, api.Errno) {
	t.Helper()
	want, differing, wanted := inserted(l, p, policy)
	expectInsert(t, what, l, p, policy, want, differing, wanted)
	if !overlap.Valid(want) || !definedValid(want) {
		t.Fatalf("%s: Insert(%v, %v, %d) is not a buffer: %v", what, l, p, policy, want)
	}
	return want, wanted
}

func expectTake(t *testing.T, l []api.Piece, at int, want string, rest []api.Piece) {
	t.Helper()
	s, got := overlap.Take(l, at)
	if s != want || !slices.Equal(got, rest) || !overlap.Valid(got) {
		t.Fatalf("Take(%v, %d) = %q, %v, want %q, %v", l, at, s, got, want, rest)
	}
}

func expectCut(t *testing.T, l []api.Piece, at int, rest []api.Piece) {
	t.Helper()
	got := overlap.Cut(l, at)
	if !slices.Equal(got, rest) || !overlap.Valid(got) {
		t.Fatalf("Cut(%v, %d) = %v, want %v", l, at, got, rest)
	}
}

func expectValid(t *testing.T, l []api.Piece, want bool) {
	t.Helper()
	if got := overlap.Valid(l); got != want {
		t.Fatalf("Valid(%v) = %v", l, got)
	}
}

// bufferAt returns a buffer of up to most pieces that begins at or shortly behind an offset. Adjacent pieces may have the same ends, or share one of them.
func bufferAt(r *rand.Rand, at, most int) []api.Piece {
	var l []api.Piece
	for range r.IntN(most + 1) {
		at += r.IntN(3) * r.IntN(2)
		data := mixed(r, 1+r.IntN(3))
		p := api.Piece{At: at, Data: data, From: max(0, at-r.IntN(3)), To: min(lastEnd, at+len(data)+r.IntN(4))}
		if len(l) > 0 && r.IntN(2) == 0 {
			p.From = l[len(l)-1].From
		}
		if len(l) > 0 && r.IntN(2) == 0 {
			p.To = max(l[len(l)-1].To, at+len(data))
		}
		l = append(l, p)
		at += len(data)
	}
	return l
}

// mixed returns n bytes, most of which are of a few values.
func mixed(r *rand.Rand, n int) string {
	b := make([]byte, n)
	for k := range b {
		b[k] = "aab\xff\x00"[r.IntN(5)]
	}
	return string(b)
}

// everySecond returns n pieces of one byte with gaps of one byte between them.
func everySecond(n int, data string) []api.Piece {
	var l []api.Piece
	for k := range n {
		l = append(l, whole(2*k, data))
	}
	return l
}

// oneSegment returns n adjacent pieces of one byte of the same segment, which is a buffer.
func oneSegment(n int) []api.Piece {
	var l []api.Piece
	for k := range n {
		l = append(l, part(k, "a", 0, n))
	}
	return l
}

// P15.1

func TestValid(t *testing.T) {
	for _, c := range []struct {
		l    []api.Piece
		want bool
	}{
		{nil, true},
		{buffer(), true},
		{buffer(whole(0, "ab"), whole(1, "c")), false},
		{buffer(whole(0, "ab"), whole(2, "c")), true},
		{buffer(whole(0, "ab"), whole(5, "c")), true},
		{buffer(whole(5, "c"), whole(0, "ab")), false},
		{buffer(part(0, "a", 0, 2), part(1, "b", 0, 2)), true},
		{buffer(part(0, "a", 0, 4), part(2, "b", 1, 3)), true},
		{buffer(api.Piece{}), false},
		{buffer(part(1, "", 0, 2)), false},
		{buffer(whole(0, "a"), part(1, "", 1, 2), whole(1, "b")), false},
		{buffer(whole(-1, "a")), false},
		{buffer(part(0, "a", -1, 1)), false},
		{buffer(part(1, "a", 2, 3)), false},
		{buffer(part(1, "ab", 1, 2)), false},
		{buffer(part(1, "ab", 1, 3)), true},
		{buffer(part(1, "ab", 0, 4)), true},
		{buffer(whole(lastEnd-2, "ab")), true},
		{buffer(whole(lastEnd-1, "ab")), false},
		{buffer(part(0, "a", 0, lastEnd)), true},
		{buffer(part(0, "a", 0, lastEnd+1)), false},
		{everySecond(100, "a"), true},
	} {
		expectValid(t, c.l, c.want)
	}
}

func TestValidOfEverySmallPair(t *testing.T) {
	var some []api.Piece
	for at := -1; at < 4; at++ {
		for from := -1; from < 4; from++ {
			for to := -1; to < 5; to++ {
				for _, data := range []string{"", "x", "xy"} {
					some = append(some, part(at, data, from, to))
				}
			}
		}
	}
	for _, p := range some {
		expectValid(t, buffer(p), definedValid(buffer(p)))
		for _, q := range some {
			if overlap.Valid(buffer(p, q)) != definedValid(buffer(p, q)) {
				t.Fatal("the pair", p, q)
			}
		}
	}
}

// wildNumbers are numbers at the ends of the ranges that matter, and some with which sums wrap.
func wildNumbers() []int {
	return []int{math.MinInt, math.MinInt + 1, -lastEnd, -1, 0, 1, 2, lastAt, lastAt + 1, lastEnd - 1, lastEnd, lastEnd + 1, math.MaxInt - 1, math.MaxInt}
}

func TestValidOfGreatNumbers(t *testing.T) {
	for _, at := range wildNumbers() {
		for _, from := range wildNumbers() {
			for _, to := range wildNumbers() {
				for _, data := range []string{"", "x", "xy"} {
					l := buffer(part(at, data, from, to))
					expectValid(t, l, definedValid(l))
					l = buffer(whole(0, "z"), part(at, data, from, to))
					expectValid(t, l, definedValid(l))
				}
			}
		}
	}
}

func TestValidOfOneFault(t *testing.T) {
	r := source(156)
	faulty := 0
	for range 20000 {
		l := bufferAt(r, r.IntN(4), 8)
		expectValid(t, l, true)
		if len(l) == 0 {
			continue
		}
		p := &l[r.IntN(len(l))]
		switch r.IntN(4) {
		case 0:
			p.At += r.IntN(7) - 3
		case 1:
			p.Data = mixed(r, r.IntN(5))
		case 2:
			p.From += r.IntN(7) - 3
		case 3:
			p.To += r.IntN(7) - 3
		}
		want := definedValid(l)
		expectValid(t, l, want)
		if !want {
			faulty++
		}
	}
	if faulty < 5000 {
		t.Error("only", faulty, "lists are not buffers")
	}
}

// P15.2

func TestWins(t *testing.T) {
	old := part(9, "abc", 5, 9)
	for _, c := range []struct {
		from, to           int
		last, bsd, isLinux bool
	}{
		{4, 6, true, true, true},
		{4, 9, true, true, true},
		{4, 20, true, true, true},
		{5, 8, true, false, false},
		{5, 9, true, false, false},
		{5, 10, true, false, true},
		{6, 8, true, false, false},
		{6, 10, true, false, false},
		{0, 0, true, true, true},
	} {
		next := api.Piece{From: c.from, To: c.to}
		for policy, want := range map[int]bool{0: false, 1: false, 2: c.last, 3: c.bsd, 4: c.isLinux, 5: false, 6: false} {
			if overlap.Wins(policy, old, next) != want {
				t.Error("policy", policy, "for a segment from", c.from, "to", c.to)
			}
		}
	}
	if overlap.Wins(api.PolicyBsd, whole(0, "aaaa"), whole(2, "bbbb")) {
		t.Error("the example of the chapter")
	}
}

func TestWinsOfAllEnds(t *testing.T) {
	numbers := append([]int{math.MinInt, math.MaxInt, lastEnd}, -1, 0, 1, 2, 3)
	policies := []int{math.MinInt, -1, 0, 1, 2, 3, 4, 5, 6, 7, math.MaxInt}
	r := source(157)
	for _, from := range numbers {
		for _, to := range numbers {
			for _, nextFrom := range numbers {
				for _, nextTo := range numbers {
					for _, policy := range policies {
						// At and Data do not count.
						old := part(r.IntN(9), mixed(r, r.IntN(3)), from, to)
						next := part(r.IntN(9), mixed(r, r.IntN(3)), nextFrom, nextTo)
						want := definedWins(policy, cell{0, from, to}, cell{0, nextFrom, nextTo})
						if overlap.Wins(policy, old, next) != want {
							t.Fatal("policy", policy, "old", old, "next", next, "want", want)
						}
					}
				}
			}
		}
	}
}

// P15.3

func TestInsertIntoNothing(t *testing.T) {
	for policy := 1; policy <= 5; policy++ {
		expectInsert(t, "a first segment", nil, whole(3, "abc"), policy, buffer(whole(3, "abc")), 0, api.OK)
		expectInsert(t, "a first segment", buffer(), whole(0, "\xff\x00"), policy, buffer(whole(0, "\xff\x00")), 0, api.OK)
	}
}

func TestInsertOfOverlaps(t *testing.T) {
	a, b := whole(0, "aaaa"), whole(2, "bbbb")
	first := buffer(a, part(4, "bb", 2, 6))
	second := buffer(part(0, "aa", 0, 4), b)
	for _, c := range []struct {
		policy         int
		after, earlier []api.Piece
	}{
		{api.PolicyFirst, first, second},
		{api.PolicyLast, second, first},
		{api.PolicyBsd, first, first},
		{api.PolicyLinux, first, first},
	} {
		expectInsert(t, "b after a", buffer(a), b, c.policy, c.after, 2, api.OK)
		expectInsert(t, "a after b", buffer(b), a, c.policy, c.earlier, 2, api.OK)
	}
	expectInsertError(t, "b after a", buffer(a), b, api.PolicyDrop, api.ErrOverlap)
	expectInsertError(t, "a after b", buffer(b), a, api.PolicyDrop, api.ErrOverlap)
}

func TestInsertInsideAPiece(t *testing.T) {
	l := buffer(whole(0, "aaaaaa"))
	split := buffer(part(0, "aa", 0, 6), whole(2, "ab"), part(4, "aa", 0, 6))
	expectInsert(t, "inside", l, whole(2, "ab"), api.PolicyLast, split, 1, api.OK)
	for _, policy := range []int{api.PolicyFirst, api.PolicyBsd, api.PolicyLinux} {
		expectInsert(t, "inside", l, whole(2, "ab"), policy, l, 1, api.OK)
	}
	// The segment of a byte counts, not the piece: the segment began before the piece.
	cut := buffer(part(4, "aa", 0, 6))
	expectInsert(t, "before the piece", cut, whole(2, "bbbb"), api.PolicyBsd, buffer(part(2, "bb", 2, 6), part(4, "aa", 0, 6)), 2, api.OK)
	expectInsert(t, "from the same offset", cut, whole(0, "bbbbbbb"), api.PolicyBsd, buffer(part(0, "bbbb", 0, 7), cut[0], part(6, "b", 0, 7)), 2, api.OK)
	expectInsert(t, "from the same offset", cut, whole(0, "bbbbbbb"), api.PolicyLinux, buffer(whole(0, "bbbbbbb")), 2, api.OK)
}

func TestInsertOfEqualBytes(t *testing.T) {
	// The bytes are the same, but they belong to the segment that wins.
	l := buffer(whole(2, "abc"))
	expectInsert(t, "the same segment", l, whole(2, "abc"), api.PolicyLast, l, 0, api.OK)
	expectInsert(t, "a part", l, whole(3, "b"), api.PolicyLast, buffer(part(2, "a", 2, 5), whole(3, "b"), part(4, "c", 2, 5)), 0, api.OK)
	expectInsert(t, "more", l, whole(1, "xabcx"), api.PolicyBsd, buffer(whole(1, "xabcx")), 0, api.OK)
	expectInsert(t, "more", l, whole(1, "xabcx"), api.PolicyFirst, buffer(part(1, "x", 1, 6), l[0], part(5, "x", 1, 6)), 0, api.OK)
}

func TestInsertJoinsOneSegment(t *testing.T) {
	// A segment that comes again after a part of it was taken away.
	expectInsert(t, "the begin again", buffer(part(2, "cd", 0, 4)), whole(0, "abxx"), api.PolicyFirst, buffer(whole(0, "abcd")), 2, api.OK)
	expectInsert(t, "the gap again", buffer(part(0, "a", 0, 4), part(3, "d", 0, 4)), whole(0, "xbcx"), api.PolicyFirst, buffer(whole(0, "abcd")), 2, api.OK)
	// Pieces of the buffer that the segment does not touch.
	expectInsert(t, "elsewhere", oneSegment(3), whole(9, "z"), api.PolicyFirst, buffer(whole(0, "aaa"), whole(9, "z")), 0, api.OK)
	// Adjacent pieces of which only one end is the same.
	for _, policy := range []int{1, 2, 3, 4, 5} {
		l := buffer(part(2, "a", 2, 5), part(3, "b", 2, 4), part(4, "c", 1, 6), part(5, "d", 3, 6))
		expectInsert(t, "elsewhere", l, whole(9, "z"), policy, append(slices.Clone(l), whole(9, "z")), 0, api.OK)
	}
	// Pieces with the same ends that are not adjacent.
	l := buffer(part(0, "a", 0, 4), part(2, "b", 0, 4))
	expectInsert(t, "a gap", l, whole(4, "c"), api.PolicyFirst, append(slices.Clone(l), whole(4, "c")), 0, api.OK)
}

func TestInsertOverSeveralPieces(t *testing.T) {
	l := buffer(whole(1, "ab"), whole(3, "c"), whole(6, "d"), whole(9, "e"))
	next := whole(2, "xxxxxxx")
	expectInsert(t, "PolicyLast", l, next, api.PolicyLast, buffer(part(1, "a", 1, 3), next, l[3]), 3, api.OK)
	kept := buffer(l[0], l[1], part(4, "xx", 2, 9), l[2], part(7, "xx", 2, 9), l[3])
	expectInsert(t, "PolicyFirst", l, next, api.PolicyFirst, kept, 3, api.OK)
	mostly := buffer(l[0], part(3, "xxxxxx", 2, 9), l[3])
	expectInsert(t, "PolicyBsd", l, next, api.PolicyBsd, mostly, 3, api.OK)
	expectInsert(t, "PolicyLinux", l, next, api.PolicyLinux, mostly, 3, api.OK)
}

func TestInsertIgnoresTheEndsOfTheArgument(t *testing.T) {
	for _, from := range wildNumbers() {
		for _, to := range wildNumbers() {
			for policy := 1; policy <= 4; policy++ {
				l := buffer(whole(1, "abc"))
				expectDefinedInsert(t, "any ends", l, part(1, "xyz1", from, to), policy)
				expectDefinedInsert(t, "any ends", l, part(0, "xy", from, to), policy)
			}
			expectInsert(t, "any ends", nil, part(2, "b", from, to), api.PolicyDrop, buffer(whole(2, "b")), 0, api.OK)
		}
	}
}

func TestInsertOfNothing(t *testing.T) {
	for _, l := range [][]api.Piece{nil, buffer(whole(3, "a")), oneSegment(3), everySecond(70, "a")} {
		for _, at := range wildNumbers() {
			for _, policy := range []int{math.MinInt, -1, 0, 1, 2, 3, 4, 5, 6, math.MaxInt} {
				expectInsert(t, "no bytes", l, api.Piece{At: at, From: 1, To: 2}, policy, l, 0, api.OK)
			}
		}
	}
}

func TestInsertOutOfRange(t *testing.T) {
	l := buffer(whole(3, "a"))
	for _, at := range []int{math.MinInt, -lastAt, -2, -1, lastAt + 1, lastAt + 2, lastEnd, math.MaxInt} {
		for policy := 1; policy <= 5; policy++ {
			expectInsertError(t, "an offset", l, whole(at, "x"), policy, api.ErrRange)
		}
	}
	for _, policy := range []int{math.MinInt, -5, -1, 0, 6, 7, math.MaxInt} {
		expectInsertError(t, "a policy", l, whole(1, "x"), policy, api.ErrRange)
	}
	for policy := 1; policy <= 5; policy++ {
		expectInsert(t, "the first offset", l, whole(0, "x"), policy, buffer(whole(0, "x"), l[0]), 0, api.OK)
		expectInsert(t, "the last offset", l, whole(lastAt, "xy"), policy, buffer(l[0], whole(lastAt, "xy")), 0, api.OK)
		behind := buffer(whole(lastAt+1, "a"), whole(lastEnd-1, "b"))
		_, err := expectDefinedInsert(t, "near the last offset", behind, whole(lastAt, "x"), policy)
		if err != api.OK {
			t.Error("near the last offset:", err)
		}
		expectDefinedInsert(t, "over the last offset", behind, whole(lastAt, "xyz"), policy)
	}
}

func TestInsertUnderPolicyDrop(t *testing.T) {
	l := buffer(whole(0, "abcd"), whole(4, "ef"), whole(8, "g"))
	for _, p := range []api.Piece{whole(0, "abcd"), whole(1, "bc"), whole(3, "de"), whole(0, "abcdef"), whole(5, "f"), whole(8, "g")} {
		expectInsert(t, "equal bytes", l, p, api.PolicyDrop, l, 0, api.OK)
	}
	for _, p := range []api.Piece{whole(1, "bx"), whole(1, "xc"), whole(5, "fx"), whole(5, "fxxg"), whole(7, "xg"), whole(8, "gx"), whole(0, "abcdefx"), whole(6, "xxg"), whole(0, "abcdefxxgx")} {
		expectInsertError(t, "an overlap", l, p, api.PolicyDrop, api.ErrOverlap)
	}
	expectInsert(t, "the gap", l, whole(6, "xy"), api.PolicyDrop, buffer(l[0], l[1], whole(6, "xy"), l[2]), 0, api.OK)
	expectInsert(t, "a part of the gap", l, whole(7, "y"), api.PolicyDrop, buffer(l[0], l[1], whole(7, "y"), l[2]), 0, api.OK)
	expectInsert(t, "behind", l, whole(9, "h"), api.PolicyDrop, append(slices.Clone(l), whole(9, "h")), 0, api.OK)
	// With equal bytes the result is the buffer as it is, so that pieces of one segment stay apart, however many they are.
	for _, n := range []int{2, 64, 65, 90} {
		expectInsert(t, "pieces of one segment", oneSegment(n), whole(1, "a"), api.PolicyDrop, oneSegment(n), 0, api.OK)
		expectInsert(t, "pieces of one segment", oneSegment(n), whole(n, "a"), api.PolicyDrop, buffer(whole(0, strings.Repeat("a", n)), whole(n, "a")), 0, api.OK)
	}
}

func TestInsertIntoAFullBuffer(t *testing.T) {
	for policy := 1; policy <= 5; policy++ {
		full := everySecond(mostPieces, "a")
		expectInsert(t, "one more fits", full[1:], whole(0, "a"), policy, full, 0, api.OK)
		expectInsert(t, "one more fits", full[:mostPieces-1], whole(126, "a"), policy, full, 0, api.OK)
		for _, at := range []int{127, 200, lastAt} {
			expectInsertError(t, "one more", full, whole(at, "b"), policy, api.ErrFull)
			_, err := expectDefinedInsert(t, "one that fits", full[1:], whole(at, "b"), policy)
			if err != api.OK {
				t.Error("64 pieces:", err)
			}
		}
		expectInsertError(t, "in a gap", full, whole(1, "b"), policy, api.ErrFull)
		expectInsertError(t, "already too many", everySecond(66, "a"), whole(1, "b"), policy, api.ErrFull)
		expectInsert(t, "already many, but of one segment", oneSegment(100), whole(100, "b"), policy, buffer(whole(0, strings.Repeat("a", 100)), whole(100, "b")), 0, api.OK)
	}
	long := whole(0, strings.Repeat("b", 127))
	expectInsert(t, "over all", everySecond(mostPieces, "a"), long, api.PolicyLast, buffer(long), mostPieces, api.OK)
	expectInsertError(t, "over all", everySecond(mostPieces, "a"), long, api.PolicyFirst, api.ErrFull)
	// The first piece begins as early as the segment, so that the segment wins over it only for PolicyLinux, because it is longer.
	expectInsert(t, "over all", everySecond(mostPieces, "a"), long, api.PolicyLinux, buffer(long), mostPieces, api.OK)
	expectInsert(t, "over all", everySecond(mostPieces, "a"), long, api.PolicyBsd, buffer(whole(0, "a"), part(1, long.Data[1:], 0, 127)), mostPieces, api.OK)
	expectInsert(t, "over too many", everySecond(80, "a"), whole(0, strings.Repeat("b", 41)), api.PolicyLast, append(buffer(whole(0, strings.Repeat("b", 41))), everySecond(80, "a")[21:]...), 21, api.OK)
}

func TestInsertThatSplitsAPiece(t *testing.T) {
	// One piece becomes three, so that 62 others are the most.
	for n, wanted := range map[int]api.Errno{61: api.OK, 62: api.ErrFull, 63: api.ErrFull} {
		l := append(everySecond(n, "a"), whole(200, "xyz"))
		got, err := expectDefinedInsert(t, "inside", l, whole(201, "b"), api.PolicyLast)
		if err != wanted || err == api.OK && len(got) != n+3 {
			t.Error(n, "other pieces:", len(got), err)
		}
		got, err = expectDefinedInsert(t, "at the begin", l, whole(200, "b"), api.PolicyLast)
		if n == 62 && (err != api.OK || len(got) != 64) || n == 63 && err != api.ErrFull {
			t.Error(n, "other pieces:", len(got), err)
		}
		_, err = expectDefinedInsert(t, "inside", l, whole(201, "b"), api.PolicyFirst)
		if err != api.OK {
			t.Error(n, "other pieces:", err)
		}
	}
}

func TestInsertOfSeveralErrors(t *testing.T) {
	full := everySecond(mostPieces, "a")
	for _, c := range []struct {
		p      api.Piece
		policy int
		wanted api.Errno
	}{
		{whole(-1, ""), 0, api.OK},
		{whole(lastAt+1, ""), 6, api.OK},
		{whole(0, ""), 5, api.OK},
		{whole(-1, "x"), 5, api.ErrRange},
		{whole(-1, "xx"), 5, api.ErrRange},
		{whole(lastAt+1, "x"), 1, api.ErrRange},
		{whole(0, "x"), 0, api.ErrRange},
		{whole(1, "x"), 6, api.ErrRange},
		{whole(0, "xx"), 5, api.ErrOverlap},
		{whole(0, "ab"), 5, api.ErrOverlap},
		{whole(126, "ab"), 5, api.ErrOverlap},
		{whole(125, "ba"), 5, api.ErrOverlap},
		{whole(125, "b"), 5, api.ErrFull},
		{whole(126, "ab"), 1, api.ErrFull},
		{whole(126, "a"), 5, api.OK},
	} {
		want := full
		if c.wanted != api.OK {
			want = nil
		}
		expectInsert(t, "a full buffer", full, c.p, c.policy, want, 0, c.wanted)
	}
}

// someSegments returns all segments that begin before an offset and have 1 to most bytes of an alphabet.
func someSegments(before, most int, alphabet string) []api.Piece {
	var l []api.Piece
	for at := range before {
		for length := 1; length <= most; length++ {
			for _, data := range words(alphabet, length) {
				l = append(l, whole(at, data))
			}
		}
	}
	return l
}

func TestInsertOfEveryPairAndTriple(t *testing.T) {
	for _, p := range someSegments(6, 4, "ab") {
		for _, q := range someSegments(6, 4, "ab") {
			for policy := 1; policy <= 5; policy++ {
				expectDefinedInsert(t, "a pair", buffer(p), q, policy)
			}
		}
	}
	// The first two segments tell by their bytes which of them won, the third one agrees with none, one or both of them.
	for _, p := range someSegments(4, 4, "a") {
		for _, q := range someSegments(4, 4, "b") {
			for _, next := range someSegments(5, 3, "ab") {
				for policy := 1; policy <= 4; policy++ {
					l, _, _ := overlap.Insert(buffer(p), q, policy)
					expectDefinedInsert(t, "a triple", l, next, policy)
				}
			}
		}
	}
}

func TestInsertIntoSomeBuffers(t *testing.T) {
	r := source(158)
	results := map[api.Errno]int{}
	for _, base := range []int{0, 0, 1, 1000, lastAt - 12} {
		for range 8000 {
			l := bufferAt(r, base, 8)
			p := whole(base+r.IntN(20), mixed(r, r.IntN(12)))
			p.At = min(p.At, lastAt+1)
			policy := r.IntN(6)
			_, err := expectDefinedInsert(t, "some buffer", l, p, policy)
			results[err]++
		}
	}
	for _, e := range []api.Errno{api.OK, api.ErrRange, api.ErrOverlap} {
		if results[e] < 1000 {
			t.Error("the result", e, "only", results[e], "times")
		}
	}
}

func TestInsertIntoSomeLongBuffers(t *testing.T) {
	r := source(159)
	results := map[api.Errno]int{}
	for range 3000 {
		l := bufferAt(r, 0, 140)
		p := whole(r.IntN(300), mixed(r, r.IntN(120)))
		_, err := expectDefinedInsert(t, "a long buffer", l, p, 1+r.IntN(4))
		results[err]++
	}
	if results[api.OK] < 500 || results[api.ErrFull] < 500 {
		t.Error("results", results)
	}
}

func TestInsertOfManyBytes(t *testing.T) {
	// Every third byte of the buffer differs, and every second unit is missing.
	const unit, count = 1024, 60
	old, next := strings.Repeat("abc", unit), strings.Repeat("abx", unit*count)[:unit*count]
	var l []api.Piece
	differing := 0
	for k := 0; k < count; k += 2 {
		from := k * unit
		l = append(l, whole(from, strings.Repeat("abc", unit*count)[from:from+unit]))
		differing += strings.Count(l[len(l)-1].Data, "c")
	}
	expectInsert(t, "many bytes", l, whole(0, next), api.PolicyLast, buffer(whole(0, next)), differing, api.OK)
	expectInsert(t, "many bytes", buffer(whole(0, next)), whole(3000, old), api.PolicyLast, buffer(part(0, next[:3000], 0, len(next)), whole(3000, old), part(6072, next[6072:], 0, len(next))), 1024, api.OK)
	for policy := 1; policy <= 4; policy++ {
		expectDefinedInsert(t, "many bytes", l, whole(0, next), policy)
	}
}

// P15.4

func TestTake(t *testing.T) {
	l := buffer(whole(3, "ab"), whole(5, "c"), whole(9, "def"))
	for _, c := range []struct {
		at   int
		want string
		rest []api.Piece
	}{
		{3, "abc", l[2:]},
		{4, "bc", l[2:]},
		{5, "c", l[2:]},
		{6, "", l[2:]},
		{8, "", l[2:]},
		{9, "def", nil},
		{11, "f", nil},
		{12, "", nil},
		{13, "", nil},
		{2, "", l},
		{0, "", l},
		{-1, "", l},
		{math.MinInt, "", l},
		{math.MaxInt, "", nil},
	} {
		expectTake(t, l, c.at, c.want, c.rest)
	}
	expectTake(t, buffer(whole(3, "ab"), whole(5, "c"), whole(9, "d")), 3, "abc", buffer(whole(9, "d")))
	expectTake(t, nil, 0, "", nil)
	// The pieces that stay are as they were: two pieces of one segment are not joined.
	apart := buffer(whole(0, "x"), part(2, "a", 2, 4), part(3, "b", 2, 4))
	expectTake(t, apart, 0, "x", apart[1:])
	expectTake(t, apart, 2, "ab", nil)
	end := buffer(part(lastEnd-3, "ab", lastAt, lastEnd), part(lastEnd-1, "c", 0, lastEnd))
	expectTake(t, end, lastEnd-2, "bc", nil)
	expectTake(t, end, lastEnd, "", nil)
}

func TestTakeOfSomeBuffers(t *testing.T) {
	r := source(160)
	for _, base := range []int{0, 1, 500, lastAt - 10, lastEnd - 70} {
		for range 2000 {
			l := bufferAt(r, base, 10)
			at := base + r.IntN(40) - 5
			s, rest := taken(l, at)
			expectTake(t, l, at, s, rest)
			// Nothing of what was taken is left.
			after, same := overlap.Take(overlap.Cut(l, at+len(s)), at)
			if len(s) > 0 && after != "" || len(s) > 0 && !slices.Equal(same, rest) {
				t.Fatal("after Take", l, at, after, same)
			}
		}
	}
}

// P15.5

func TestCut(t *testing.T) {
	l := buffer(part(2, "abc", 2, 5), part(5, "de", 4, 9), whole(9, "f"))
	for _, c := range []struct {
		at   int
		rest []api.Piece
	}{
		{math.MinInt, l},
		{-1, l},
		{0, l},
		{2, l},
		{3, buffer(part(3, "bc", 2, 5), l[1], l[2])},
		{4, buffer(part(4, "c", 2, 5), l[1], l[2])},
		{5, l[1:]},
		{6, buffer(part(6, "e", 4, 9), l[2])},
		{7, l[2:]},
		{8, l[2:]},
		{9, l[2:]},
		{10, nil},
		{11, nil},
		{math.MaxInt, nil},
	} {
		expectCut(t, l, c.at, c.rest)
	}
	expectCut(t, buffer(part(2, "abc", 2, 5)), 4, buffer(part(4, "c", 2, 5)))
	expectCut(t, nil, 3, nil)
	expectCut(t, oneSegment(4), 1, oneSegment(4)[1:])
	expectCut(t, everySecond(100, "a"), 1, everySecond(100, "a")[1:])
	expectCut(t, buffer(whole(lastEnd-2, "ab")), lastEnd-1, buffer(part(lastEnd-1, "b", lastEnd-2, lastEnd)))
}

func TestCutOfSomeBuffers(t *testing.T) {
	r := source(161)
	for _, base := range []int{0, 1, 500, lastAt - 10, lastEnd - 70} {
		for range 2000 {
			l := bufferAt(r, base, 10)
			at := base + r.IntN(40) - 5
			rest := without(l, at)
			expectCut(t, l, at, rest)
			// A later Cut at an earlier offset removes nothing.
			expectCut(t, rest, at-r.IntN(3), rest)
		}
	}
}

// P15.6

func TestSize(t *testing.T) {
	for _, c := range []struct {
		l    []api.Piece
		want int
	}{
		{nil, 0},
		{buffer(), 0},
		{buffer(part(4, "c", 2, 5)), 1},
		{buffer(part(2, "abc", 0, 9)), 3},
		{buffer(whole(3, "ab"), whole(5, "c"), whole(9, "def")), 6},
		{everySecond(100, "a"), 100},
		{buffer(whole(lastAt, strings.Repeat("\xff", 100000))), 100000},
	} {
		if got := overlap.Size(c.l); got != c.want {
			t.Error("Size of", len(c.l), "pieces is", got, "not", c.want)
		}
	}
	r := source(162)
	for range 2000 {
		l := bufferAt(r, r.IntN(5), 10)
		if overlap.Size(l) != len(cellsOf(l)) {
			t.Fatal("Size", l)
		}
	}
}

// P15.7

// foldedAt is the cell that the segments leave at an offset: the first one there is replaced by those that win over the current one.
func foldedAt(segments []api.Piece, at, policy int) (cell, bool) {
	var current cell
	found := false
	for _, p := range segments {
		if at < p.At || at >= p.At+len(p.Data) {
			continue
		}
		next := cell{p.Data[at-p.At], p.At, p.At + len(p.Data)}
		if !found || definedWins(policy, current, next) {
			current, found = next, true
		}
	}
	return current, found
}

func TestSegmentsThatWin(t *testing.T) {
	r := source(163)
	for range 6000 {
		policy := 1 + r.IntN(4)
		var segments, l []api.Piece
		for range 1 + r.IntN(8) {
			p := whole(r.IntN(16), mixed(r, 1+r.IntN(8)))
			next, _, err := overlap.Insert(l, p, policy)
			if err != api.OK {
				t.Fatal("Insert", l, p, err)
			}
			l, segments = next, append(segments, p)
		}
		cells := cellsOf(l)
		for at := range 30 {
			want, isWanted := foldedAt(segments, at, policy)
			got, ok := cells[at]
			if got != want || ok != isWanted {
				t.Fatalf("policy %d, segments %v: at %d %v, want %v", policy, segments, at, got, want)
			}
		}
	}
}

func TestOperationsReturnBuffers(t *testing.T) {
	r := source(164)
	for range 500 {
		policy := 1 + r.IntN(5)
		var l []api.Piece
		at := 0
		for range 60 {
			switch r.IntN(6) {
			case 0:
				s, rest := overlap.Take(l, at)
				at += len(s)
				l = rest
			case 1:
				at += r.IntN(3)
				l = overlap.Cut(l, at)
			default:
				// Also segments of which a part was taken before.
				next, _, err := overlap.Insert(l, whole(max(0, at+r.IntN(12)-4), mixed(r, r.IntN(6))), policy)
				if err == api.OK {
					l = next
				}
			}
			if !overlap.Valid(l) || !definedValid(l) {
				t.Fatal("not a buffer:", l)
			}
		}
	}
}

// delivered returns all bytes that Take gives after segments were inserted, from the offset 0 on.
func delivered(t *testing.T, segments []api.Piece, policy int) string {
	t.Helper()
	var l []api.Piece
	s := ""
	for _, p := range segments {
		next, n, err := overlap.Insert(l, p, policy)
		if err != api.OK || n != 0 {
			t.Fatal("policy", policy, "Insert", l, p, n, err)
		}
		more, rest := overlap.Take(next, len(s))
		s, l = s+more, rest
	}
	if len(l) != 0 {
		t.Fatal("policy", policy, "left", l)
	}
	return s
}

func TestDeliveryInAnyOrder(t *testing.T) {
	r := source(165)
	for range 1500 {
		content := mixed(r, 1+r.IntN(60))
		var parts []api.Piece
		for at := 0; at < len(content); {
			n := 1 + r.IntN(min(9, len(content)-at))
			parts = append(parts, whole(at, content[at:at+n]))
			at += n
		}
		r.Shuffle(len(parts), func(i, k int) { parts[i], parts[k] = parts[k], parts[i] })
		// Without overlaps PolicyDrop delivers the same as well.
		for policy := 1; policy <= 5; policy++ {
			if got := delivered(t, parts, policy); got != content {
				t.Fatalf("policy %d: %q, want %q", policy, got, content)
			}
		}
		for range r.IntN(10) {
			from := r.IntN(len(content))
			to := from + 1 + r.IntN(len(content)-from)
			parts = slices.Insert(parts, r.IntN(len(parts)), whole(from, content[from:to]))
		}
		for policy := 1; policy <= 4; policy++ {
			if got := deliveredAtTheEnd(t, parts, policy); got != content {
				t.Fatalf("policy %d with overlaps: %q, want %q", policy, got, content)
			}
		}
	}
}

// deliveredAtTheEnd returns the bytes that Take gives after all segments were inserted.
func deliveredAtTheEnd(t *testing.T, segments []api.Piece, policy int) string {
	t.Helper()
	var l []api.Piece
	for _, p := range segments {
		next, n, err := overlap.Insert(l, p, policy)
		if err != api.OK || n != 0 {
			t.Fatal("policy", policy, "Insert", l, p, n, err)
		}
		l = next
	}
	s, rest := overlap.Take(l, 0)
	if len(rest) != 0 {
		t.Fatal("policy", policy, "left", rest)
	}
	return s
}

// Examples

func TestDeliveryOfTheExamples(t *testing.T) {
	a, b := whole(0, "aaaa"), whole(2, "bbbb")
	for _, c := range []struct {
		policy int
		order  []api.Piece
		want   string
	}{
		{api.PolicyFirst, buffer(a, b), "aaaabb"},
		{api.PolicyLast, buffer(a, b), "aabbbb"},
		{api.PolicyBsd, buffer(a, b), "aaaabb"},
		{api.PolicyLinux, buffer(a, b), "aaaabb"},
		{api.PolicyFirst, buffer(b, a), "aabbbb"},
		{api.PolicyLast, buffer(b, a), "aaaabb"},
		{api.PolicyBsd, buffer(b, a), "aaaabb"},
		{api.PolicyLinux, buffer(b, a), "aaaabb"},
	} {
		l, _, _ := overlap.Insert(nil, c.order[0], c.policy)
		l, n, err := overlap.Insert(l, c.order[1], c.policy)
		s, rest := overlap.Take(l, 0)
		if s != c.want || n != 2 || err != api.OK || len(rest) != 0 {
			t.Error("policy", c.policy, "order", c.order, "gives", s, n, err, rest)
		}
	}
}

// R1

// wildList returns a list of pieces that is hardly ever a buffer.
func wildList(r *rand.Rand) []api.Piece {
	numbers := append(wildNumbers(), 3, 4, 5)
	one := func() int { return numbers[r.IntN(len(numbers))] }
	var l []api.Piece
	for range r.IntN(6) {
		l = append(l, part(one(), mixed(r, r.IntN(5)), one(), one()))
	}
	return l
}

func TestAnyArguments(t *testing.T) {
	r := source(166)
	numbers := append(wildNumbers(), 3, 4, 5)
	for range 60000 {
		l, p := wildList(r), part(numbers[r.IntN(len(numbers))], mixed(r, r.IntN(6)), 1, 0)
		kept := slices.Clone(l)
		policy, at := r.IntN(7), numbers[r.IntN(len(numbers))]
		expectValid(t, l, definedValid(l))
		_, n, err := overlap.Insert(l, p, policy)
		overlap.Take(l, at)
		overlap.Cut(l, at)
		overlap.Size(l)
		if err != api.OK && n != 0 {
			t.Fatal("an error with a number", l, p, n, err)
		}
		if !slices.Equal(l, kept) {
			t.Fatal("the list became", l, "from", kept)
		}
		if p.Data != "" && (p.At < 0 || p.At > lastAt || policy < 1 || policy > 5) && err != api.ErrRange {
			t.Fatal("Insert", p, policy, err)
		}
	}
	// Lists of pieces in the wrong order, that overlap or are empty.
	for range 60000 {
		l := bufferAt(r, r.IntN(4), 6)
		r.Shuffle(len(l), func(i, k int) { l[i], l[k] = l[k], l[i] })
		for k := range l {
			l[k].At += r.IntN(9) - 4
			l[k].Data = l[k].Data[:r.IntN(len(l[k].Data)+1)]
		}
		overlap.Insert(l, whole(r.IntN(20), mixed(r, r.IntN(12))), r.IntN(7))
		overlap.Take(l, r.IntN(20)-3)
		overlap.Cut(l, r.IntN(20)-3)
	}
}

// R3

// withSpare returns a list whose spare capacity holds a piece, and a function that checks that both are unchanged.
func withSpare(t *testing.T, l []api.Piece) ([]api.Piece, func(what string)) {
	all := append(slices.Clone(l), whole(77, "spare"))
	kept := slices.Clone(all)
	return all[:len(l)], func(what string) {
		t.Helper()
		if !slices.Equal(all, kept) {
			t.Fatal(what, "changed", kept, "to", all)
		}
	}
}

func TestArgumentsStay(t *testing.T) {
	r := source(167)
	for range 3000 {
		l, check := withSpare(t, bufferAt(r, r.IntN(3), 6))
		p := whole(r.IntN(20), mixed(r, r.IntN(12)))
		policy, at := 1+r.IntN(5), r.IntN(25)
		overlap.Valid(l)
		overlap.Size(l)
		check("Valid or Size")
		got, _, _ := overlap.Insert(l, p, policy)
		check("Insert")
		spoil(got)
		check("the result of Insert")
		_, got = overlap.Take(l, at)
		check("Take")
		spoil(got)
		check("the rest of Take")
		got = overlap.Cut(l, at)
		check("Cut")
		spoil(got)
		check("the result of Cut")
		got, _, _ = overlap.Insert(l, api.Piece{}, 0)
		spoil(got)
		check("the result of an empty Insert")
	}
}

// spoil changes all pieces of a list, and what lies in its spare capacity.
func spoil(l []api.Piece) {
	l = l[:cap(l)]
	for k := range l {
		l[k] = api.Piece{At: -9, Data: "spoiled"}
	}
}

func TestEqualBytesAreNewMemory(t *testing.T) {
	l := buffer(whole(0, "ab"), whole(5, "c"))
	got, _, err := overlap.Insert(l, whole(0, "a"), api.PolicyDrop)
	if err != api.OK {
		t.Fatal(err)
	}
	spoil(got)
	if !slices.Equal(l, buffer(whole(0, "ab"), whole(5, "c"))) {
		t.Error("the result shares memory with the argument:", l)
	}
}
