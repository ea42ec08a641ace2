package defrag_test

import (
	"math"
	"math/rand/v2"
	"slices"
	"strings"
	"testing"

	"intrusion/api"
	"intrusion/defrag"
)

const (
	// lastTime is the greatest time, lastByte the greatest end of a fragment.
	lastTime = 1099511627776
	lastByte = 65535
	// mostOpen is the greatest number of open entries, mostPieces that of the pieces of each.
	mostOpen   = 32
	mostPieces = 64
)

// source returns pseudo random numbers, the same ones in every run.
func source(seed uint64) *rand.Rand { return rand.New(rand.NewPCG(seed, 0)) }

// more returns a fragment that is not the last one of the datagram id.
func more(id, offset int, data string) api.Fragment {
	return api.Fragment{Id: id, Ttl: 9, Offset: offset, More: true, Data: data}
}

// last returns the last fragment of the datagram id.
func last(id, offset int, data string) api.Fragment {
	return api.Fragment{Id: id, Ttl: 9, Offset: offset, Data: data}
}

// eights returns 8 bytes for each byte of s.
func eights(s string) string {
	var b strings.Builder
	for k := range len(s) {
		b.WriteString(strings.Repeat(s[k:k+1], 8))
	}
	return b.String()
}

// expectOpen checks that Add returns neither a datagram nor an error.
func expectOpen(t *testing.T, x *defrag.Table, at int, f api.Fragment, policy int) {
	t.Helper()
	if d, ok, err := x.Add(at, f, policy); d != (api.Datagram{}) || ok || err != api.OK {
		t.Fatalf("Add(%d, %v, %d) = %v, %v, %v", at, f, policy, d, ok, err)
	}
}

// expectWhole checks that Add returns a datagram.
func expectWhole(t *testing.T, x *defrag.Table, at int, f api.Fragment, policy int, want api.Datagram) {
	t.Helper()
	if d, ok, err := x.Add(at, f, policy); d != want || !ok || err != api.OK {
		t.Fatalf("Add(%d, %v, %d) = %v, %v, %v, want %v", at, f, policy, d, ok, err, want)
	}
}

// expectData checks that Add returns a datagram with these bytes, of a fragment whose Ttl is 9 and whose other fields are 0.
func expectData(t *testing.T, x *defrag.Table, at int, f api.Fragment, policy int, data string) {
	t.Helper()
	expectWhole(t, x, at, f, policy, api.Datagram{Ttl: 9, Data: data})
}

// expectError checks that Add returns an error, and nothing else.
func expectError(t *testing.T, x *defrag.Table, at int, f api.Fragment, policy int, want api.Errno) {
	t.Helper()
	if d, ok, err := x.Add(at, f, policy); d != (api.Datagram{}) || ok || err != want {
		t.Fatalf("Add(%d, %v, %d) = %v, %v, %v, want %v", at, f, policy, d, ok, err, want)
	}
}

// expectState checks Len, Size and Conflicts.
func expectState(t *testing.T, x *defrag.Table, length, size, conflicts int) {
	t.Helper()
	if x.Len() != length || x.Size() != size || x.Conflicts() != conflicts {
		t.Fatalf("%d entries, %d bytes, %d conflicts, want %d, %d, %d", x.Len(), x.Size(), x.Conflicts(), length, size, conflicts)
	}
}

// expectExpired checks the result of Expire.
func expectExpired(t *testing.T, x *defrag.Table, at, want int) {
	t.Helper()
	if n := x.Expire(at); n != want {
		t.Fatalf("Expire(%d) = %d, want %d", at, n, want)
	}
}

// cell is a byte of a datagram, and the ends of the fragment that it belongs to.
type cell struct {
	data     byte
	from, to int
}

// modelEntry is an entry of the model; byte by byte, so that it needs nothing of overlap.
type modelEntry struct {
	src, dst             api.Addr
	proto, id            int
	began, ttl, end      int
	isDiscarded, isEnded bool
	cells                map[int]cell
}

// model is a second description of a table. Its entries stand in the order in which their keys were added.
type model struct {
	timeout, time, conflicts int
	entries                  []*modelEntry
}

func newModel(timeout int) *model {
	return &model{timeout: min(max(timeout, 1), lastTime)}
}

// expire is what the chapter says about moving the time, and the number of open entries that this removes.
func (m *model) expire(at int) int {
	m.time = at
	removed := 0
	m.entries = slices.DeleteFunc(m.entries, func(e *modelEntry) bool {
		if e.began > at-m.timeout {
			return false
		}
		if !e.isDiscarded {
			removed++
		}
		return true
	})
	return removed
}

// find returns the entry of the key of a fragment, or nil.
func (m *model) find(f api.Fragment) *modelEntry {
	for _, e := range m.entries {
		if e.src == f.Src && e.dst == f.Dst && e.proto == f.Proto && e.id == f.Id {
			return e
		}
	}
	return nil
}

// add is what the chapter says about Add, step by step.
func (m *model) add(at int, f api.Fragment, policy int) (api.Datagram, bool, api.Errno) {
	if at < m.time || at > lastTime {
		return api.Datagram{}, false, api.ErrTime
	}
	m.expire(at)
	if f.Offset == 0 && !f.More {
		return api.Datagram{Src: f.Src, Dst: f.Dst, Proto: f.Proto, Ttl: f.Ttl, Data: f.Data}, true, api.OK
	}
	e := m.find(f)
	if err := m.refused(e, f, policy); err != api.OK {
		return api.Datagram{}, false, err
	}
	isNew := e == nil
	if isNew {
		e = &modelEntry{src: f.Src, dst: f.Dst, proto: f.Proto, id: f.Id, began: at, ttl: f.Ttl, cells: map[int]cell{}}
	}
	cells, n, err := definedInsert(e.cells, f, policy)
	if err == api.ErrOverlap {
		e.isDiscarded, e.cells = true, nil
	}
	if err != api.OK {
		return api.Datagram{}, false, err
	}
	if isNew {
		m.entries = append(m.entries, e)
	}
	m.conflicts += n
	e.cells, e.ttl = cells, min(e.ttl, f.Ttl)
	if !f.More {
		e.isEnded, e.end = true, f.Offset+len(f.Data)
	}
	if data, ok := e.bytes(); ok {
		m.entries = slices.DeleteFunc(m.entries, func(other *modelEntry) bool { return other == e })
		return api.Datagram{Src: f.Src, Dst: f.Dst, Proto: f.Proto, Ttl: e.ttl, Data: data}, true, api.OK
	}
	m.discardTheFirst()
	return api.Datagram{}, false, api.OK
}

// refused returns the error of the steps 3 to 6.
func (m *model) refused(e *modelEntry, f api.Fragment, policy int) api.Errno {
	if f.Offset < 0 || f.Offset > lastByte || f.Offset+len(f.Data) > lastByte || policy < 1 || policy > 5 {
		return api.ErrRange
	}
	if f.Data == "" || f.Offset%8 != 0 || f.More && len(f.Data)%8 != 0 {
		return api.ErrFormat
	}
	if e == nil {
		return api.OK
	}
	if e.isDiscarded {
		return api.ErrDropped
	}
	end := f.Offset + len(f.Data)
	if e.isEnded && end > e.end || e.isEnded && !f.More && end != e.end {
		return api.ErrFormat
	}
	for at := range e.cells {
		if !f.More && at >= end {
			return api.ErrFormat
		}
	}
	return api.OK
}

// discardTheFirst discards the open entry that began first if there are too many.
func (m *model) discardTheFirst() {
	if n, _ := m.counts(); n <= mostOpen {
		return
	}
	var first *modelEntry
	for _, e := range m.entries {
		if !e.isDiscarded && (first == nil || e.began < first.began) {
			first = e
		}
	}
	first.isDiscarded, first.cells = true, nil
}

// counts returns the number of the open entries, and that of their bytes.
func (m *model) counts() (int, int) {
	n, size := 0, 0
	for _, e := range m.entries {
		if !e.isDiscarded {
			n++
			size += len(e.cells)
		}
	}
	return n, size
}

// bytes returns the bytes of an entry if all of them are there.
func (e *modelEntry) bytes() (string, bool) {
	var b strings.Builder
	for at := range e.end {
		c, ok := e.cells[at]
		if !ok {
			return "", false
		}
		b.WriteByte(c.data)
	}
	return b.String(), e.isEnded
}

// definedInsert is what chapter 15 says about Insert, byte by byte.
func definedInsert(cells map[int]cell, f api.Fragment, policy int) (map[int]cell, int, api.Errno) {
	result := map[int]cell{}
	for at, c := range cells {
		result[at] = c
	}
	common, differing := 0, 0
	for k := range len(f.Data) {
		next := cell{f.Data[k], f.Offset, f.Offset + len(f.Data)}
		old, ok := cells[f.Offset+k]
		if ok {
			common++
		}
		if ok && old.data != next.data {
			differing++
		}
		if !ok || wins(policy, old, next) {
			result[f.Offset+k] = next
		}
	}
	if policy == 5 && common == len(f.Data) && differing == 0 {
		return cells, 0, api.OK
	}
	if policy == 5 && common > 0 {
		return nil, 0, api.ErrOverlap
	}
	if pieces(result) > mostPieces {
		return nil, 0, api.ErrFull
	}
	return result, differing, api.OK
}

func wins(policy int, old, next cell) bool {
	isEarlier := next.from < old.from
	isLonger := next.from == old.from && next.to > old.to
	return policy == 2 || policy == 3 && isEarlier || policy == 4 && (isEarlier || isLonger)
}

// pieces returns the number of the maximal sequences of adjacent bytes of fragments with the same ends.
func pieces(cells map[int]cell) int {
	n := 0
	for at, c := range cells {
		before, ok := cells[at-1]
		if !ok || before.from != c.from || before.to != c.to {
			n++
		}
	}
	return n
}

// pair is a table beside its model.
type pair struct {
	x       *defrag.Table
	m       *model
	results map[api.Errno]int
	wholes  int
}

func newPair(timeout int) *pair {
	return &pair{x: defrag.New(timeout), m: newModel(timeout), results: map[api.Errno]int{}}
}

// add checks a call of Add, and the state after it.
func (p *pair) add(t *testing.T, at int, f api.Fragment, policy int) (api.Datagram, bool, api.Errno) {
	t.Helper()
	want, isWanted, wanted := p.m.add(at, f, policy)
	d, ok, err := p.x.Add(at, f, policy)
	if d != want || ok != isWanted || err != wanted {
		t.Fatalf("Add(%d, %v, %d) = %v, %v, %v, want %v, %v, %v", at, f, policy, d, ok, err, want, isWanted, wanted)
	}
	p.results[err]++
	if ok {
		p.wholes++
	}
	p.compare(t)
	return d, ok, err
}

// expire checks a call of Expire, and the state after it.
func (p *pair) expire(t *testing.T, at int) int {
	t.Helper()
	n := p.m.expire(min(max(at, p.m.time), lastTime))
	expectExpired(t, p.x, at, n)
	p.compare(t)
	return n
}

// compare checks that the table has the state of its model.
func (p *pair) compare(t *testing.T) {
	t.Helper()
	n, size := p.m.counts()
	expectState(t, p.x, n, size, p.m.conflicts)
}

// P16.1

func TestNew(t *testing.T) {
	for _, timeout := range []int{math.MinInt, -1, 0, 1, 2, 1000, lastTime, lastTime + 1, math.MaxInt} {
		x := defrag.New(timeout)
		expectState(t, x, 0, 0, 0)
		expectExpired(t, x, lastTime, 0)
		expectState(t, x, 0, 0, 0)
	}
}

func TestTimeout(t *testing.T) {
	for timeout, removal := range map[int]int{
		math.MinInt: 1, -1000: 1, -1: 1, 0: 1, 1: 1, 2: 2, 3: 3, 1000: 1000, 30000: 30000,
		lastTime - 1: lastTime - 1, lastTime: lastTime, lastTime + 1: lastTime, math.MaxInt: lastTime,
	} {
		x := defrag.New(timeout)
		expectOpen(t, x, 0, last(1, 8, "a"), 1)
		expectExpired(t, x, removal-1, 0)
		expectState(t, x, 1, 1, 0)
		expectExpired(t, x, removal, 1)
		expectState(t, x, 0, 0, 0)
		x = defrag.New(timeout)
		expectOpen(t, x, 0, last(1, 8, "a"), 1)
		expectOpen(t, x, removal-1, last(1, 8, "b"), 1)
		expectState(t, x, 1, 1, 1)
		expectOpen(t, x, removal, last(1, 8, "b"), 1)
		expectState(t, x, 1, 1, 1)
	}
}

func TestTablesAreApart(t *testing.T) {
	x, y := defrag.New(10), defrag.New(10)
	expectOpen(t, x, 5, last(1, 8, "a"), 1)
	expectState(t, y, 0, 0, 0)
	expectOpen(t, y, 0, more(1, 0, "abcdefgh"), 1)
	expectState(t, x, 1, 1, 0)
}

// P16.2, step 1

func TestTimeThatGoesBack(t *testing.T) {
	x := defrag.New(10)
	expectError(t, x, -1, last(1, 0, "a"), 1, api.ErrTime)
	expectError(t, x, math.MinInt, last(1, 0, "a"), 1, api.ErrTime)
	expectOpen(t, x, 0, last(1, 8, "a"), 1)
	expectOpen(t, x, 7, last(2, 8, "a"), 1)
	expectOpen(t, x, 7, last(3, 8, "a"), 1)
	for _, at := range []int{6, 0, -1, math.MinInt, lastTime + 1, math.MaxInt} {
		expectError(t, x, at, last(1, 0, "a"), 1, api.ErrTime)
		expectError(t, x, at, more(1, 0, "abcdefgh"), 1, api.ErrTime)
		expectError(t, x, at, last(1, -1, ""), 0, api.ErrTime)
		expectState(t, x, 3, 3, 0)
	}
	// The refused times did not become that of the table.
	expectData(t, x, 7, more(1, 0, "abcdefgh"), 1, "abcdefgha")
	expectData(t, x, lastTime, last(1, 0, "b"), 1, "b")
	expectState(t, x, 0, 0, 0)
	expectError(t, x, lastTime-1, last(1, 0, "b"), 1, api.ErrTime)
	expectOpen(t, x, lastTime, last(1, 8, "b"), 1)
}

func TestTimeThatRemoves(t *testing.T) {
	x := defrag.New(10)
	expectOpen(t, x, 3, more(1, 8, "abcdefgh"), 1)
	expectOpen(t, x, 4, last(2, 8, "bb"), 1)
	expectOpen(t, x, 12, more(1, 16, "abcdefgh"), 1)
	expectState(t, x, 2, 18, 0)
	// The later fragment did not prolong the entry, so that this one does not complete the datagram.
	expectOpen(t, x, 13, more(1, 0, "abcdefgh"), 1)
	expectState(t, x, 2, 10, 0)
	expectData(t, x, 13, more(2, 0, "abcdefgh"), 1, "abcdefghbb")
	expectOpen(t, x, 22, last(1, 16, "c"), 1)
	expectState(t, x, 1, 9, 0)
	expectOpen(t, x, 23, more(1, 8, "abcdefgh"), 1)
	expectState(t, x, 1, 8, 0)
}

// Every kind of a fragment moves the time, even if it has no other effect.
func TestEveryFragmentMovesTheTime(t *testing.T) {
	for _, c := range []struct {
		f      api.Fragment
		policy int
		want   api.Errno
		ok     bool
	}{
		{last(9, 0, "whole"), 1, api.OK, true},
		{last(9, 0, "whole"), 0, api.OK, true},
		{last(9, 8, "a"), 1, api.OK, false},
		{last(9, -8, "a"), 1, api.ErrRange, false},
		{last(9, 8, "a"), 6, api.ErrRange, false},
		{last(9, 8, ""), 1, api.ErrFormat, false},
		{more(2, 8, "abcdefgh"), 1, api.ErrDropped, false},
		{last(3, 8, "ab"), 1, api.ErrFormat, false},
		{more(3, 8, "abcdefgh"), 1, api.ErrFormat, false},
		{more(3, 0, "abcdefgh"), 1, api.OK, true},
		{last(4, 8, "x"), 5, api.ErrOverlap, false},
	} {
		x := defrag.New(10)
		expectOpen(t, x, 0, last(1, 8, "a"), 1)
		expectOpen(t, x, 1, more(2, 8, "abcdefgh"), 1)
		expectError(t, x, 1, more(2, 8, "abcdefgx"), 5, api.ErrOverlap)
		expectOpen(t, x, 1, last(3, 8, "a"), 1)
		expectOpen(t, x, 1, last(4, 8, "a"), 1)
		expectState(t, x, 3, 3, 0)
		_, ok, err := x.Add(10, c.f, c.policy)
		if ok != c.ok || err != c.want {
			t.Fatal(c.f, ok, err)
		}
		// The entry of the datagram 1 is gone, and the time cannot go back.
		expectOpen(t, x, 10, more(1, 0, "abcdefgh"), 1)
		expectError(t, x, 9, last(1, 0, "a"), 1, api.ErrTime)
	}
}

// P16.2, step 2

func TestWholeDatagrams(t *testing.T) {
	src, dst := api.Addr{Lo: 1}, api.Addr{Lo: 2}
	x := defrag.New(10)
	for k, data := range []string{"", "a", "abcdefgh", "\x00\xff", strings.Repeat("x", lastByte), strings.Repeat("x", lastByte+1), strings.Repeat("x", 200000)} {
		for _, policy := range []int{math.MinInt, -1, 0, 1, 2, 3, 4, 5, 6, math.MaxInt} {
			f := api.Fragment{Src: src, Dst: dst, Proto: 17, Id: 5, Ttl: 64 - k, Data: data}
			expectWhole(t, x, k, f, policy, api.Datagram{Src: src, Dst: dst, Proto: 17, Ttl: 64 - k, Data: data})
			expectState(t, x, 0, 0, 0)
		}
	}
	for _, n := range []int{math.MinInt, -1, 0, 256, math.MaxInt} {
		f := api.Fragment{Src: dst, Dst: src, Proto: n, Id: n, Ttl: n, Data: "z"}
		expectWhole(t, x, 10, f, 1, api.Datagram{Src: dst, Dst: src, Proto: n, Ttl: n, Data: "z"})
	}
}

func TestWholeDatagramsBesideEntries(t *testing.T) {
	x := defrag.New(10)
	f := more(1, 8, "abcdefgh")
	f.Ttl = 7
	expectOpen(t, x, 0, f, 1)
	whole := last(1, 0, "xyz")
	whole.Ttl = 3
	expectWhole(t, x, 0, whole, 1, api.Datagram{Ttl: 3, Data: "xyz"})
	expectState(t, x, 1, 8, 0)
	// The Ttl and the bytes of the whole datagram made no difference to the entry.
	expectOpen(t, x, 0, more(1, 0, "ABCDEFGH"), 1)
	expectWhole(t, x, 0, last(1, 16, "i"), 1, api.Datagram{Ttl: 7, Data: "ABCDEFGHabcdefghi"})
	// A whole datagram also passes beside a discarded entry of its key.
	expectOpen(t, x, 1, more(1, 8, "abcdefgh"), 1)
	expectError(t, x, 1, more(1, 8, "abcdefgx"), 5, api.ErrOverlap)
	expectWhole(t, x, 1, whole, 5, api.Datagram{Ttl: 3, Data: "xyz"})
	expectError(t, x, 1, more(1, 8, "abcdefgh"), 5, api.ErrDropped)
}

// P16.2, steps 3 and 4

func TestFragmentsOutOfRange(t *testing.T) {
	x := defrag.New(10)
	for _, offset := range []int{math.MinInt, math.MinInt + 8, -lastByte, -8, -1, 65536, 65544, 1 << 20, math.MaxInt - 7, math.MaxInt} {
		for _, data := range []string{"", "a", "abcdefgh", "abcdefghi"} {
			expectError(t, x, 0, more(1, offset, data), 1, api.ErrRange)
			expectError(t, x, 0, last(1, offset, data), 1, api.ErrRange)
		}
	}
	expectError(t, x, 0, last(1, 65528, "abcdefgh"), 1, api.ErrRange)
	expectError(t, x, 0, more(1, 65528, "abcdefgh"), 1, api.ErrRange)
	expectError(t, x, 0, last(1, 65535, "a"), 1, api.ErrRange)
	expectError(t, x, 0, more(1, 0, strings.Repeat("a", 65536)), 1, api.ErrRange)
	expectError(t, x, 0, last(1, 8, strings.Repeat("a", 65528)), 1, api.ErrRange)
	for _, policy := range []int{math.MinInt, -1, 0, 6, 7, math.MaxInt} {
		expectError(t, x, 0, last(1, 8, "a"), policy, api.ErrRange)
		expectError(t, x, 0, more(1, 0, ""), policy, api.ErrRange)
	}
	expectState(t, x, 0, 0, 0)
	for policy := 1; policy <= 5; policy++ {
		expectOpen(t, x, 0, last(policy, 65528, "abcdefg"), policy)
		expectOpen(t, x, 0, more(policy, 65520, "abcdefgh"), policy)
		expectOpen(t, x, 0, more(policy+5, 0, strings.Repeat("a", 65528)), policy)
		expectOpen(t, x, 0, last(policy+10, 8, strings.Repeat("a", 65527)), policy)
	}
}

func TestMalformedFragments(t *testing.T) {
	x := defrag.New(10)
	for offset := range 25 {
		for size := range 25 {
			data := strings.Repeat("x", size)
			want := api.OK
			if size == 0 || offset%8 != 0 || size%8 != 0 {
				want = api.ErrFormat
			}
			y := newPair(10)
			if _, _, err := y.add(t, 0, more(1, offset, data), 1); err != want {
				t.Error("more", offset, size, err)
			}
			want = api.OK
			if offset > 0 && (size == 0 || offset%8 != 0) {
				want = api.ErrFormat
			}
			if _, _, err := y.add(t, 0, last(2, offset, data), 1); err != want {
				t.Error("last", offset, size, err)
			}
		}
	}
	expectError(t, x, 0, more(1, 0, "123456789"), 1, api.ErrFormat)
	expectError(t, x, 0, more(1, 0, ""), 1, api.ErrFormat)
	expectError(t, x, 0, more(1, 65535, ""), 1, api.ErrFormat)
	expectError(t, x, 0, last(1, 65535, ""), 1, api.ErrFormat)
	expectError(t, x, 0, last(1, 65534, "a"), 1, api.ErrFormat)
	expectError(t, x, 0, more(1, 65528, "abcdefg"), 1, api.ErrFormat)
	expectState(t, x, 0, 0, 0)
}

func TestOrderOfErrors(t *testing.T) {
	open := defrag.New(10)
	expectOpen(t, open, 5, last(1, 8, "ab"), 1)
	discarded := defrag.New(10)
	expectOpen(t, discarded, 5, last(1, 8, "ab"), 1)
	expectError(t, discarded, 5, last(1, 8, "xx"), 5, api.ErrOverlap)
	for _, c := range []struct {
		at     int
		f      api.Fragment
		policy int
		open   api.Errno
		closed api.Errno
	}{
		{4, last(1, 0, "x"), 1, api.ErrTime, api.ErrTime},
		{4, more(1, -1, ""), 0, api.ErrTime, api.ErrTime},
		{5, more(1, -8, ""), 1, api.ErrRange, api.ErrRange},
		{5, more(1, 4, "abc"), 0, api.ErrRange, api.ErrRange},
		{5, more(1, 4, "abc"), 5, api.ErrFormat, api.ErrFormat},
		{5, more(1, 8, ""), 5, api.ErrFormat, api.ErrFormat},
		{5, last(1, 8, ""), 5, api.ErrFormat, api.ErrFormat},
		{5, last(1, 8, "abc"), 5, api.ErrFormat, api.ErrDropped},
		{5, last(1, 8, "a"), 5, api.ErrFormat, api.ErrDropped},
		{5, more(1, 8, "abcdefgh"), 5, api.ErrFormat, api.ErrDropped},
	} {
		expectError(t, open, c.at, c.f, c.policy, c.open)
		expectError(t, discarded, c.at, c.f, c.policy, c.closed)
		expectState(t, open, 1, 2, 0)
		expectState(t, discarded, 0, 0, 0)
	}
}

// P16.2, steps 5 and 6

func TestDiscardedEntries(t *testing.T) {
	x := defrag.New(1000)
	expectOpen(t, x, 0, more(1, 0, "abcdefgh"), api.PolicyLast)
	expectOpen(t, x, 10, more(2, 0, "abcdefgh"), api.PolicyLast)
	expectError(t, x, 500, more(1, 0, "abcdefgx"), api.PolicyDrop, api.ErrOverlap)
	expectState(t, x, 1, 8, 0)
	for policy := 1; policy <= 5; policy++ {
		expectError(t, x, 500, more(1, 0, "abcdefgh"), policy, api.ErrDropped)
		expectError(t, x, 500, last(1, 8, "a"), policy, api.ErrDropped)
	}
	expectState(t, x, 1, 8, 0)
	expectError(t, x, 999, more(1, 80, "abcdefgh"), 1, api.ErrDropped)
	// It keeps the time at which it began.
	expectOpen(t, x, 1000, more(1, 0, "abcdefgh"), 1)
	expectState(t, x, 2, 16, 0)
	expectData(t, x, 1000, last(1, 8, "z"), 5, "abcdefghz")
	expectState(t, x, 1, 8, 0)
}

func TestEndsThatDoNotFit(t *testing.T) {
	for _, c := range []struct {
		l    []api.Fragment
		f    api.Fragment
		want api.Errno
	}{
		// The end is known.
		{[]api.Fragment{last(1, 16, "ab")}, last(1, 16, "abc"), api.ErrFormat},
		{[]api.Fragment{last(1, 16, "ab")}, last(1, 16, "a"), api.ErrFormat},
		{[]api.Fragment{last(1, 16, "ab")}, last(1, 8, "abcdefgh"), api.ErrFormat},
		{[]api.Fragment{last(1, 16, "ab")}, last(1, 24, "a"), api.ErrFormat},
		{[]api.Fragment{last(1, 16, "ab")}, more(1, 16, eights("a")), api.ErrFormat},
		{[]api.Fragment{last(1, 16, "ab")}, more(1, 24, eights("a")), api.ErrFormat},
		{[]api.Fragment{last(1, 16, "ab")}, more(1, 8, eights("aa")), api.ErrFormat},
		{[]api.Fragment{last(1, 16, "ab")}, last(1, 8, eights("x")+"ab"), api.OK},
		{[]api.Fragment{last(1, 16, "ab")}, last(1, 16, "xy"), api.OK},
		{[]api.Fragment{last(1, 16, "ab")}, more(1, 8, eights("a")), api.OK},
		{[]api.Fragment{last(1, 16, eights("a"))}, more(1, 16, eights("b")), api.OK},
		{[]api.Fragment{last(1, 16, eights("a"))}, more(1, 8, eights("bb")), api.OK},
		{[]api.Fragment{last(1, 16, eights("a"))}, more(1, 16, eights("bb")), api.ErrFormat},
		{[]api.Fragment{last(1, 16, eights("a"))}, more(1, 24, eights("b")), api.ErrFormat},
		{[]api.Fragment{last(1, 16, eights("a")), last(1, 16, eights("a"))}, last(1, 16, "a"), api.ErrFormat},
		// It is not known.
		{[]api.Fragment{more(1, 16, eights("a"))}, last(1, 16, "a"), api.ErrFormat},
		{[]api.Fragment{more(1, 16, eights("a"))}, last(1, 8, eights("a")), api.ErrFormat},
		{[]api.Fragment{more(1, 16, eights("a"))}, last(1, 8, "a"), api.ErrFormat},
		{[]api.Fragment{more(1, 16, eights("a"))}, last(1, 16, eights("b")), api.OK},
		{[]api.Fragment{more(1, 16, eights("a"))}, last(1, 8, eights("bb")), api.OK},
		{[]api.Fragment{more(1, 16, eights("a"))}, last(1, 24, "b"), api.OK},
		{[]api.Fragment{more(1, 16, eights("a"))}, last(1, 80, "b"), api.OK},
		{[]api.Fragment{more(1, 16, eights("a")), more(1, 0, eights("a"))}, last(1, 8, "a"), api.ErrFormat},
		{[]api.Fragment{more(1, 0, eights("a")), more(1, 16, eights("a"))}, last(1, 8, "a"), api.ErrFormat},
		{[]api.Fragment{more(1, 16, eights("a"))}, more(1, 8, eights("b")), api.OK},
		{[]api.Fragment{more(1, 16, eights("a"))}, more(1, 800, eights("b")), api.OK},
	} {
		for policy := 1; policy <= 4; policy++ {
			p := newPair(10)
			for _, f := range c.l {
				p.add(t, 0, f, policy)
			}
			if _, _, err := p.add(t, 0, c.f, policy); err != c.want {
				t.Error("policy", policy, "after", c.l, "the fragment", c.f, "gives", err)
			}
			// Another datagram is not affected by the end of this one.
			c.f.Id = 2
			expectOpen(t, p.x, 0, c.f, policy)
			c.f.Id = 1
		}
	}
}

func TestRefusedFragmentsHaveNoEffect(t *testing.T) {
	x := defrag.New(10)
	f := more(1, 0, eights("a"))
	f.Ttl = 50
	expectOpen(t, x, 0, f, 1)
	f = last(1, 16, "ab")
	f.Ttl = 40
	expectOpen(t, x, 0, f, 1)
	for _, f := range []api.Fragment{last(1, 8, "abcdefgh"), last(1, 16, "c"), last(1, 16, "xyz"), more(1, 16, eights("x")), more(1, 8, "x"), more(1, 4, eights("x")), last(1, -8, "x"), more(1, 8, "")} {
		f.Ttl = 1
		if _, ok, err := x.Add(0, f, 2); ok || err == api.OK {
			t.Fatal(f, ok, err)
		}
		expectState(t, x, 1, 10, 0)
	}
	f = more(1, 8, eights("b"))
	f.Ttl = 60
	expectWhole(t, x, 0, f, 1, api.Datagram{Ttl: 40, Data: eights("ab") + "ab"})
}

// P16.2, steps 7 and 8

func TestPolicies(t *testing.T) {
	a, b := more(1, 0, eights("aaaa")), more(1, 16, eights("bbbb"))
	for _, c := range []struct {
		policy int
		ab, ba string
	}{
		{api.PolicyFirst, "aaaabbz", "aabbbbz"},
		{api.PolicyLast, "aabbbbz", "aaaabbz"},
		{api.PolicyBsd, "aaaabbz", "aaaabbz"},
		{api.PolicyLinux, "aaaabbz", "aaaabbz"},
	} {
		x := defrag.New(10)
		expectOpen(t, x, 0, a, c.policy)
		expectOpen(t, x, 0, b, c.policy)
		expectState(t, x, 1, 48, 16)
		expectData(t, x, 0, last(1, 48, eights("z")), c.policy, eights(c.ab))
		expectOpen(t, x, 0, b, c.policy)
		expectOpen(t, x, 0, last(1, 48, eights("z")), c.policy)
		expectData(t, x, 0, a, c.policy, eights(c.ba))
		expectState(t, x, 0, 0, 32)
	}
	// From the same offset, the longer one wins under PolicyLinux only.
	for policy, want := range map[int]string{api.PolicyFirst: "abbz", api.PolicyLast: "bbbz", api.PolicyBsd: "abbz", api.PolicyLinux: "bbbz"} {
		x := defrag.New(10)
		expectOpen(t, x, 0, more(1, 0, eights("a")), policy)
		expectOpen(t, x, 0, more(1, 0, eights("bbb")), policy)
		expectData(t, x, 0, last(1, 24, eights("z")), policy, eights(want))
	}
	// Each fragment comes under a policy of its own.
	x := defrag.New(10)
	expectOpen(t, x, 0, more(1, 0, eights("a")), api.PolicyDrop)
	expectOpen(t, x, 0, more(1, 0, eights("b")), api.PolicyLast)
	expectOpen(t, x, 0, more(1, 0, eights("c")), api.PolicyFirst)
	expectData(t, x, 0, last(1, 8, "z"), api.PolicyDrop, eights("b")+"z")
	expectState(t, x, 0, 0, 16)
}

func TestPolicyDrop(t *testing.T) {
	for _, f := range []api.Fragment{more(1, 8, eights("x")), more(1, 0, eights("xa")), more(1, 8, eights("ab")), more(1, 16, eights("bb")), more(1, 16, eights("bx")), last(1, 16, eights("by"))} {
		x := defrag.New(10)
		expectOpen(t, x, 0, more(1, 8, eights("ab")), 5)
		expectOpen(t, x, 0, more(1, 8, eights("ab")), 5)
		expectOpen(t, x, 0, more(1, 16, eights("b")), 5)
		expectState(t, x, 1, 16, 0)
		if f.Offset == 8 && len(f.Data) == 16 {
			expectOpen(t, x, 0, f, 5)
			continue
		}
		expectError(t, x, 0, f, 5, api.ErrOverlap)
		expectState(t, x, 0, 0, 0)
		expectError(t, x, 0, more(1, 0, eights("z")), 5, api.ErrDropped)
	}
	x := defrag.New(10)
	expectOpen(t, x, 0, more(1, 8, eights("a")), 5)
	expectOpen(t, x, 0, last(1, 16, "z"), 5)
	expectData(t, x, 0, more(1, 0, eights("b")), 5, eights("ba")+"z")
}

// Equal bytes change no piece under PolicyDrop, but the Ttl and the end count.
func TestRepetitionUnderPolicyDrop(t *testing.T) {
	x := defrag.New(10)
	f := more(1, 0, eights("ab"))
	f.Ttl = 20
	expectOpen(t, x, 0, f, 5)
	f = more(1, 0, eights("a"))
	f.Ttl = 10
	expectOpen(t, x, 0, f, 5)
	f = last(1, 8, eights("b"))
	f.Ttl = 15
	expectWhole(t, x, 0, f, 5, api.Datagram{Ttl: 10, Data: eights("ab")})
}

func TestLeastTtl(t *testing.T) {
	for _, ttls := range [][3]int{{1, 2, 3}, {3, 2, 1}, {2, 1, 3}, {3, 3, 3}, {0, 255, 255}, {255, 0, 255}, {-1, -2, 0}, {math.MaxInt, math.MinInt, 0}, {math.MaxInt, math.MaxInt, math.MaxInt}} {
		x := defrag.New(10)
		for k, f := range []api.Fragment{last(1, 16, "c"), more(1, 0, eights("a")), more(1, 8, eights("b"))} {
			f.Ttl = ttls[k]
			if k < 2 {
				expectOpen(t, x, 0, f, 1)
				continue
			}
			expectWhole(t, x, 0, f, 1, api.Datagram{Ttl: slices.Min(ttls[:]), Data: eights("ab") + "c"})
		}
	}
	// Also that of a fragment none of whose bytes counts.
	x := defrag.New(10)
	expectOpen(t, x, 0, more(1, 0, eights("a")), 1)
	f := more(1, 0, eights("b"))
	f.Ttl = 2
	expectOpen(t, x, 0, f, 1)
	expectWhole(t, x, 0, last(1, 8, "c"), 1, api.Datagram{Ttl: 2, Data: eights("a") + "c"})
}

func TestKeys(t *testing.T) {
	base := api.Fragment{Src: api.Addr{Lo: 1}, Dst: api.Addr{Lo: 2}, Proto: 17, Id: 5, Ttl: 9, Offset: 8, Data: "x"}
	variants := []func(f *api.Fragment){
		func(f *api.Fragment) {},
		func(f *api.Fragment) { f.Src.Lo = 3 },
		func(f *api.Fragment) { f.Src.Hi = 1 },
		func(f *api.Fragment) { f.Src.V6 = true },
		func(f *api.Fragment) { f.Src.Lo = 1<<32 + 1 },
		func(f *api.Fragment) { f.Dst.Lo = 3 },
		func(f *api.Fragment) { f.Dst.Hi = 1 },
		func(f *api.Fragment) { f.Dst.V6 = true },
		func(f *api.Fragment) { f.Dst.Lo = 1<<32 + 2 },
		func(f *api.Fragment) { f.Src, f.Dst = f.Dst, f.Src },
		func(f *api.Fragment) { f.Proto = 18 },
		func(f *api.Fragment) { f.Proto = 17 + 256 },
		func(f *api.Fragment) { f.Proto = -17 },
		func(f *api.Fragment) { f.Id = 6 },
		func(f *api.Fragment) { f.Id = 5 + 65536 },
		func(f *api.Fragment) { f.Id = 5 + 1<<32 },
		func(f *api.Fragment) { f.Id = math.MinInt },
		func(f *api.Fragment) { f.Proto, f.Id = f.Id, f.Proto },
	}
	x := defrag.New(10)
	for k, change := range variants {
		f := base
		change(&f)
		f.Data = string([]byte{byte('A' + k)})
		expectOpen(t, x, 0, f, 1)
		expectState(t, x, k+1, k+1, 0)
	}
	for k, change := range variants {
		f := base
		change(&f)
		f.Offset, f.More, f.Data = 0, true, eights("z")
		want := api.Datagram{Src: f.Src, Dst: f.Dst, Proto: f.Proto, Ttl: 9, Data: eights("z") + string([]byte{byte('A' + k)})}
		expectWhole(t, x, 0, f, 1, want)
	}
	expectState(t, x, 0, 0, 0)
}

func TestCompletion(t *testing.T) {
	parts := []api.Fragment{more(1, 0, eights("a")), more(1, 8, eights("bc")), more(1, 24, eights("d")), last(1, 32, "e")}
	for _, order := range [][]int{{0, 1, 2, 3}, {3, 2, 1, 0}, {1, 3, 0, 2}, {2, 0, 3, 1}} {
		for policy := 1; policy <= 5; policy++ {
			x := defrag.New(10)
			size := 0
			for _, k := range order[:3] {
				expectOpen(t, x, 0, parts[k], policy)
				size += len(parts[k].Data)
				expectState(t, x, 1, size, 0)
			}
			expectData(t, x, 0, parts[order[3]], policy, eights("abcd")+"e")
			expectState(t, x, 0, 0, 0)
			// The next datagram with this key begins anew.
			expectOpen(t, x, 0, parts[3], policy)
			expectState(t, x, 1, 1, 0)
		}
	}
	// Without its end a datagram is never complete.
	x := defrag.New(10)
	expectOpen(t, x, 0, more(1, 0, eights("a")), 1)
	expectOpen(t, x, 0, more(1, 8, eights("b")), 1)
	// An overlap that contains everything completes it at once.
	expectData(t, x, 0, last(1, 8, eights("c")+"d"), 2, eights("ac")+"d")
	// The greatest datagram.
	long := strings.Repeat("abcdefgh", 8191)
	expectOpen(t, x, 0, last(1, 65528, "1234567"), 1)
	expectData(t, x, 0, more(1, 0, long), 1, long+"1234567")
	expectOpen(t, x, 0, more(1, 0, eights("a")), 1)
	expectData(t, x, 0, last(1, 8, long[8:]+"1234567"), 1, eights("a")+long[8:]+"1234567")
}

func TestConflicts(t *testing.T) {
	x := defrag.New(10)
	expectOpen(t, x, 0, more(1, 0, "abcdefgh"), 1)
	expectOpen(t, x, 0, more(1, 0, "abcdefgx"), 1)
	expectState(t, x, 1, 8, 1)
	// The bytes that were not replaced agree again.
	expectOpen(t, x, 0, more(1, 0, "abcdefgh"), 2)
	expectState(t, x, 1, 8, 1)
	expectOpen(t, x, 0, more(1, 0, "ABCDEFGH"), 2)
	expectState(t, x, 1, 8, 9)
	expectOpen(t, x, 0, more(2, 0, "xxxxxxxx"), 2)
	expectState(t, x, 2, 16, 9)
	expectOpen(t, x, 0, more(2, 0, "xyxyxyxy"), 4)
	expectState(t, x, 2, 16, 13)
}

func TestConflictsStay(t *testing.T) {
	x := defrag.New(10)
	expectOpen(t, x, 0, more(1, 0, "abcdefgh"), 1)
	expectData(t, x, 0, last(1, 8, "abc"), 1, "abcdefghabc")
	expectOpen(t, x, 0, more(1, 8, "abcdefgh"), 1)
	expectOpen(t, x, 0, last(1, 16, "z"), 1)
	expectData(t, x, 0, more(1, 0, "ABCDEFGHxbcdefgx"), 1, "ABCDEFGHabcdefghz")
	expectState(t, x, 0, 0, 2)
	expectOpen(t, x, 0, more(1, 8, "abcdefgh"), 1)
	expectOpen(t, x, 0, more(1, 8, "xbcdefgh"), 1)
	expectState(t, x, 1, 8, 3)
	// What a fragment that discards its entry overlaps is not counted.
	expectError(t, x, 0, more(1, 8, "xxxxxxxx"), 5, api.ErrOverlap)
	expectState(t, x, 0, 0, 3)
	expectError(t, x, 0, more(1, 8, "yyyyyyyy"), 1, api.ErrDropped)
	expectState(t, x, 0, 0, 3)
	expectExpired(t, x, 10, 0)
	expectState(t, x, 0, 0, 3)
}

// fill adds n fragments with gaps between them to the datagram 1.
func fill(t *testing.T, x *defrag.Table, n int) {
	t.Helper()
	for k := range n {
		expectOpen(t, x, 0, more(1, 16*k, eights("a")), 1)
	}
	expectState(t, x, 1, 8*n, 0)
}

func TestFullEntries(t *testing.T) {
	for policy := 1; policy <= 5; policy++ {
		x := defrag.New(10)
		fill(t, x, mostPieces)
		for _, f := range []api.Fragment{last(1, 5000, "b"), more(1, 5000, eights("b")), more(1, 8, eights("b"))} {
			f.Ttl = 1
			expectError(t, x, 3, f, policy, api.ErrFull)
			expectState(t, x, 1, 8*mostPieces, 0)
		}
		// The time moved, and another datagram is not affected.
		expectError(t, x, 2, more(1, 0, eights("a")), policy, api.ErrTime)
		expectOpen(t, x, 3, more(2, 5000, eights("b")), policy)
		expectState(t, x, 2, 8*mostPieces+8, 0)
		// Neither the Ttl nor the end became that of a refused fragment.
		expectOpen(t, x, 3, last(1, 1008, eights("a")), api.PolicyLast)
		expectData(t, x, 3, more(1, 0, strings.Repeat("c", 1008)), api.PolicyLast, strings.Repeat("c", 1008)+eights("a"))
	}
}

func TestFullEntriesThatWouldConflict(t *testing.T) {
	for policy, want := range map[int]api.Errno{api.PolicyFirst: api.ErrFull, api.PolicyLast: api.OK, api.PolicyBsd: api.ErrFull, api.PolicyLinux: api.OK, api.PolicyDrop: api.ErrOverlap} {
		x := defrag.New(10)
		fill(t, x, mostPieces)
		expectError(t, x, 0, more(1, 0, eights("bb")), policy, want)
		switch want {
		case api.OK:
			expectState(t, x, 1, 8*mostPieces+8, 8)
		case api.ErrFull:
			expectState(t, x, 1, 8*mostPieces, 0)
		default:
			expectState(t, x, 0, 0, 0)
			expectError(t, x, 0, more(1, 0, eights("a")), 1, api.ErrDropped)
		}
	}
	// One piece fewer leaves place for one more.
	x := defrag.New(10)
	fill(t, x, mostPieces-1)
	expectOpen(t, x, 0, more(1, 0, eights("bb")), api.PolicyFirst)
	expectState(t, x, 1, 8*mostPieces, 8)
}

// P16.2, step 9

// opened returns a table with the timeout 1000 and entries with these keys, which began one after the other at the time at, each with 3 bytes.
func opened(t *testing.T, at int, ids []int) *defrag.Table {
	t.Helper()
	x := defrag.New(1000)
	for k, id := range ids {
		expectOpen(t, x, at, last(id, 16, "abc"), 1)
		expectState(t, x, k+1, 3*k+3, 0)
	}
	return x
}

// numbers returns the numbers from one up to, but without, another one.
func numbers(from, to int) []int {
	var l []int
	for n := from; n < to; n++ {
		l = append(l, n)
	}
	return l
}

func TestTooManyEntries(t *testing.T) {
	x := opened(t, 5, numbers(0, mostOpen))
	// Neither a further fragment of an entry, nor a whole datagram or a refused fragment makes them too many.
	expectOpen(t, x, 6, more(0, 8, eights("a")), 1)
	expectData(t, x, 6, last(99, 0, "whole"), 1, "whole")
	expectError(t, x, 6, last(99, 12, "x"), 1, api.ErrFormat)
	expectState(t, x, mostOpen, 3*mostOpen+8, 0)
	// The entry 0 began first, although its last fragment came after all others.
	expectOpen(t, x, 7, last(100, 16, "z"), 1)
	expectState(t, x, mostOpen, 3*mostOpen-2, 0)
	expectError(t, x, 7, more(0, 0, eights("b")), 1, api.ErrDropped)
	// The others are as they were.
	expectData(t, x, 7, more(1, 0, eights("de")), 1, eights("de")+"abc")
	expectData(t, x, 7, more(100, 0, eights("de")), 1, eights("de")+"z")
	expectState(t, x, mostOpen-2, 3*mostOpen-6, 0)
	// The discarded one makes no difference to the number of those that are possible.
	expectOpen(t, x, 8, last(101, 16, "z"), 1)
	expectOpen(t, x, 8, last(102, 16, "z"), 1)
	expectState(t, x, mostOpen, 3*mostOpen-4, 0)
	expectOpen(t, x, 8, more(2, 8, eights("a")), 1)
	// It keeps its time, too.
	expectError(t, x, 1004, more(0, 0, eights("b")), 1, api.ErrDropped)
	expectOpen(t, x, 1005, more(0, 0, eights("b")), 1)
	expectState(t, x, 3, 10, 0)
}

func TestTheFirstOfSeveralIsDiscarded(t *testing.T) {
	r := source(168)
	for range 200 {
		ids := r.Perm(mostOpen)
		x := opened(t, 0, ids)
		// Some of them get further fragments, which do not matter.
		for _, id := range r.Perm(mostOpen)[:10] {
			expectOpen(t, x, 0, last(id, 16, "abc"), 1)
		}
		for k, id := range ids {
			expectOpen(t, x, 0, last(100+k, 16, "abc"), 1)
			expectState(t, x, mostOpen, 3*mostOpen, 0)
			expectError(t, x, 0, last(id, 16, "abc"), 1, api.ErrDropped)
			if k+1 < len(ids) {
				expectOpen(t, x, 0, last(ids[k+1], 16, "abc"), 1)
			}
		}
		expectOpen(t, x, 0, last(200, 16, "abc"), 1)
		expectError(t, x, 0, last(100, 16, "abc"), 1, api.ErrDropped)
		expectOpen(t, x, 0, last(101, 16, "abc"), 1)
	}
}

// An entry that was completed, or discarded and removed, and begins again is the last one.
func TestAnEntryThatBeginsAgain(t *testing.T) {
	x := opened(t, 0, numbers(0, mostOpen))
	expectData(t, x, 0, more(0, 0, eights("de")), 1, eights("de")+"abc")
	expectOpen(t, x, 0, last(0, 16, "abc"), 1)
	expectOpen(t, x, 0, last(50, 16, "abc"), 1)
	expectError(t, x, 0, last(1, 16, "abc"), 1, api.ErrDropped)
	expectOpen(t, x, 0, last(0, 16, "abc"), 1)
	expectOpen(t, x, 0, last(2, 16, "abc"), 1)

	x = defrag.New(10)
	expectOpen(t, x, 0, last(0, 16, "abc"), 1)
	for id := 1; id < mostOpen; id++ {
		expectOpen(t, x, 9, last(id, 16, "abc"), 1)
	}
	expectOpen(t, x, 10, last(0, 16, "abc"), 1)
	expectOpen(t, x, 10, last(50, 16, "abc"), 1)
	expectError(t, x, 10, last(1, 16, "abc"), 1, api.ErrDropped)
	expectOpen(t, x, 10, last(0, 16, "abc"), 1)
}

// P16.3

func TestExpire(t *testing.T) {
	x := defrag.New(10)
	expectOpen(t, x, 3, last(1, 8, "a"), 1)
	expectOpen(t, x, 5, last(2, 8, "bb"), 1)
	expectOpen(t, x, 5, last(3, 8, "ccc"), 1)
	expectOpen(t, x, 8, last(4, 8, "dddd"), 1)
	expectExpired(t, x, 12, 0)
	expectState(t, x, 4, 10, 0)
	expectExpired(t, x, 13, 1)
	expectState(t, x, 3, 9, 0)
	expectExpired(t, x, 13, 0)
	expectExpired(t, x, 15, 2)
	expectState(t, x, 1, 4, 0)
	expectExpired(t, x, 1000, 1)
	expectState(t, x, 0, 0, 0)
	expectExpired(t, x, 1000, 0)
}

func TestExpireMovesTheTime(t *testing.T) {
	x := defrag.New(10)
	expectOpen(t, x, 3, last(1, 8, "a"), 1)
	expectExpired(t, x, 7, 0)
	expectError(t, x, 6, last(1, 0, "a"), 1, api.ErrTime)
	// An earlier time counts as 7.
	for _, at := range []int{6, 3, 0, -1, math.MinInt} {
		expectExpired(t, x, at, 0)
		expectError(t, x, 6, last(1, 0, "a"), 1, api.ErrTime)
		expectState(t, x, 1, 1, 0)
	}
	expectOpen(t, x, 7, more(2, 0, eights("a")), 1)
	// A later one counts as the last one.
	for _, at := range []int{lastTime + 1, math.MaxInt} {
		y := defrag.New(10)
		expectOpen(t, y, 7, last(1, 8, "a"), 1)
		expectExpired(t, y, at, 1)
		expectError(t, y, lastTime-1, last(1, 0, "a"), 1, api.ErrTime)
		expectOpen(t, y, lastTime, last(1, 8, "a"), 1)
		expectExpired(t, y, at, 0)
		expectState(t, y, 1, 1, 0)
	}
	// With the greatest timeout an entry that began at 1 is never removed.
	z := defrag.New(lastTime)
	expectOpen(t, z, 0, last(1, 8, "a"), 1)
	expectOpen(t, z, 1, last(2, 8, "a"), 1)
	expectExpired(t, z, math.MaxInt, 1)
	expectState(t, z, 1, 1, 0)
}

func TestExpireOfDiscardedEntries(t *testing.T) {
	x := defrag.New(10)
	for id := range 4 {
		expectOpen(t, x, id, more(id, 0, eights("a")), 1)
	}
	// Discarded in another order than that in which they began.
	for _, id := range []int{2, 0, 3} {
		expectError(t, x, 4, more(id, 0, eights("b")), 5, api.ErrOverlap)
	}
	expectState(t, x, 1, 8, 0)
	// They are not counted, but removed.
	expectExpired(t, x, 10, 0)
	expectError(t, x, 10, more(2, 0, eights("b")), 1, api.ErrDropped)
	expectError(t, x, 10, more(3, 0, eights("b")), 1, api.ErrDropped)
	expectExpired(t, x, 12, 1)
	expectState(t, x, 0, 0, 0)
	expectError(t, x, 12, more(3, 0, eights("b")), 1, api.ErrDropped)
	expectOpen(t, x, 12, more(2, 0, eights("b")), 1)
	expectOpen(t, x, 12, more(0, 0, eights("b")), 1)
	expectOpen(t, x, 13, more(3, 0, eights("b")), 1)
	expectState(t, x, 3, 24, 0)
}

// P16.4

func TestLenAndSize(t *testing.T) {
	x := defrag.New(100)
	expectOpen(t, x, 0, more(1, 0, eights("aa")), 1)
	expectState(t, x, 1, 16, 0)
	// Bytes that overlap count once.
	expectOpen(t, x, 0, more(1, 8, eights("aa")), 1)
	expectState(t, x, 1, 24, 0)
	expectOpen(t, x, 0, more(1, 0, eights("aaa")), 2)
	expectState(t, x, 1, 24, 0)
	expectOpen(t, x, 1, last(2, 80, "x"), 1)
	expectState(t, x, 2, 25, 0)
	expectError(t, x, 2, more(1, 16, eights("ab")), 5, api.ErrOverlap)
	expectState(t, x, 1, 1, 0)
	expectOpen(t, x, 2, more(3, 800, eights("abc")), 1)
	expectState(t, x, 2, 25, 0)
	expectExpired(t, x, 101, 1)
	expectState(t, x, 1, 24, 0)
	expectData(t, x, 101, last(3, 0, "whole"), 1, "whole")
	expectState(t, x, 1, 24, 0)
}

// P16.2 to P16.4 together: a table does what the model does.

func TestSomeFragments(t *testing.T) {
	r := source(169)
	results, wholes, expired := map[api.Errno]int{}, 0, 0
	for range 4000 {
		p := newPair(1 + r.IntN(30))
		at := 0
		for range 40 {
			if r.IntN(5) == 0 {
				at += r.IntN(4)
			}
			if r.IntN(20) == 0 {
				expired += p.expire(t, at+r.IntN(9)-4)
			}
			f := api.Fragment{Id: r.IntN(3), Ttl: 60 + r.IntN(5), Offset: 8 * r.IntN(4), More: r.IntN(3) > 0, Data: eights("aaaaab"[:r.IntN(4)])}
			f.Data = mixed(r, f.Data)
			switch r.IntN(40) {
			case 0:
				f.Offset += r.IntN(17) - 8
			case 1:
				f.Data += "odd"
			case 2:
				f.Offset = lastByte - r.IntN(40)
			}
			if !f.More && r.IntN(2) == 0 {
				f.Offset, f.Data = 24, f.Data[:min(len(f.Data), 5)]
			}
			policy := 1 + r.IntN(4)
			if r.IntN(12) == 0 {
				policy = r.IntN(7)
			}
			p.add(t, at, f, policy)
		}
		for e, n := range p.results {
			results[e] += n
		}
		wholes += p.wholes
	}
	for _, e := range []api.Errno{api.OK, api.ErrTime, api.ErrRange, api.ErrFormat, api.ErrOverlap, api.ErrDropped} {
		if results[e] < 300 {
			t.Error("the result", e, "only", results[e], "times")
		}
	}
	if wholes < 5000 || expired < 500 {
		t.Error("only", wholes, "datagrams and", expired, "entries that were too old")
	}
}

// mixed returns s, in some places with another byte.
func mixed(r *rand.Rand, s string) string {
	b := []byte(s)
	for k := range b {
		if r.IntN(12) == 0 {
			b[k] = "\x00\xffx"[r.IntN(3)]
		}
	}
	return string(b)
}

func TestSomeFragmentsOfFullEntries(t *testing.T) {
	r := source(170)
	full, wholes := 0, 0
	for round := range 100 {
		p := newPair(100000)
		policy := 1 + round%4
		for k := range 250 {
			f := more(r.IntN(2), 8*r.IntN(190), eights("ab"[:1+r.IntN(2)*r.IntN(2)]))
			switch {
			case r.IntN(10) == 0:
				f = last(f.Id, 8*190, "end")
			case r.IntN(60) == 0:
				f.Data = strings.Repeat("abcdefgh", 1+r.IntN(max(1, 190-f.Offset/8)))
			case r.IntN(100) == 0:
				f.Offset, f.Data = 0, strings.Repeat("abcdefgh", 190)
			}
			p.add(t, k, f, policy)
		}
		full += p.results[api.ErrFull]
		wholes += p.wholes
	}
	if full < 500 || wholes < 50 {
		t.Error("only", full, "full entries and", wholes, "datagrams")
	}
}

func TestSomeFragmentsOfManyDatagrams(t *testing.T) {
	r := source(171)
	results, wholes, expired := map[api.Errno]int{}, 0, 0
	for range 60 {
		p := newPair(20 + r.IntN(60))
		at := 0
		for range 600 {
			at += r.IntN(2) * r.IntN(2)
			f := more(r.IntN(12), 8*r.IntN(2), eights("a"))
			f.Proto, f.Src.Lo = r.IntN(2), uint64(r.IntN(2))
			if r.IntN(2) == 0 {
				f.Offset, f.More, f.Data = 8*(1+r.IntN(2)), false, "b"
			}
			policy := 1
			if r.IntN(10) == 0 {
				policy, f.Data = 5, mixed(r, f.Data)
			}
			p.add(t, at, f, policy)
			if r.IntN(100) == 0 {
				at += r.IntN(60)
				expired += p.expire(t, at)
			}
		}
		for e, n := range p.results {
			results[e] += n
		}
		wholes += p.wholes
	}
	if results[api.ErrDropped] < 2000 || results[api.ErrOverlap] < 50 || results[api.ErrFormat] < 500 || wholes < 500 || expired < 20 {
		t.Error("results", results, "datagrams", wholes, "expired", expired)
	}
}

// P16.5

// covering returns fragments of a datagram that together have all its bytes, in any order and with repetitions and overlaps, at most 30 of them.
func covering(r *rand.Rand, id int, data string) []api.Fragment {
	cut := func(from, to int) api.Fragment {
		f := last(id, from, data[from:to])
		f.More = to < len(data)
		f.Ttl = 30 + r.IntN(200)
		return f
	}
	var l []api.Fragment
	units := (len(data) + 7) / 8
	step := 1 + max(r.IntN(units), units/15)
	for at := 0; at < units; {
		n := min(units-at, 1+r.IntN(step)+units/15)
		// One fragment alone would be a whole datagram.
		if n == units {
			n = units - 1
		}
		l = append(l, cut(8*at, min(8*(at+n), len(data))))
		at += n
	}
	for range r.IntN(8) {
		from := r.IntN(units)
		to := from + 1 + r.IntN(units-from)
		if to-from < units {
			l = append(l, cut(8*from, min(8*to, len(data))))
		}
	}
	for range r.IntN(4) {
		l = append(l, l[r.IntN(len(l))])
	}
	r.Shuffle(len(l), func(i, k int) { l[i], l[k] = l[k], l[i] })
	return l
}

// completing returns the index of the fragment with which all bytes of a datagram are there, and the least Ttl up to it.
func completing(l []api.Fragment, size int) (int, int) {
	seen := make([]bool, size)
	missing, ttl := size, math.MaxInt
	for k, f := range l {
		ttl = min(ttl, f.Ttl)
		for at := f.Offset; at < f.Offset+len(f.Data); at++ {
			if !seen[at] {
				seen[at] = true
				missing--
			}
		}
		// The last byte is only in fragments that tell the end.
		if missing == 0 {
			return k, ttl
		}
	}
	return -1, 0
}

func TestFragmentsInAnyOrder(t *testing.T) {
	r := source(172)
	for round := range 3000 {
		data := random(r, 9+r.IntN(300))
		if round%100 == 0 {
			data = random(r, lastByte-r.IntN(9))
		}
		l := covering(r, 7, data)
		n, ttl := completing(l, len(data))
		for policy := 1; policy <= 4; policy++ {
			x := defrag.New(len(l))
			for k, f := range l[:n] {
				expectOpen(t, x, k, f, policy)
			}
			expectWhole(t, x, n, l[n], policy, api.Datagram{Ttl: ttl, Data: data})
			expectState(t, x, 0, 0, 0)
		}
	}
}

func random(r *rand.Rand, n int) string {
	b := make([]byte, n)
	for k := range b {
		b[k] = byte(r.IntN(256))
	}
	return string(b)
}

func TestSeveralDatagramsInAnyOrder(t *testing.T) {
	r := source(173)
	for range 300 {
		// As many datagrams as there may be, the fragments of all of them in any order.
		var l []api.Fragment
		contents, left := map[int]string{}, map[int]int{}
		for id := range mostOpen {
			contents[id] = random(r, 9+r.IntN(60))
			one := covering(r, id, contents[id])
			n, _ := completing(one, len(contents[id]))
			// What comes after the datagram is complete would begin another entry.
			one = one[:n+1]
			left[id] = len(one)
			l = append(l, one...)
		}
		order := r.Perm(len(l))
		next := map[int][]api.Fragment{}
		for _, f := range l {
			next[f.Id] = append(next[f.Id], f)
		}
		x := defrag.New(len(l))
		for at, k := range order {
			id := l[k].Id
			f := next[id][0]
			next[id] = next[id][1:]
			d, ok, err := x.Add(at, f, 1+r.IntN(4))
			left[id]--
			if err != api.OK || ok != (left[id] == 0) || ok && d.Data != contents[id] {
				t.Fatal(f, d, ok, err)
			}
		}
		expectState(t, x, 0, 0, 0)
	}
}

// P16.6

func TestBounds(t *testing.T) {
	x := defrag.New(1 << 30)
	long := strings.Repeat("a", 65528)
	for id := range 3 * mostOpen {
		expectOpen(t, x, id, more(id, 0, long), 1)
		n := min(id+1, mostOpen)
		expectState(t, x, n, n*65528, 0)
	}
	for id := range 3 * mostOpen {
		expectOpen(t, x, 100+id, last(1000+id, 8, long[:65527]), 1)
		if x.Len() > mostOpen || x.Size() > mostOpen*lastByte {
			t.Fatal(x.Len(), "entries", x.Size(), "bytes")
		}
	}
	expectState(t, x, mostOpen, mostOpen*65527, 0)
}

// Many discarded entries count in nothing, and take little time.
func TestManyKeys(t *testing.T) {
	x := defrag.New(150000)
	const count = 200000
	for id := range count {
		expectOpen(t, x, id, last(id, 8, "a"), 1)
		n := min(id+1, mostOpen)
		expectState(t, x, n, n, 0)
	}
	expectError(t, x, count-1, last(count-150000, 8, "a"), 1, api.ErrDropped)
	expectOpen(t, x, count-1, last(count-150001, 8, "a"), 1)
	// The two last ones began at the same time.
	expectExpired(t, x, count+149998, mostOpen-2)
	expectExpired(t, x, count+149999, 2)
	expectState(t, x, 0, 0, 0)
}

// Examples

func TestExamples(t *testing.T) {
	x := defrag.New(1000)
	expectOpen(t, x, 0, last(1, 8, "x"), 1)
	expectData(t, x, 0, more(1, 0, "abcdefgh"), 1, "abcdefghx")
	expectOpen(t, x, 0, more(2, 0, "abcdefgh"), api.PolicyLast)
	expectOpen(t, x, 0, more(2, 0, "ABCDEFGH"), api.PolicyLast)
	expectState(t, x, 1, 8, 8)
	expectData(t, x, 0, last(2, 8, "x"), api.PolicyLast, "ABCDEFGHx")
	expectOpen(t, x, 0, more(2, 0, "abcdefgh"), api.PolicyDrop)
	expectError(t, x, 0, more(2, 0, "ABCDEFGH"), api.PolicyDrop, api.ErrOverlap)
	expectError(t, x, 999, last(2, 8, "x"), api.PolicyDrop, api.ErrDropped)
	expectOpen(t, x, 1000, last(2, 8, "x"), api.PolicyDrop)
	expectError(t, x, 1000, more(3, 0, "abcdefghi"), 1, api.ErrFormat)
}

// R1, R2

// wildNumbers are numbers at the ends of the ranges that matter, and some with which sums wrap.
func wildNumbers() []int {
	return []int{math.MinInt, math.MinInt + 8, -lastTime, -8, -1, 0, 1, 2, 5, 7, 8, 16, 65528, lastByte, lastByte + 1, lastTime, lastTime + 1, math.MaxInt - 7, math.MaxInt}
}

func wildFragment(r *rand.Rand) api.Fragment {
	l := wildNumbers()
	one := func() int { return l[r.IntN(len(l))] }
	addr := func() api.Addr {
		return api.Addr{V6: r.IntN(2) == 0, Hi: uint64(one()), Lo: uint64(one())}
	}
	f := api.Fragment{Proto: one(), Id: one(), Ttl: one(), Offset: one(), More: r.IntN(2) == 0, Data: strings.Repeat("x", r.IntN(20))}
	if r.IntN(2) == 0 {
		f.Src, f.Dst = addr(), addr()
	}
	return f
}

func TestAnyArguments(t *testing.T) {
	r := source(174)
	l := wildNumbers()
	for range 2000 {
		timeout := l[r.IntN(len(l))]
		p := newPair(timeout)
		for range 20 {
			at := l[r.IntN(len(l)-3)]
			p.add(t, at, wildFragment(r), r.IntN(8)-1)
			if r.IntN(5) == 0 {
				p.expire(t, l[r.IntN(len(l))])
			}
		}
	}
}

func TestPlainTable(t *testing.T) {
	r := source(175)
	l := wildNumbers()
	for range 2000 {
		x := &defrag.Table{}
		for range 20 {
			x.Add(r.IntN(3), more(r.IntN(40), 8*r.IntN(3), eights("a")), r.IntN(7))
			x.Add(l[r.IntN(len(l))], wildFragment(r), r.IntN(7))
			x.Expire(l[r.IntN(len(l))])
			x.Len()
			x.Size()
			x.Conflicts()
		}
	}
	x := &defrag.Table{}
	for id := range 100 {
		x.Add(0, last(id, 8, "a"), 1)
		x.Add(0, last(id, 8, "b"), 5)
	}
	x.Expire(5)
}

// R4

func TestNilTable(t *testing.T) {
	var x *defrag.Table
	for _, at := range wildNumbers() {
		expectError(t, x, at, last(1, 0, "whole"), 1, api.ErrNone)
		expectError(t, x, at, more(1, -1, ""), 0, api.ErrNone)
		expectExpired(t, x, at, 0)
		expectState(t, x, 0, 0, 0)
	}
}
