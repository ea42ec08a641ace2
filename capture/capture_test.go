package capture_test

import (
	"encoding/binary"
	"math"
	"math/rand/v2"
	"slices"
	"strings"
	"testing"

	"intrusion/api"
	"intrusion/capture"
)

// source returns pseudo random numbers, the same ones in every run.
func source(seed uint64) *rand.Rand { return rand.New(rand.NewPCG(seed, 0)) }

// order is a byte order of the numbers of a capture.
type order interface {
	binary.ByteOrder
	binary.AppendByteOrder
}

var (
	least, most order = binary.LittleEndian, binary.BigEndian
	both              = []order{least, most}
)

// headerOf returns the header of a capture whose three ignored numbers are mixed.
func headerOf(o order) string {
	b := o.AppendUint32(nil, 0xa1b2c3d4)
	b = o.AppendUint16(b, 2)
	b = o.AppendUint16(b, 4)
	for _, n := range []uint32{0x80000001, 0xffffffff, 7} {
		b = o.AppendUint32(b, n)
	}
	return string(o.AppendUint32(b, 1))
}

// recordOf returns a record whose captured length need not be that of its data.
func recordOf(o order, seconds, micros, captured, original uint32, data string) string {
	var b []byte
	for _, n := range []uint32{seconds, micros, captured, original} {
		b = o.AppendUint32(b, n)
	}
	return string(b) + data
}

// framed returns a record of these data, of which nothing was cut off.
func framed(o order, seconds, micros uint32, data string) string {
	n := uint32(len(data))
	return recordOf(o, seconds, micros, n, n, data)
}

// examined is the chapter's definition of examining a capture: the records that are complete before the first error, this error and its offset.
func examined(s string) (l []api.Record, err api.Errno, at int) {
	if len(s) < 24 {
		return nil, api.ErrShort, 0
	}
	var o order
	switch s[:4] {
	case "\xa1\xb2\xc3\xd4":
		o = most
	case "\xd4\xc3\xb2\xa1":
		o = least
	default:
		return nil, api.ErrFormat, 0
	}
	if o.Uint16([]byte(s[4:])) != 2 || o.Uint16([]byte(s[6:])) != 4 || o.Uint32([]byte(s[20:])) != 1 {
		return nil, api.ErrFormat, 0
	}
	for at = 24; at < len(s); {
		if len(s) < at+16 {
			return l, api.ErrShort, at
		}
		var n [4]int
		for k := range n {
			n[k] = int(o.Uint32([]byte(s[at+4*k:])))
		}
		if n[1] > 999999 {
			return l, api.ErrFormat, at
		}
		if len(l) >= 2000 || n[2] > 4096 || n[2] > n[3] {
			return l, api.ErrLong, at
		}
		r := api.Record{At: n[0]*1000 + n[1]/1000, Size: n[3]}
		if len(l) > 0 && r.At < l[len(l)-1].At {
			return l, api.ErrTime, at
		}
		if len(s) < at+16+n[2] {
			return l, api.ErrShort, at
		}
		r.Data = s[at+16 : at+16+n[2]]
		l = append(l, r)
		at += 16 + n[2]
	}
	return l, api.OK, 0
}

// expectRead compares Read with the definition.
func expectRead(t *testing.T, s string) {
	t.Helper()
	want, wanted, place := examined(s)
	if wanted != api.OK {
		want = nil
	}
	got, err, at := capture.Read(s)
	if err != wanted || at != place || !slices.Equal(got, want) {
		t.Fatalf("Read of %d bytes, %.60q: %d records, %v, %d, want %d records, %v, %d", len(s), s, len(got), err, at, len(want), wanted, place)
	}
}

// expectError checks that Read finds this error, and not only that it agrees with the definition.
func expectError(t *testing.T, what, s string, wanted api.Errno, place int) {
	t.Helper()
	if l, err, at := capture.Read(s); err != wanted || at != place || len(l) > 0 {
		t.Errorf("%s: %d records, %v, %d, want %v, %d", what, len(l), err, at, wanted, place)
	}
	expectRead(t, s)
}

// expectPieces compares what a Reader returns for each piece with the definition, for the bytes up to the end of the piece.
func expectPieces(t *testing.T, pieces ...string) {
	t.Helper()
	r := capture.NewReader()
	s, known := "", 0
	var err api.Errno
	for k, piece := range pieces {
		s += piece
		want, wanted, _ := examined(s)
		if wanted == api.ErrShort {
			wanted = api.OK
		}
		var got []api.Record
		got, err = r.Feed(piece)
		if err != wanted || !slices.Equal(got, want[known:]) {
			t.Fatalf("Feed %d of %d, %d bytes: %d records, %v, want %d records, %v", k, len(pieces), len(piece), len(got), err, len(want)-known, wanted)
		}
		if known = len(want); err != api.OK {
			break
		}
	}
	if err != api.OK {
		expectEnded(t, r)
		return
	}
	_, wanted, _ := examined(s)
	if err := r.Close(); err != wanted {
		t.Fatalf("Close after %d pieces of %d bytes: %v, want %v", len(pieces), len(s), err, wanted)
	}
	expectEnded(t, r)
}

// expectEnded checks that a Reader does nothing any more, whatever is fed.
func expectEnded(t *testing.T, r *capture.Reader) {
	t.Helper()
	for _, s := range []string{"", "a", headerOf(least) + framed(least, 9, 9, "abc"), framed(most, 9, 9, "")} {
		if l, err := r.Feed(s); err != api.ErrState || len(l) > 0 {
			t.Fatalf("Feed of an ended reader: %v, %v", l, err)
		}
		if err := r.Close(); err != api.ErrState {
			t.Fatalf("Close of an ended reader: %v", err)
		}
	}
}

// sample is a capture with four records, with data of several lengths.
func sample(o order) string {
	return headerOf(o) + recordOf(o, 1, 2500, 2, 3, "ab") + framed(o, 1, 2999, "") + framed(o, 1, 3000, "\x00\xff\xd4\xc3") + framed(o, 258, 999999, strings.Repeat("x", 300))
}

func mixed(r *rand.Rand, n int) string {
	b := make([]byte, n)
	for k := range b {
		b[k] = byte(r.Uint32())
	}
	return string(b)
}

// someCapture returns a capture that is mostly correct.
func someCapture(r *rand.Rand) string {
	o := both[r.IntN(2)]
	s := headerOf(o)
	var seconds, micros uint32
	for range r.IntN(8) {
		micros += uint32(r.IntN(400000))
		seconds, micros = seconds+micros/1000000, micros%1000000
		data := mixed(r, r.IntN(40))
		n := uint32(len(data))
		switch r.IntN(40) {
		case 0:
			s += recordOf(o, seconds, micros+1000000, n, n, data)
		case 1:
			s += recordOf(o, seconds, micros, n+1, n, data)
		case 2:
			s += framed(o, seconds-1, micros, data)
		case 3:
			s += recordOf(o, seconds, micros, n+5000, n+5000, data)
		default:
			s += recordOf(o, seconds, micros, n, n+uint32(r.IntN(3)), data)
		}
	}
	if r.IntN(3) == 0 {
		s = s[:r.IntN(len(s)+1)]
	}
	if r.IntN(8) == 0 && s != "" {
		b := []byte(s)
		b[r.IntN(len(b))] = byte(r.Uint32())
		s = string(b)
	}
	return s
}

// cut returns s in pieces, some of which are empty.
func cut(r *rand.Rand, s string) []string {
	pieces := []string{}
	for s != "" {
		n := r.IntN(min(len(s), 1<<r.IntN(8)) + 1)
		pieces = append(pieces, s[:n])
		s = s[n:]
	}
	return pieces
}

// many returns a capture with n records without data.
func many(o order, n int) string {
	return headerOf(o) + strings.Repeat(framed(o, 5, 0, ""), n)
}

// changed returns a copy of s with another byte.
func changed(s string, at int, c byte) string {
	b := []byte(s)
	b[at] = c
	return string(b)
}

// P9.1

func TestRead(t *testing.T) {
	want := []api.Record{
		{At: 1002, Size: 3, Data: "ab"},
		{At: 1002},
		{At: 1003, Size: 4, Data: "\x00\xff\xd4\xc3"},
		{At: 258999, Size: 300, Data: strings.Repeat("x", 300)},
	}
	for _, o := range both {
		if l, err, at := capture.Read(sample(o)); err != api.OK || at != 0 || !slices.Equal(l, want) {
			t.Errorf("%v: %v, %v, %d", o, l, err, at)
		}
		if l, err, at := capture.Read(headerOf(o)); err != api.OK || at != 0 || len(l) > 0 {
			t.Errorf("%v, no records: %v, %v, %d", o, l, err, at)
		}
	}
}

func TestReadOfExtremeNumbers(t *testing.T) {
	for _, o := range both {
		full := strings.Repeat("f", api.MaxFrame)
		s := headerOf(o) + framed(o, 0, 0, "") + recordOf(o, 0, 999, 1, math.MaxUint32, "z") + framed(o, 0, 1000, full) + recordOf(o, math.MaxUint32, 999999, 0, math.MaxUint32, "")
		want := []api.Record{{}, {Size: math.MaxUint32, Data: "z"}, {At: 1, Size: api.MaxFrame, Data: full}, {At: math.MaxUint32*1000 + 999, Size: math.MaxUint32}}
		if l, err, at := capture.Read(s); err != api.OK || at != 0 || !slices.Equal(l, want) {
			t.Errorf("%v: %d records, %v, %d", o, len(l), err, at)
		}
	}
}

func TestReadOfEveryPart(t *testing.T) {
	for _, o := range both {
		s := sample(o)
		for n := range len(s) + 1 {
			expectRead(t, s[:n])
		}
		for at := range 120 {
			for c := range 256 {
				expectRead(t, changed(s, at, byte(c)))
			}
		}
	}
}

func TestReadOfHeaders(t *testing.T) {
	expectError(t, "nothing", "", api.ErrShort, 0)
	for _, o := range both {
		s := headerOf(o)
		expectError(t, "23 bytes", s[:23], api.ErrShort, 0)
		expectError(t, "23 bytes of another format", "x"+s[1:23], api.ErrShort, 0)
		expectError(t, "24 bytes of another format", strings.Repeat("x", 24), api.ErrFormat, 0)
		for at := range 24 {
			c := changed(s, at, s[at]+1)
			if at >= 8 && at < 20 {
				expectRead(t, c+framed(o, 1, 0, "ignored"))
				if _, err, _ := capture.Read(c); err != api.OK {
					t.Error("byte", at, err)
				}
				continue
			}
			expectError(t, "another header", c, api.ErrFormat, 0)
			expectError(t, "another header and half a record", c+"abc", api.ErrFormat, 0)
		}
	}
	mixed := headerOf(least)[:4] + headerOf(most)[4:]
	expectError(t, "both orders", mixed, api.ErrFormat, 0)
	expectError(t, "the magic number in pairs of bytes", "\xb2\xa1\xd4\xc3"+headerOf(least)[4:], api.ErrFormat, 0)
	expectError(t, "nanoseconds", "\x4d\x3c\xb2\xa1"+headerOf(least)[4:], api.ErrFormat, 0)
}

func TestReadOfRecordsWithErrors(t *testing.T) {
	for _, o := range both {
		h := headerOf(o)
		first := framed(o, 7, 5000, "first")
		at := len(h) + len(first)
		for _, c := range []struct {
			what, record string
			err          api.Errno
		}{
			{"1 byte", framed(o, 8, 0, "")[:1], api.ErrShort},
			{"15 bytes", framed(o, 8, 0, "")[:15], api.ErrShort},
			{"15 bytes with an error", recordOf(o, 8, 1000000, 9, 8, "")[:15], api.ErrShort},
			{"no data", framed(o, 8, 0, "abc")[:16], api.ErrShort},
			{"half the data", framed(o, 8, 0, "abc")[:18], api.ErrShort},
			{"1000000 microseconds", framed(o, 8, 1000000, "abc"), api.ErrFormat},
			{"most microseconds", framed(o, 8, math.MaxUint32, "abc"), api.ErrFormat},
			{"4097 bytes", framed(o, 8, 0, strings.Repeat("x", 4097)), api.ErrLong},
			{"the greatest length", recordOf(o, 8, 0, math.MaxUint32, math.MaxUint32, ""), api.ErrLong},
			{"more than there was", recordOf(o, 8, 0, 3, 2, "abc"), api.ErrLong},
			{"a second less", framed(o, 6, 5000, "abc"), api.ErrTime},
			{"a millisecond less", framed(o, 7, 4999, "abc"), api.ErrTime},
			{"time 0", framed(o, 0, 0, ""), api.ErrTime},
			{"microseconds before length", recordOf(o, 8, 1000000, 3, 2, "abc"), api.ErrFormat},
			{"microseconds before time", framed(o, 5, 1000000, "abc"), api.ErrFormat},
			{"length before time", recordOf(o, 6, 0, 3, 2, "abc"), api.ErrLong},
			{"4097 bytes before time", recordOf(o, 6, 0, 4097, 4097, ""), api.ErrLong},
			{"microseconds without data", recordOf(o, 8, 1000000, 3, 3, ""), api.ErrFormat},
			{"length without data", recordOf(o, 8, 0, 3, 2, ""), api.ErrLong},
			{"time without data", recordOf(o, 7, 0, 3, 3, ""), api.ErrTime},
		} {
			expectError(t, c.what, h+first+c.record, c.err, at)
			if c.err != api.ErrTime {
				expectError(t, c.what+" at the front", h+c.record, c.err, len(h))
			}
			if c.err != api.ErrShort {
				expectError(t, c.what+" before others", h+first+c.record+framed(o, 0, 1000000, ""), c.err, at)
			}
		}
		expectRead(t, h+framed(o, 7, 5999, "a")+framed(o, 7, 5000, "b"))
		if l, err, _ := capture.Read(h + framed(o, 7, 5999, "a") + framed(o, 7, 5000, "b")); len(l) != 2 || err != api.OK {
			t.Error("fewer microseconds of the same millisecond:", l, err)
		}
	}
}

func TestReadOfManyRecords(t *testing.T) {
	for _, o := range both {
		s := many(o, api.MaxRecords)
		if l, err, _ := capture.Read(s); len(l) != api.MaxRecords || err != api.OK {
			t.Error(len(l), err)
		}
		expectError(t, "one more", many(o, api.MaxRecords+1), api.ErrLong, len(s))
		expectError(t, "15 bytes more", s+framed(o, 5, 0, "")[:15], api.ErrShort, len(s))
		expectError(t, "one more with too many microseconds", s+framed(o, 5, 1000000, ""), api.ErrFormat, len(s))
		expectError(t, "one more with an earlier time", s+framed(o, 4, 0, ""), api.ErrLong, len(s))
		expectError(t, "one more without its data", s+framed(o, 5, 0, "abc")[:16], api.ErrLong, len(s))
	}
}

func TestReadOfSomeCaptures(t *testing.T) {
	r := source(91)
	for range 20000 {
		expectRead(t, someCapture(r))
	}
}

// P9.2

// written is the chapter's definition of Write.
func written(l []api.Record) (string, api.Errno) {
	if len(l) > 2000 {
		return "", api.ErrLong
	}
	s := "\xd4\xc3\xb2\xa1\x02\x00\x04\x00\x00\x00\x00\x00\x00\x00\x00\x00\x00\x10\x00\x00\x01\x00\x00\x00"
	for k, r := range l {
		if len(r.Data) > 4096 {
			return "", api.ErrLong
		}
		if r.At < 0 || r.At > 1<<40 || r.Size < len(r.Data) || r.Size > 65535 {
			return "", api.ErrRange
		}
		if k > 0 && r.At < l[k-1].At {
			return "", api.ErrTime
		}
		s += recordOf(least, uint32(r.At/1000), uint32(r.At%1000*1000), uint32(len(r.Data)), uint32(r.Size), r.Data)
	}
	return s, api.OK
}

func expectWrite(t *testing.T, what string, l []api.Record, wanted api.Errno) {
	t.Helper()
	want, defined := written(l)
	if defined != wanted {
		t.Errorf("%s: the definition says %v, not %v", what, defined, wanted)
	}
	if got, err := capture.Write(l); err != wanted || got != want {
		t.Errorf("%s: %d bytes, %v, want %d bytes, %v", what, len(got), err, len(want), wanted)
	}
}

func TestWrite(t *testing.T) {
	header := "\xd4\xc3\xb2\xa1\x02\x00\x04\x00\x00\x00\x00\x00\x00\x00\x00\x00\x00\x10\x00\x00\x01\x00\x00\x00"
	for _, l := range [][]api.Record{nil, {}} {
		if s, err := capture.Write(l); s != header || err != api.OK {
			t.Errorf("no records: %q, %v", s, err)
		}
	}
	s, err := capture.Write([]api.Record{{At: 258123, Size: 65535, Data: "abc"}})
	if want := header + "\x02\x01\x00\x00\x78\xe0\x01\x00\x03\x00\x00\x00\xff\xff\x00\x00abc"; s != want || err != api.OK {
		t.Errorf("a record: %q, %v, want %q", s, err, want)
	}
	full := strings.Repeat("f", api.MaxFrame)
	expectWrite(t, "extreme records", []api.Record{{}, {At: 0, Size: api.MaxFrame, Data: full}, {At: 999}, {At: 1000}, {At: api.MaxTime, Size: 65535}}, api.OK)
	expectWrite(t, "as many as possible", make([]api.Record, api.MaxRecords), api.OK)
}

func TestWriteOfRecordsWithErrors(t *testing.T) {
	long := strings.Repeat("x", api.MaxFrame+1)
	first := api.Record{At: 7, Size: 1, Data: "a"}
	for _, c := range []struct {
		what   string
		record api.Record
		err    api.Errno
	}{
		{"4097 bytes", api.Record{At: 8, Size: 4097, Data: long}, api.ErrLong},
		{"a negative time", api.Record{At: -1}, api.ErrRange},
		{"the least time", api.Record{At: math.MinInt}, api.ErrRange},
		{"a time beyond MaxTime", api.Record{At: api.MaxTime + 1}, api.ErrRange},
		{"the greatest time", api.Record{At: math.MaxInt}, api.ErrRange},
		{"a size less than the data", api.Record{At: 8, Size: 2, Data: "abc"}, api.ErrRange},
		{"a negative size", api.Record{At: 8, Size: -1}, api.ErrRange},
		{"a size of 65536", api.Record{At: 8, Size: 65536}, api.ErrRange},
		{"the greatest size", api.Record{At: 8, Size: math.MaxInt}, api.ErrRange},
		{"an earlier time", api.Record{At: 6}, api.ErrTime},
		{"length before range", api.Record{At: -1, Size: 2, Data: long}, api.ErrLong},
		{"length before time", api.Record{At: 6, Size: 4097, Data: long}, api.ErrLong},
		{"range before time", api.Record{At: 6, Size: 65536}, api.ErrRange},
	} {
		expectWrite(t, c.what, []api.Record{first, c.record}, c.err)
		expectWrite(t, c.what+" before others", []api.Record{first, c.record, {Data: long}, {At: -1}}, c.err)
		if c.err != api.ErrTime {
			expectWrite(t, c.what+" at the front", []api.Record{c.record}, c.err)
		}
	}
	expectWrite(t, "time before the next length", []api.Record{first, {At: 6}, {Data: long, Size: 5000}}, api.ErrTime)
	expectWrite(t, "the same time", []api.Record{first, first, first}, api.OK)
	expectWrite(t, "2001 records", make([]api.Record, api.MaxRecords+1), api.ErrLong)
	l := make([]api.Record, api.MaxRecords+1)
	l[0] = api.Record{At: -1}
	expectWrite(t, "2001 records before range", l, api.ErrLong)
}

// P9.3

// merged is the chapter's definition of Merge.
func merged(a, b []api.Record) []api.Record {
	var l []api.Record
	i, k := 0, 0
	for i < len(a) || k < len(b) {
		if k == len(b) || i < len(a) && a[i].At <= b[k].At {
			l = append(l, a[i])
			i++
		} else {
			l = append(l, b[k])
			k++
		}
	}
	return l
}

// timed returns records with these times and sizes that count from first on.
func timed(first int, times ...int) []api.Record {
	var l []api.Record
	for k, at := range times {
		l = append(l, api.Record{At: at, Size: first + k})
	}
	return l
}

func expectMerge(t *testing.T, a, b, want []api.Record) {
	t.Helper()
	if got := capture.Merge(a, b); !slices.Equal(got, want) {
		t.Errorf("Merge(%v, %v) = %v, want %v", a, b, got, want)
	}
}

func TestMerge(t *testing.T) {
	expectMerge(t, timed(0, 1, 3), timed(10, 1, 2), []api.Record{{At: 1, Size: 0}, {At: 1, Size: 10}, {At: 2, Size: 11}, {At: 3, Size: 1}})
	expectMerge(t, nil, nil, nil)
	expectMerge(t, []api.Record{}, nil, nil)
	expectMerge(t, timed(0, 4, 2), nil, timed(0, 4, 2))
	expectMerge(t, nil, timed(0, 4, 2), timed(0, 4, 2))
	expectMerge(t, timed(0, 5, 5), timed(10, 5, 5), append(timed(0, 5, 5), timed(10, 5, 5)...))
	// Lists that are not ordered by time are merged by the same steps.
	expectMerge(t, timed(0, 5, 1), timed(10, 3, 4), []api.Record{{At: 3, Size: 10}, {At: 4, Size: 11}, {At: 5, Size: 0}, {At: 1, Size: 1}})
	expectMerge(t, timed(0, math.MaxInt), timed(10, math.MinInt, -1), []api.Record{{At: math.MinInt, Size: 10}, {At: -1, Size: 11}, {At: math.MaxInt}})
	data := []api.Record{{At: 2, Size: 9, Data: "abc"}}
	expectMerge(t, data, data, append(slices.Clone(data), data...))
}

func TestMergeOfAllShortLists(t *testing.T) {
	var lists [][]int
	for n := range 5 {
		lists = append(lists, eachOf(n, 3)...)
	}
	for _, x := range lists {
		for _, y := range lists {
			a, b := timed(0, x...), timed(100, y...)
			expectMerge(t, a, b, merged(a, b))
		}
	}
}

// eachOf returns all lists of n numbers below limit.
func eachOf(n, limit int) [][]int {
	if n == 0 {
		return [][]int{nil}
	}
	var l [][]int
	for _, rest := range eachOf(n-1, limit) {
		for k := range limit {
			l = append(l, append(slices.Clone(rest), k))
		}
	}
	return l
}

func TestMergeOfLongLists(t *testing.T) {
	// There is no limit of MaxRecords here.
	a, b := make([]api.Record, 3000), make([]api.Record, 70000)
	for k := range a {
		a[k] = api.Record{At: 10 * k, Size: 1}
	}
	for k := range b {
		b[k] = api.Record{At: k, Size: 2}
	}
	expectMerge(t, a, b, merged(a, b))
}

// P9.4

func TestReaderByteByByte(t *testing.T) {
	for _, o := range both {
		s := sample(o)
		r := capture.NewReader()
		var ends []int
		var all []api.Record
		for k := range len(s) {
			l, err := r.Feed(s[k : k+1])
			if err != api.OK {
				t.Fatal(k, err)
			}
			all = append(all, l...)
			for range l {
				ends = append(ends, k+1)
			}
		}
		// A record without data is complete with its header.
		if want := []int{42, 58, 78, 394}; !slices.Equal(ends, want) {
			t.Errorf("the records end at %v, want %v", ends, want)
		}
		if want, _, _ := capture.Read(s); !slices.Equal(all, want) {
			t.Errorf("the records are %v, want %v", all, want)
		}
		if err := r.Close(); err != api.OK {
			t.Error("Close:", err)
		}
		expectEnded(t, r)
	}
}

func TestReaderReturnsTheRecordsBeforeAnError(t *testing.T) {
	r := capture.NewReader()
	l, err := r.Feed(headerOf(least) + framed(least, 1, 0, "a") + framed(least, 2, 0, "b") + framed(least, 1, 0, "c") + framed(least, 3, 0, "d"))
	if want := []api.Record{{At: 1000, Size: 1, Data: "a"}, {At: 2000, Size: 1, Data: "b"}}; err != api.ErrTime || !slices.Equal(l, want) {
		t.Error(l, err)
	}
	expectEnded(t, r)
	r = capture.NewReader()
	if l, err := r.Feed(headerOf(least) + framed(least, 1, 0, "a")); len(l) != 1 || err != api.OK {
		t.Error(l, err)
	}
	// The records of earlier calls are not returned again.
	if l, err := r.Feed(framed(least, 0, 0, "b")); len(l) != 0 || err != api.ErrTime {
		t.Error(l, err)
	}
	expectEnded(t, r)
}

func TestReaderFindsErrorsWithoutTheData(t *testing.T) {
	for record, wanted := range map[string]api.Errno{
		recordOf(most, 5, 1000000, 3, 3, ""): api.ErrFormat,
		recordOf(most, 5, 0, 4097, 4097, ""): api.ErrLong,
		recordOf(most, 5, 0, 3, 2, ""):       api.ErrLong,
		recordOf(most, 4, 0, 3, 3, ""):       api.ErrTime,
	} {
		r := capture.NewReader()
		if l, err := r.Feed(headerOf(most) + framed(most, 5, 0, "") + record[:15]); len(l) != 1 || err != api.OK {
			t.Error(l, err)
		}
		if l, err := r.Feed(record[15:]); len(l) != 0 || err != wanted {
			t.Error(l, err, wanted)
		}
		expectEnded(t, r)
	}
}

func TestReaderOfHeaders(t *testing.T) {
	r := capture.NewReader()
	if l, err := r.Feed(strings.Repeat("x", 23)); len(l) != 0 || err != api.OK {
		t.Error("before the header is there:", l, err)
	}
	if l, err := r.Feed("x"); len(l) != 0 || err != api.ErrFormat {
		t.Error("with the header:", l, err)
	}
	expectEnded(t, r)
}

func TestClose(t *testing.T) {
	for _, o := range both {
		s := sample(o)
		for n := range len(s) + 1 {
			r := capture.NewReader()
			if _, err := r.Feed(s[:n]); err != api.OK {
				t.Fatal(n, err)
			}
			wanted := api.ErrShort
			if slices.Contains([]int{24, 42, 58, 78, 394}, n) {
				wanted = api.OK
			}
			if err := r.Close(); err != wanted {
				t.Errorf("Close after %d bytes: %v, want %v", n, err, wanted)
			}
			expectEnded(t, r)
		}
	}
	r := capture.NewReader()
	if err := r.Close(); err != api.ErrShort {
		t.Error("Close of a new reader:", err)
	}
	expectEnded(t, r)
}

func TestReadersAreIndependent(t *testing.T) {
	a, b := capture.NewReader(), capture.NewReader()
	a.Feed(headerOf(least))
	b.Feed(headerOf(most))
	a.Feed(framed(least, 9, 0, "")[:7])
	if l, err := b.Feed(framed(most, 3, 0, "b")); len(l) != 1 || err != api.OK {
		t.Error("b:", l, err)
	}
	if err := b.Close(); err != api.OK {
		t.Error("b:", err)
	}
	if l, err := a.Feed(framed(least, 9, 0, "")[7:]); len(l) != 1 || err != api.OK {
		t.Error("a:", l, err)
	}
}

// P9.5

func TestReadOfWrite(t *testing.T) {
	r := source(95)
	for range 3000 {
		var l []api.Record
		at := r.IntN(3000)
		for range r.IntN(12) {
			data := mixed(r, r.IntN(30))
			if r.IntN(20) == 0 {
				data = mixed(r, api.MaxFrame-r.IntN(2))
			}
			l = append(l, api.Record{At: at, Size: len(data) + r.IntN(2)*r.IntN(65536-len(data)), Data: data})
			at += r.IntN(3) * r.IntN(1<<r.IntN(38))
			at = min(at, api.MaxTime)
		}
		s, err := capture.Write(l)
		if want, wanted := written(l); err != wanted || s != want || err != api.OK {
			t.Fatalf("Write(%v): %v, want %v", l, err, wanted)
		}
		if got, err, place := capture.Read(s); err != api.OK || place != 0 || !slices.Equal(got, l) {
			t.Fatalf("Read of Write(%v) = %v, %v, %d", l, got, err, place)
		}
	}
}

func TestReaderOfAllDivisionsInThree(t *testing.T) {
	h := headerOf(most)
	for _, s := range []string{
		h + framed(most, 1, 0, "abc") + framed(most, 2, 0, "") + framed(most, 2, 0, "de"),
		h + framed(most, 1, 0, "abc") + framed(most, 0, 0, "x"),
		h + framed(most, 1, 0, "ab") + recordOf(most, 2, 0, 3, 2, "abc"),
		h + framed(most, 1, 1000000, ""),
		"x" + h,
	} {
		for n := range len(s) + 1 {
			for m := range n + 1 {
				expectPieces(t, s[:m], s[m:n], s[n:])
			}
		}
		expectPieces(t, strings.Split(s, "")...)
	}
}

func TestReaderOfSomeDivisions(t *testing.T) {
	r := source(96)
	for range 8000 {
		expectPieces(t, cut(r, someCapture(r))...)
	}
}

func TestReaderOfManyRecords(t *testing.T) {
	s := headerOf(least)
	for range api.MaxRecords {
		s += framed(least, 5, 0, "data")
	}
	s += framed(least, 5, 0, "data")[:16]
	r := capture.NewReader()
	n := 0
	for at := range len(s) {
		l, err := r.Feed(s[at : at+1])
		n += len(l)
		if at < len(s)-1 && err != api.OK || at == len(s)-1 && err != api.ErrLong {
			t.Fatal(at, err)
		}
	}
	if n != api.MaxRecords {
		t.Error(n, "records")
	}
	expectEnded(t, r)
}

func TestReaderOfTheLargestCapture(t *testing.T) {
	// Byte by byte, a reader that copied what it keeps with every byte would take very long.
	full := framed(least, 5, 0, strings.Repeat("f", api.MaxFrame))
	r := capture.NewReader()
	r.Feed(headerOf(least))
	n := 0
	for range api.MaxRecords / 2 {
		for at := range len(full) {
			l, err := r.Feed(full[at : at+1])
			if n += len(l); err != api.OK {
				t.Fatal(n, at, err)
			}
		}
	}
	l, err := r.Feed(strings.Repeat(full, api.MaxRecords/2))
	if n += len(l); n != api.MaxRecords || err != api.OK {
		t.Error(n, err)
	}
	if err := r.Close(); err != api.OK {
		t.Error(err)
	}
}

// R1

func TestPlainReader(t *testing.T) {
	for _, s := range []string{"", "a", sample(least), sample(most)} {
		var r capture.Reader
		r.Feed(s)
		r.Feed(s)
		r.Close()
		r.Feed(s)
		var q capture.Reader
		q.Close()
		q.Feed(s)
	}
}

// R3

func TestArgumentsAreNotModified(t *testing.T) {
	a := append(make([]api.Record, 0, 9), timed(0, 1, 3)...)
	b := append(make([]api.Record, 0, 9), timed(10, 1, 2, 4)...)
	spareOf := func(l []api.Record) []api.Record { return slices.Clone(l[:cap(l)]) }
	wantA, wantB := spareOf(a), spareOf(b)
	for range 2 {
		capture.Merge(a, b)
		capture.Merge(b, a)
		capture.Merge(a, nil)
		capture.Merge(nil, a)
		capture.Write(b)
		if !slices.Equal(spareOf(a), wantA) || !slices.Equal(spareOf(b), wantB) {
			t.Fatal("an argument was modified")
		}
	}
}

func TestResultsAreNewMemory(t *testing.T) {
	a, b := timed(0, 1, 3), timed(10, 1, 2)
	for _, l := range [][]api.Record{capture.Merge(a, nil), capture.Merge(nil, a), capture.Merge(a, b)} {
		for k := range l {
			l[k] = api.Record{Size: -1}
		}
		_ = append(l, api.Record{Size: -1})
	}
	if !slices.Equal(a, timed(0, 1, 3)) || !slices.Equal(b, timed(10, 1, 2)) {
		t.Error("Merge returns memory of an argument")
	}
	r := capture.NewReader()
	first, _ := r.Feed(headerOf(least) + framed(least, 1, 0, "a"))
	first = append(first, api.Record{Size: -1})
	first[0] = api.Record{At: math.MaxInt}
	second, err := r.Feed(framed(least, 1, 0, "b"))
	if !slices.Equal(second, []api.Record{{At: 1000, Size: 1, Data: "b"}}) || err != api.OK {
		t.Error("Feed returns memory of the reader:", second, err)
	}
	second[0] = api.Record{}
	if first[0].At != math.MaxInt || first[1].Size != -1 {
		t.Error("two calls of Feed return the same memory")
	}
}

// R4

func TestNilReader(t *testing.T) {
	var r *capture.Reader
	for _, s := range []string{"", "a", sample(least)} {
		if l, err := r.Feed(s); err != api.ErrNone || len(l) > 0 {
			t.Error("Feed:", l, err)
		}
		if err := r.Close(); err != api.ErrNone {
			t.Error("Close:", err)
		}
	}
}
