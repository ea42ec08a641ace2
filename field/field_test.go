package field_test

import (
	"math"
	"slices"
	"strings"
	"testing"

	"intrusion/api"
	"intrusion/field"
)

var (
	validSizes   = []int{1, 2, 3, 4, 5, 6, 7}
	invalidSizes = []int{0, -1, -7, 8, 9, 64, math.MaxInt, math.MinInt}
)

// power returns 256^size.
func power(size int) int {
	n := 1
	for range size {
		n *= 256
	}
	return n
}

// denoted is the definition of the chapter, written as it stands there.
func denoted(s string) int {
	sum := 0
	for k := range len(s) {
		sum += int(s[k]) * power(len(s)-1-k)
	}
	return sum
}

func reversed(s string) string {
	b := []byte(s)
	slices.Reverse(b)
	return string(b)
}

// numbers returns numbers from 0 to 256^size - 1: all of them for one byte, else the ends, those around every power of 2, and some between.
func numbers(size int) []int {
	end := power(size)
	if size == 1 {
		all := make([]int, end)
		for n := range end {
			all[n] = n
		}
		return all
	}
	some := []int{0, 1, 2, end - 2, end - 1}
	for n := 4; n < end; n *= 2 {
		some = append(some, n-1, n, n+1)
	}
	x := 1
	for range 200 {
		x = (x*48271 + 11) & math.MaxInt32
		some = append(some, x*x%end)
	}
	return some
}

// P1.1

func TestPutDenotesTheNumber(t *testing.T) {
	for _, size := range validSizes {
		for _, n := range numbers(size) {
			if s := field.Put(n, size); len(s) != size || denoted(s) != n {
				t.Fatalf("Put(%d, %d) = %q", n, size, s)
			}
			if s := field.PutLittle(n, size); len(s) != size || denoted(reversed(s)) != n {
				t.Fatalf("PutLittle(%d, %d) = %q", n, size, s)
			}
		}
	}
}

func TestPutExamples(t *testing.T) {
	for _, x := range []struct {
		n, size     int
		big, little string
	}{
		{258, 3, "\x00\x01\x02", "\x02\x01\x00"},
		{0, 1, "\x00", "\x00"},
		{0, 7, "\x00\x00\x00\x00\x00\x00\x00", "\x00\x00\x00\x00\x00\x00\x00"},
		{255, 1, "\xff", "\xff"},
		{256, 2, "\x01\x00", "\x00\x01"},
		{0x01020304050607, 7, "\x01\x02\x03\x04\x05\x06\x07", "\x07\x06\x05\x04\x03\x02\x01"},
		{1<<56 - 1, 7, "\xff\xff\xff\xff\xff\xff\xff", "\xff\xff\xff\xff\xff\xff\xff"},
	} {
		if s := field.Put(x.n, x.size); s != x.big {
			t.Errorf("Put(%d, %d) = %q", x.n, x.size, s)
		}
		if s := field.PutLittle(x.n, x.size); s != x.little {
			t.Errorf("PutLittle(%d, %d) = %q", x.n, x.size, s)
		}
	}
}

func expectNothing(t *testing.T, n, size int) {
	t.Helper()
	if s := field.Put(n, size); s != "" {
		t.Errorf("Put(%d, %d) = %q", n, size, s)
	}
	if s := field.PutLittle(n, size); s != "" {
		t.Errorf("PutLittle(%d, %d) = %q", n, size, s)
	}
}

func TestPutWithInvalidSize(t *testing.T) {
	for _, size := range invalidSizes {
		for _, n := range []int{0, 1, 258, -1, math.MaxInt, math.MinInt} {
			expectNothing(t, n, size)
		}
	}
}

func TestPutWithNumberThatDoesNotFit(t *testing.T) {
	for _, size := range validSizes {
		end := power(size)
		for _, n := range []int{-1, -2, -256, -end, math.MinInt, end, end + 1, 2*end - 1, math.MaxInt} {
			expectNothing(t, n, size)
		}
	}
}

// P1.2

func TestGetReadsTheNumber(t *testing.T) {
	s := "\x00\x01\x02\xff\xfe\x80\x7f\x00\x09\xff\xff\xff\xff\xff\xff\xff"
	for _, size := range validSizes {
		for at := 0; at+size <= len(s); at++ {
			part := s[at : at+size]
			if n, err := field.Get(s, at, size); n != denoted(part) || err != api.OK {
				t.Errorf("Get(s, %d, %d) = %d, %v", at, size, n, err)
			}
			if n, err := field.GetLittle(s, at, size); n != denoted(reversed(part)) || err != api.OK {
				t.Errorf("GetLittle(s, %d, %d) = %d, %v", at, size, n, err)
			}
		}
	}
}

func TestGetExamples(t *testing.T) {
	if n, err := field.Get("\x00\x01\x02", 1, 2); n != 258 || err != api.OK {
		t.Errorf("Get = %d, %v", n, err)
	}
	if n, err := field.GetLittle("\x00\x01\x02", 1, 2); n != 513 || err != api.OK {
		t.Errorf("GetLittle = %d, %v", n, err)
	}
}

func expectGetError(t *testing.T, s string, at, size int, want api.Errno) {
	t.Helper()
	if n, err := field.Get(s, at, size); n != 0 || err != want {
		t.Errorf("Get(%q, %d, %d) = %d, %v, want %v", s, at, size, n, err, want)
	}
	if n, err := field.GetLittle(s, at, size); n != 0 || err != want {
		t.Errorf("GetLittle(%q, %d, %d) = %d, %v, want %v", s, at, size, n, err, want)
	}
}

func TestGetShort(t *testing.T) {
	expectGetError(t, "\x00\x01\x02", 1, 3, api.ErrShort)
	s := "\xff\xff\xff\xff\xff\xff\xff\xff"
	for _, size := range validSizes {
		expectGetError(t, "", 0, size, api.ErrShort)
		expectGetError(t, s[:size-1], 0, size, api.ErrShort)
		for _, at := range []int{len(s) - size + 1, len(s), len(s) + 1, math.MaxInt - size, math.MaxInt - 1, math.MaxInt} {
			expectGetError(t, s, at, size, api.ErrShort)
		}
	}
}

func TestGetOutOfRange(t *testing.T) {
	s := "\xff\xff\xff\xff\xff\xff\xff\xff"
	for _, at := range []int{-1, -2, -8, math.MinInt} {
		for _, size := range append(slices.Clone(validSizes), invalidSizes...) {
			expectGetError(t, s, at, size, api.ErrRange)
		}
	}
	for _, size := range invalidSizes {
		expectGetError(t, s, 0, size, api.ErrRange)
	}
}

func TestGetRangeComesBeforeShort(t *testing.T) {
	for _, size := range invalidSizes {
		expectGetError(t, "", 0, size, api.ErrRange)
		expectGetError(t, "abc", 4, size, api.ErrRange)
		expectGetError(t, "abc", math.MaxInt, size, api.ErrRange)
	}
	expectGetError(t, "", -1, 1, api.ErrRange)
	expectGetError(t, "abc", -1, 7, api.ErrRange)
}

// P1.3

func expectState(t *testing.T, r *field.Reader, left int, err api.Errno) {
	t.Helper()
	if r.Left() != left || r.Err() != err {
		t.Errorf("the reader has %d bytes left and %v, want %d and %v", r.Left(), r.Err(), left, err)
	}
}

func TestNewReader(t *testing.T) {
	for _, s := range []string{"", "a", "\x00", "abc\xff\x00", strings.Repeat("x", 5000)} {
		r := field.NewReader(s)
		if r == nil {
			t.Fatalf("NewReader(%q) = nil", s)
		}
		expectState(t, r, len(s), api.OK)
		if rest := r.Rest(); rest != s {
			t.Errorf("Rest of a new reader of %q = %q", s, rest)
		}
	}
}

func TestReadersOfOneStringAreIndependent(t *testing.T) {
	s := "\x01\x02\x03"
	first, second := field.NewReader(s), field.NewReader(s)
	first.Take(2)
	first.Take(2)
	expectState(t, first, 1, api.ErrShort)
	expectState(t, second, 3, api.OK)
	if n := second.Int(3); n != 0x010203 {
		t.Errorf("Int(3) = %d", n)
	}
}

// P1.4

func expectInt(t *testing.T, r *field.Reader, size, want int) {
	t.Helper()
	if n := r.Int(size); n != want {
		t.Errorf("Int(%d) = %d, want %d", size, n, want)
	}
}

func expectTake(t *testing.T, r *field.Reader, n int, want string) {
	t.Helper()
	if s := r.Take(n); s != want {
		t.Errorf("Take(%d) = %q, want %q", n, s, want)
	}
}

func expectRest(t *testing.T, r *field.Reader, want string) {
	t.Helper()
	if s := r.Rest(); s != want {
		t.Errorf("Rest = %q, want %q", s, want)
	}
}

func TestReaderMovesPastWhatItReturns(t *testing.T) {
	r := field.NewReader("\x01\x02\x03abc\x00\xff\xfftail")
	expectInt(t, r, 1, 1)
	expectInt(t, r, 2, 0x0203)
	expectTake(t, r, 2, "ab")
	expectTake(t, r, 0, "")
	expectState(t, r, 8, api.OK)
	expectTake(t, r, 1, "c")
	expectInt(t, r, 3, 0xffff)
	expectState(t, r, 4, api.OK)
	expectRest(t, r, "tail")
	expectState(t, r, 0, api.OK)
}

func TestReaderIntOfEverySize(t *testing.T) {
	s := "\xfe\xdc\xba\x98\x76\x54\x32\x10"
	for _, size := range validSizes {
		r := field.NewReader(s)
		expectInt(t, r, size, denoted(s[:size]))
		expectState(t, r, len(s)-size, api.OK)
		exact := field.NewReader(s[:size])
		expectInt(t, exact, size, denoted(s[:size]))
		expectState(t, exact, 0, api.OK)
	}
}

func TestReaderAtTheEnd(t *testing.T) {
	for _, r := range []*field.Reader{field.NewReader(""), field.NewReader("ab")} {
		r.Take(r.Left())
		expectRest(t, r, "")
		expectTake(t, r, 0, "")
		expectState(t, r, 0, api.OK)
		expectInt(t, r, 1, 0)
		expectState(t, r, 0, api.ErrShort)
	}
}

// expectBroken checks that a reader keeps its error and its place whatever it is asked for.
func expectBroken(t *testing.T, r *field.Reader, left int, err api.Errno) {
	t.Helper()
	expectState(t, r, left, err)
	for _, size := range []int{1, 2, 7, 0, 8, -1} {
		expectInt(t, r, size, 0)
		expectState(t, r, left, err)
	}
	for _, n := range []int{0, 1, left, left + 1, math.MaxInt, -1, math.MinInt} {
		expectTake(t, r, n, "")
		expectState(t, r, left, err)
	}
	expectRest(t, r, "")
	expectState(t, r, left, err)
}

func TestReaderIntShort(t *testing.T) {
	s := "\xff\xff\xff\xff\xff\xff\xff\xff"
	for _, size := range validSizes {
		r := field.NewReader(s[:size-1])
		expectInt(t, r, size, 0)
		expectBroken(t, r, size-1, api.ErrShort)
		r = field.NewReader(s)
		expectTake(t, r, len(s)-size+1, s[size-1:])
		expectInt(t, r, size, 0)
		expectBroken(t, r, size-1, api.ErrShort)
	}
}

func TestReaderIntOutOfRange(t *testing.T) {
	for _, size := range invalidSizes {
		for _, s := range []string{"", "abc", strings.Repeat("x", 100)} {
			r := field.NewReader(s)
			expectInt(t, r, size, 0)
			expectBroken(t, r, len(s), api.ErrRange)
		}
	}
}

func TestReaderTakeShort(t *testing.T) {
	for _, n := range []int{4, 5, 100, math.MaxInt - 1, math.MaxInt} {
		r := field.NewReader("abc")
		expectTake(t, r, n, "")
		expectBroken(t, r, 3, api.ErrShort)
	}
	r := field.NewReader("abc")
	expectTake(t, r, 3, "abc")
	expectTake(t, r, 1, "")
	expectBroken(t, r, 0, api.ErrShort)
}

func TestReaderTakeOutOfRange(t *testing.T) {
	for _, n := range []int{-1, -3, math.MinInt} {
		r := field.NewReader("abc")
		expectInt(t, r, 1, 'a')
		expectTake(t, r, n, "")
		expectBroken(t, r, 2, api.ErrRange)
		empty := field.NewReader("")
		expectTake(t, empty, n, "")
		expectBroken(t, empty, 0, api.ErrRange)
	}
}

func TestReaderTakeMayBeLongerThanAnInteger(t *testing.T) {
	s := strings.Repeat("0123456789", 100)
	r := field.NewReader(s)
	expectTake(t, r, 8, s[:8])
	expectTake(t, r, 991, s[8:999])
	expectState(t, r, 1, api.OK)
}

func TestReaderExample(t *testing.T) {
	r := field.NewReader("\x01\x02\x03\x04\x05")
	expectInt(t, r, 2, 258)
	expectTake(t, r, 1, "\x03")
	expectState(t, r, 2, api.OK)
	expectInt(t, r, 3, 0)
	expectState(t, r, 2, api.ErrShort)
	expectRest(t, r, "")
	expectState(t, r, 2, api.ErrShort)
}

// P1.5, with rule R4 for a nil reader; a Reader{} only must not panic.

func TestLeftAndErrChangeNothing(t *testing.T) {
	r := field.NewReader("abc")
	expectState(t, r, 3, api.OK)
	expectState(t, r, 3, api.OK)
	expectTake(t, r, 2, "ab")
	expectState(t, r, 1, api.OK)
	expectTake(t, r, 2, "")
	expectState(t, r, 1, api.ErrShort)
	expectState(t, r, 1, api.ErrShort)
}

func TestNilReader(t *testing.T) {
	var r *field.Reader
	for _, n := range []int{-1, 0, 1, 7, 8, math.MaxInt, math.MinInt} {
		expectInt(t, r, n, 0)
		expectTake(t, r, n, "")
	}
	expectRest(t, r, "")
	expectState(t, r, 0, api.ErrNone)
}

func TestPlainReaderDoesNotPanic(t *testing.T) {
	r := &field.Reader{}
	r.Rest()
	r.Take(1)
	r.Int(8)
	r.Left()
	r.Err()
}

// P1.6

func TestGetOfPutIsTheNumber(t *testing.T) {
	for _, size := range validSizes {
		for _, n := range numbers(size) {
			big, little := field.Put(n, size), field.PutLittle(n, size)
			for _, before := range []string{"", "\x01", "\xff\xff\xff"} {
				for _, after := range []string{"", "\xff", "\x00\x01"} {
					if got, err := field.Get(before+big+after, len(before), size); got != n || err != api.OK {
						t.Fatalf("Get of Put(%d, %d) after %q = %d, %v", n, size, before, got, err)
					}
					if got, err := field.GetLittle(before+little+after, len(before), size); got != n || err != api.OK {
						t.Fatalf("GetLittle of PutLittle(%d, %d) after %q = %d, %v", n, size, before, got, err)
					}
				}
			}
		}
	}
}

func TestPutLittleIsTheReverseOfPut(t *testing.T) {
	for size := -1; size <= 9; size++ {
		for _, n := range append(numbers(7), -1, -256, math.MaxInt, math.MinInt) {
			if big, little := field.Put(n, size), field.PutLittle(n, size); little != reversed(big) {
				t.Fatalf("Put(%d, %d) = %q, PutLittle = %q", n, size, big, little)
			}
		}
	}
}

// P1.7

// readAgain reads with calls that steps choose, writes what they return as bytes, and joins it.
func readAgain(r *field.Reader, steps []byte) string {
	joined := ""
	for _, step := range steps {
		before := r.Left()
		size := int(step) % 8
		var written string
		switch {
		case step == 255:
			written = r.Rest()
		case step >= 128 || size == 0:
			written = r.Take(size)
		default:
			written = field.Put(r.Int(size), size)
		}
		if r.Err() != api.OK || before-r.Left() != len(written) {
			return joined
		}
		joined += written
	}
	return joined
}

func TestWhatAReaderReturnsIsWhatItPassed(t *testing.T) {
	b := make([]byte, 300)
	x := uint32(7)
	next := func() byte {
		x = x*1664525 + 1013904223
		return byte(x >> 24)
	}
	for range 200 {
		for i := range b {
			b[i] = next()
		}
		steps := make([]byte, int(next())%100)
		for i := range steps {
			steps[i] = next()
		}
		s := string(b)
		r := field.NewReader(s)
		joined := readAgain(r, steps)
		if passed := s[:len(s)-r.Left()]; joined != passed {
			t.Fatalf("the reader passed %q and returned %q", passed, joined)
		}
	}
}
