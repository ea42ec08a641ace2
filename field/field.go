// Package field: integers in byte strings. See shared/doc/01-field.md.
package field

import (
	"slices"

	"intrusion/api"
)

// maxSize is the greatest number of bytes whose numbers all fit in an int.
const maxSize = 7

// Put returns n as size bytes, most significant first, or an empty string if that is not possible.
func Put(n, size int) string {
	b := little(n, size)
	slices.Reverse(b)
	return string(b)
}

// PutLittle returns n as size bytes, least significant first, or an empty string if that is not possible.
func PutLittle(n, size int) string { return string(little(n, size)) }

// Get returns the number of size bytes at an offset, most significant first.
func Get(s string, at, size int) (int, api.Errno) {
	b, err := part(s, at, size)
	return number(b), err
}

// GetLittle returns the number of size bytes at an offset, least significant first.
func GetLittle(s string, at, size int) (int, api.Errno) {
	b, err := part(s, at, size)
	slices.Reverse(b)
	return number(b), err
}

// Reader takes integers and byte strings from the beginning of a byte string, until one of them is not there.
type Reader struct {
	left []byte
	err  api.Errno
}

// NewReader returns a reader at the beginning of s.
func NewReader(s string) *Reader { return &Reader{left: []byte(s)} }

// Int returns the next number of size bytes, most significant first.
func (r *Reader) Int(size int) int { return number(r.next(size, validSize(size))) }

// Take returns the next n bytes.
func (r *Reader) Take(n int) string { return string(r.next(n, n >= 0)) }

// Rest returns the remaining bytes and moves to the end.
func (r *Reader) Rest() string { return r.Take(r.Left()) }

// Left returns the number of the remaining bytes.
func (r *Reader) Left() int {
	if r == nil {
		return 0
	}
	return len(r.left)
}

// Err returns the first error.
func (r *Reader) Err() api.Errno {
	if r == nil {
		return api.ErrNone
	}
	return r.err
}

// next moves past n bytes and returns them, or none and keeps an error; valid says whether n is allowed at all.
func (r *Reader) next(n int, valid bool) []byte {
	if r == nil || r.err != api.OK {
		return nil
	}
	if !valid {
		r.err = api.ErrRange
		return nil
	}
	if n > len(r.left) {
		r.err = api.ErrShort
		return nil
	}
	// The limited capacity keeps an append to the taken bytes from overwriting those that remain.
	taken := r.left[:n:n]
	r.left = r.left[n:]
	return taken
}

func validSize(size int) bool { return size >= 1 && size <= maxSize }

// little returns n as size bytes, least significant first, or nothing if they cannot denote n.
func little(n, size int) []byte {
	if !validSize(size) || n < 0 || n>>(8*size) != 0 {
		return nil
	}
	b := make([]byte, size)
	for k := range size {
		b[k] = byte(n >> (8 * k))
	}
	return b
}

// part returns a copy of the size bytes of s at an offset.
func part(s string, at, size int) ([]byte, api.Errno) {
	if !validSize(size) || at < 0 {
		return nil, api.ErrRange
	}
	// Not at+size > len(s): that sum can overflow.
	if len(s)-at < size {
		return nil, api.ErrShort
	}
	return []byte(s[at : at+size]), api.OK
}

// number returns what b denotes, most significant byte first; no bytes denote 0.
func number(b []byte) int {
	n := 0
	for _, c := range b {
		n = n<<8 | int(c)
	}
	return n
}
