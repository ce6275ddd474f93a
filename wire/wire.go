// Package wire is layer 1, a canonical encoding as text: see shared/doc/01-wire.md.
package wire

import (
	"strconv"
	"strings"
)

// Num returns the encoding of the number n, or the empty string if n is negative.
func Num(n int) string {
	if n < 0 {
		return ""
	}
	return Int(n)
}

// Int returns the encoding of an int.
func Int(n int) string { return strconv.Itoa(n) + ";" }

// Text returns the encoding of a string.
func Text(s string) string { return strconv.Itoa(len(s)) + ":" + s + "," }

// Nums returns the encoding of a list of ints.
func Nums(l []int) string { return writeList(l, Int) }

// Texts returns the encoding of a list of strings.
func Texts(l []string) string { return writeList(l, Text) }

// writeList returns the encoding of a list whose elements write encodes.
func writeList[T any](l []T, write func(T) string) string {
	var b strings.Builder
	b.WriteString(strconv.Itoa(len(l)))
	b.WriteByte('[')
	for _, x := range l {
		b.WriteString(write(x))
	}
	b.WriteByte(']')
	return b.String()
}

// Reader reads values from a string, one after the other.
type Reader struct {
	rest   string // what has not been read; empty once the reader has failed, so that nothing more can be read
	failed bool
}

// Open returns a reader at the beginning of a string.
func Open(s string) *Reader { return &Reader{rest: s} }

// Num reads a number.
func (r *Reader) Num() int { return r.number(';') }

// Int reads an int.
func (r *Reader) Int() int { return r.integer(';') }

// Text reads a string.
func (r *Reader) Text() string {
	n := r.number(':')
	if n > len(r.rest) {
		r.fail()
		return ""
	}
	s := r.rest[:n]
	r.rest = r.rest[n:]
	if !r.skip(',') {
		return ""
	}
	return strings.Clone(s)
}

// Nums reads a list of ints.
func (r *Reader) Nums() []int { return readList(r, r.Int) }

// Texts reads a list of strings.
func (r *Reader) Texts() []string { return readList(r, r.Text) }

// Rest returns the bytes that have not been read, and moves the reader to the end.
func (r *Reader) Rest() string {
	s := r.rest
	r.rest = ""
	return strings.Clone(s)
}

// Left returns the number of bytes that have not been read, or 0 if the reader has failed.
func (r *Reader) Left() int { return len(r.rest) }

// Done reports whether the reader has not failed, and no bytes are left.
func (r *Reader) Done() bool { return !r.failed && r.rest == "" }

// readList reads a list whose elements read reads. The list grows with what is read, because the length that is written before it may be a lie.
func readList[T any](r *Reader, read func() T) []T {
	n := r.number('[')
	var l []T
	for i := 0; i < n && !r.failed; i++ {
		l = append(l, read())
	}
	if !r.skip(']') {
		return nil
	}
	return l
}

// number reads the digits of a number, and the byte after them.
func (r *Reader) number(end byte) int {
	n := r.integer(end)
	if n < 0 {
		r.fail()
		return 0
	}
	return n
}

// integer reads the digits of an int, with its sign, and the byte after them.
func (r *Reader) integer(end byte) int {
	i := strings.IndexByte(r.rest, end)
	if i < 0 {
		r.fail()
		return 0
	}
	n, err := strconv.Atoi(r.rest[:i])
	// Atoi accepts a plus sign, -0 and leading zeros as well, which Itoa never writes.
	if err != nil || strconv.Itoa(n) != r.rest[:i] {
		r.fail()
		return 0
	}
	r.rest = r.rest[i+1:]
	return n
}

// skip reads the byte c, and reports whether it was there.
func (r *Reader) skip(c byte) bool {
	if r.rest == "" || r.rest[0] != c {
		r.fail()
		return false
	}
	r.rest = r.rest[1:]
	return true
}

// fail makes the reader fail, for this call and all later ones.
func (r *Reader) fail() { r.rest, r.failed = "", true }
