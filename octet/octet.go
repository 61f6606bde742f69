// Package octet: numbers and texts as bytes (chapter 1).
package octet

import (
	"bytes"
	"compline/api"
)

const (
	more = 0x80 // in a number's byte: another one follows
	wide = 9    // where a number's tenth byte stands, that has room for one bit alone
)

// Writer is bytes so far.
type Writer struct {
	bytes []byte
}

// Num: a number.
func (w *Writer) Num(x uint64) {
	if w == nil {
		return
	}
	for x >= more {
		w.bytes = append(w.bytes, byte(x)|more)
		x >>= 7
	}
	w.bytes = append(w.bytes, byte(x))
}

// Int: a signed number.
func (w *Writer) Int(x int64) {
	// The shifted sign is all ones below 0, and turns 2 x into -2 x - 1 without a step out of 64 bits.
	w.Num(uint64(x<<1) ^ uint64(x>>63))
}

// Raw: bytes as they are.
func (w *Writer) Raw(b []byte) {
	if w == nil {
		return
	}
	w.bytes = append(w.bytes, b...)
}

// Text: a text.
func (w *Writer) Text(s string) {
	if w == nil {
		return
	}
	w.Num(uint64(len(s)))
	w.bytes = append(w.bytes, s...)
}

// Flag: one byte.
func (w *Writer) Flag(x bool) {
	if x {
		w.Num(1)
	} else {
		w.Num(0)
	}
}

// Bytes: all.
func (w *Writer) Bytes() []byte {
	if w == nil {
		return nil
	}
	return bytes.Clone(w.bytes)
}

// Reader is bytes that are left, and the first error.
type Reader struct {
	left []byte // none with an error
	err  api.Errno
}

// Read: a reader of bytes.
func Read(b []byte) *Reader { return &Reader{left: bytes.Clone(b)} }

// Err: the first error.
func (r *Reader) Err() api.Errno {
	if r == nil {
		return api.ErrArg
	}
	return r.err
}

// fail keeps the first error, and nothing to read behind it.
func (r *Reader) fail(e api.Errno) {
	if r.err == api.OK {
		r.err = e
	}
	r.left = nil
}

// octet is the next byte, and true.
func (r *Reader) octet() (byte, bool) {
	if r.Err() != api.OK {
		return 0, false
	}
	if len(r.left) == 0 {
		r.fail(api.ErrShort)
		return 0, false
	}
	b := r.left[0]
	r.left = r.left[1:]
	return b, true
}

// Num: a number.
func (r *Reader) Num() uint64 {
	var x uint64
	for i := 0; ; i++ {
		b, ok := r.octet()
		if !ok {
			return 0
		}
		// A 0 at the end, but of 0 itself, says nothing: the number has a shorter form.
		if i == wide && b > 1 || i > 0 && b == 0 {
			r.fail(api.ErrForm)
			return 0
		}
		x |= uint64(b&^more) << (7 * i)
		if b < more {
			return x
		}
	}
}

// Int: a signed number.
func (r *Reader) Int() int64 {
	x := r.Num()
	return int64(x>>1) ^ -int64(x&1)
}

// Count: a number, at most so great.
func (r *Reader) Count(most int) int {
	n := r.Num()
	if n > uint64(max(most, 0)) {
		r.fail(api.ErrLong)
		return 0
	}
	return int(n)
}

// Text: of at most so many bytes.
func (r *Reader) Text(most int) string {
	n := r.Count(most)
	if n > r.Left() {
		r.fail(api.ErrShort)
		return ""
	}
	if n == 0 {
		return ""
	}
	s := string(r.left[:n])
	r.left = r.left[n:]
	return s
}

// Flag: one byte.
func (r *Reader) Flag() bool {
	b, ok := r.octet()
	if ok && b > 1 {
		r.fail(api.ErrForm)
		return false
	}
	return b == 1
}

// Left: how many bytes are left.
func (r *Reader) Left() int {
	if r == nil {
		return 0
	}
	return len(r.left)
}

// End: is it read to the end?
func (r *Reader) End() api.Errno {
	if e := r.Err(); e != api.OK {
		return e
	}
	if len(r.left) > 0 {
		return api.ErrLong
	}
	return api.OK
}

// Put: a row. Of a function that isn't there, or panics, nothing stays written, for half a row can't be read.
func Put[T any](w *Writer, l []T, each func(*Writer, T)) {
	if w == nil {
		return
	}
	start := len(w.bytes)
	defer func() {
		if recover() != nil {
			w.bytes = w.bytes[:start]
		}
	}()
	w.Num(uint64(len(l)))
	for _, x := range l {
		each(w, x)
	}
}

// Get: a row of at most so many. A function that isn't there, or panics, is an argument that can't be.
func Get[T any](r *Reader, most int, each func(*Reader) T) (l []T) {
	defer func() {
		if recover() != nil {
			r.fail(api.ErrArg)
			l = nil
		}
	}()
	// The list grows as it is read: the count is only a claim, and may be far beyond the bytes.
	for range r.Count(most) {
		x := each(r)
		if r.Err() != api.OK {
			return nil
		}
		l = append(l, x)
	}
	return l
}
