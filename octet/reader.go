package octet

import (
	"strings"

	"selkie/api"
)

// Reader decodes a string from its start. A nil Reader has no bytes and keeps no error.
type Reader struct {
	s    string
	at   int       // stays where the error is, once there is one
	code api.Errno // OK: no error
}

// New is a reader of s.
func New(s string) *Reader {
	return &Reader{s: s}
}

// Num decodes an unsigned integer.
func (r *Reader) Num() uint64 {
	return attempt(r, r.number)
}

// Int decodes an unsigned integer that is at most most.
func (r *Reader) Int(most int) int {
	return attempt(r, limited(r.number, most))
}

// Signed decodes a signed integer.
func (r *Reader) Signed() int64 {
	return attempt(r, unfolded(r.number))
}

// Text decodes a string of at most most bytes.
func (r *Reader) Text(most int) string {
	return attempt(r, r.counted(limited(r.number, most)))
}

// At is the offset.
func (r *Reader) At() int {
	if r == nil {
		return 0
	}
	return r.at
}

// Left is the number of bytes from the offset on.
func (r *Reader) Left() int {
	if r == nil {
		return 0
	}
	return len(r.s) - r.at
}

// Fail makes e the reader's error, at the offset, unless it has one or e is none.
func (r *Reader) Fail(e api.Errno) {
	if r == nil || r.code != api.OK || e == api.OK {
		return
	}
	r.code = e
}

// Err is the reader's error, or nil.
func (r *Reader) Err() error {
	if r == nil || r.code == api.OK {
		return nil
	}
	// Made anew each time: a caller that writes into a Fault does not change the reader's error.
	return &api.Fault{At: r.at, Err: r.code}
}

// End is Err, after all bytes have to be decoded.
func (r *Reader) End() error {
	if r.Left() > 0 {
		r.Fail(api.ErrMore)
	}
	return r.Err()
}

// attempt is what a step decodes. If the step fails, it has not happened, but for the reader's error.
func attempt[T any](r *Reader, step func() (T, api.Errno)) T {
	var none T
	if r == nil || r.code != api.OK {
		return none
	}
	start := r.at
	v, e := step()
	if e != api.OK {
		r.at = start
		r.Fail(e)
		return none
	}
	return v
}

// number is the step that all encodings begin with: an unsigned integer.
func (r *Reader) number() (uint64, api.Errno) {
	first, e := r.take(1)
	if e != api.OK {
		return 0, e
	}
	if first[0] > maxBytes {
		return 0, api.ErrField
	}
	bytes, e := r.take(int(first[0]))
	if e != api.OK {
		return 0, e
	}
	// With a leading 0, an integer would have more than one encoding.
	if bytes != "" && bytes[0] == 0 {
		return 0, api.ErrField
	}
	v := uint64(0)
	for i := range len(bytes) {
		v = v<<8 | uint64(bytes[i])
	}
	return v, api.OK
}

// take is the next n bytes.
func (r *Reader) take(n int) (string, api.Errno) {
	if n > r.Left() {
		return "", api.ErrShort
	}
	bytes := r.s[r.at : r.at+n]
	r.at += n
	return bytes, api.OK
}

// limited is a step that allows an integer up to most only.
func limited(number func() (uint64, api.Errno), most int) func() (int, api.Errno) {
	return func() (int, api.Errno) {
		v, e := number()
		if e != api.OK {
			return 0, e
		}
		if most < 0 || v > uint64(most) {
			return 0, api.ErrRange
		}
		return int(v), api.OK
	}
}

// unfolded is a step that takes an integer for the encoding of a signed one.
func unfolded(number func() (uint64, api.Errno)) func() (int64, api.Errno) {
	return func() (int64, api.Errno) {
		v, e := number()
		if v&1 != 0 {
			return ^int64(v >> 1), e
		}
		return int64(v >> 1), e
	}
}

// counted is a step that takes as many bytes as a length says.
func (r *Reader) counted(length func() (int, api.Errno)) func() (string, api.Errno) {
	return func() (string, api.Errno) {
		n, e := length()
		if e != api.OK {
			return "", e
		}
		bytes, e := r.take(n)
		// A copy: a short string would otherwise keep all that it was read from.
		return strings.Clone(bytes), e
	}
}
