// Package wire is layer 1: see shared/doc/01-wire.md.
package wire

import (
	"bytes"
	"slices"

	"steading/api"
)

// Each byte of a number holds one digit to the base 128; more says that another digit follows.
const (
	digit = 127
	more  = 128
	width = 7
)

// The last of the most digits that a number can have holds its highest bit alone.
const (
	lastDigit = 9
	highBit   = 1
)

// Reader reads forms, one behind the other.
type Reader struct {
	rest []byte
	// A reader of no bytes must differ from a zero one, which is as nil.
	opened bool
}

// Number is the form of a number.
func Number(n uint64) []byte {
	var form []byte
	for ; n > digit; n >>= width {
		form = append(form, byte(n)|more)
	}
	return append(form, byte(n))
}

// Signed is the form of a signed number.
func Signed(n int64) []byte {
	// The sign, spread over all bits, turns 2n into -2n-1 without leaving 64 bits.
	return Number(uint64(n)<<1 ^ uint64(n>>63))
}

// Flag is the form of a flag.
func Flag(is bool) []byte {
	if is {
		return []byte{1}
	}
	return []byte{0}
}

// Bytes is the form of bytes.
func Bytes(b []byte) []byte { return Join(Number(uint64(len(b))), b) }

// Join is all bytes, one behind the other.
func Join(l ...[]byte) []byte { return slices.Concat(l...) }

// Put is the form of a list, each thing of which has the form that form answers.
func Put[T any](l []T, form func(T) []byte) ([]byte, api.Errno) {
	if form == nil {
		return nil, api.ErrNil
	}
	all := Number(uint64(len(l)))
	for _, t := range l {
		all = append(all, form(t)...)
	}
	return all, api.OK
}

// Open is a reader at the beginning of these bytes, as they are now.
func Open(b []byte) *Reader { return &Reader{rest: bytes.Clone(b), opened: true} }

// missing: is there no reader that Open made?
func (r *Reader) missing() bool { return r == nil || !r.opened }

// Number reads a number.
func (r *Reader) Number() (uint64, api.Errno) {
	if r.missing() {
		return 0, api.ErrNil
	}
	var n uint64
digits:
	for i, b := range r.rest {
		switch {
		case i == lastDigit && b > highBit:
			break digits
		case i > 0 && b == 0: // a nought ahead is no part of the one form
			break digits
		}
		n |= uint64(b&digit) << (width * i)
		if b < more {
			r.rest = r.rest[i+1:]
			return n, api.OK
		}
	}
	return 0, api.ErrBytes
}

// Signed reads a signed number.
func (r *Reader) Signed() (int64, api.Errno) {
	n, e := r.Number()
	return int64(n>>1) ^ -int64(n&1), e
}

// Flag reads a flag.
func (r *Reader) Flag() (bool, api.Errno) {
	if r.missing() {
		return false, api.ErrNil
	}
	if len(r.rest) == 0 || r.rest[0] > 1 {
		return false, api.ErrBytes
	}
	is := r.rest[0] == 1
	r.rest = r.rest[1:]
	return is, api.OK
}

// Bytes reads bytes, of which there may be so many at most.
func (r *Reader) Bytes(most int) ([]byte, api.Errno) {
	n, rest, e := r.count(most)
	if e != api.OK {
		return nil, e
	}
	if n > uint64(len(rest)) {
		return nil, api.ErrBytes
	}
	r.rest = rest[n:]
	return bytes.Clone(rest[:n]), api.OK
}

// Left is how many bytes there are behind where the reader is.
func (r *Reader) Left() int {
	if r.missing() {
		return 0
	}
	return len(r.rest)
}

// End: are there no more bytes?
func (r *Reader) End() api.Errno {
	if r.missing() {
		return api.ErrNil
	}
	if len(r.rest) > 0 {
		return api.ErrBytes
	}
	return api.OK
}

// Take reads a list, of which there may be so many things at most, each as one reads it.
func Take[T any](r *Reader, most int, one func(*Reader) (T, api.Errno)) ([]T, api.Errno) {
	if r.missing() || one == nil {
		return nil, api.ErrNil
	}
	start := *r
	var (
		l []T
		t T
	)
	n, rest, e := r.count(most)
	if e != api.OK {
		goto wrong
	}
	r.rest = rest
	// No room is made ahead: n is whatever the bytes claim.
	for range n {
		if t, e = one(r); e != api.OK {
			goto wrong
		}
		l = append(l, t)
	}
	return l, api.OK
wrong:
	*r = start
	return nil, e
}

// count is how many things follow, and what stands behind that number; the reader stays, since what is counted may still be wrong.
func (r *Reader) count(most int) (uint64, []byte, api.Errno) {
	if r.missing() {
		return 0, nil, api.ErrNil
	}
	if most < 0 {
		return 0, nil, api.ErrArg
	}
	ahead := *r
	n, e := ahead.Number()
	if e != api.OK {
		return 0, nil, e
	}
	if n > uint64(most) {
		return 0, nil, api.ErrLong
	}
	return n, ahead.rest, api.OK
}
