// Package octet is layer 1: see shared/doc/01-octet.md.
package octet

import (
	"switchboard/api"
)

// more is the bit by which a byte of a variable byte integer says that another one follows; below it are the seven bits of the number.
const more = 128

// lastShift is where the seven bits of a fourth byte belong: behind it no other may follow.
const lastShift = 21

// Out gathers bytes.
type Out struct{ b []byte }

// Text: all that was gathered.
func (w *Out) Text() string {
	return string(w.b)
}

// Len: how many bytes.
func (w *Out) Len() int {
	return len(w.b)
}

// Byte: one.
func (w *Out) Byte(c byte) *Out {
	w.b = append(w.b, c)
	return w
}

// Two: a number in two bytes, the higher first (of it the lowest 16 bits).
func (w *Out) Two(n uint32) *Out {
	w.b = append(w.b, byte(n>>8), byte(n))
	return w
}

// Four: a number in four bytes.
func (w *Out) Four(n uint32) *Out {
	return w.Two(n >> 16).Two(n)
}

// Var: a variable byte integer (of a number above the greatest: that).
func (w *Out) Var(n uint32) *Out {
	n = min(n, api.MaxVar)
next:
	if n < more {
		return w.Byte(byte(n))
	}
	w.Byte(byte(n%more) | more)
	n /= more
	goto next
}

// Raw: bytes as they are.
func (w *Out) Raw(s string) *Out {
	w.b = append(w.b, s...)
	return w
}

// Data: binary data: how many bytes, and these (of longer ones the first MaxText).
func (w *Out) Data(s string) *Out {
	s = s[:min(len(s), api.MaxText)]
	return w.Two(uint32(len(s))).Raw(s)
}

// In takes bytes; the first error stays.
type In struct {
	left string
	err  api.Errno
}

// Over: the bytes of a text.
func Over(s string) *In {
	return &In{left: s}
}

// Err: the first error.
func (r *In) Err() api.Errno {
	return r.err
}

// Left: how many bytes are left.
func (r *In) Left() int {
	return len(r.left)
}

// Fail: an error, if there was none.
func (r *In) Fail(e api.Errno) {
	if r.err == api.OK {
		r.err = e
	}
}

// End: how a packet ended of which all should have been taken.
func (r *In) End() api.Errno {
	// A packet says how long it is: if bytes are wanting in it, it is malformed, as it is if some are left.
	if r.err == api.ErrEnd || r.err == api.OK && r.left != "" {
		return api.ErrForm
	}
	return r.err
}

// Raw: so many bytes.
func (r *In) Raw(n int) string {
	if n > len(r.left) {
		r.Fail(api.ErrEnd)
	}
	if r.err != api.OK || n <= 0 {
		return ""
	}
	s := r.left[:n]
	r.left = r.left[n:]
	return s
}

// Rest: all that is left.
func (r *In) Rest() string {
	return r.Raw(len(r.left))
}

// Byte: one.
func (r *In) Byte() byte {
	return byte(r.number(1))
}

// Two: a number in two bytes.
func (r *In) Two() uint32 {
	return r.number(2)
}

// Four: a number in four bytes.
func (r *In) Four() uint32 {
	return r.number(4)
}

// number: of so many bytes, the highest first; 0 beside an error, since Raw has none then.
func (r *In) number(size int) uint32 {
	var n uint32
	s := r.Raw(size)
	for i := range len(s) {
		n = n<<8 | uint32(s[i])
	}
	return n
}

// Var: a variable byte integer, in as few bytes as say it.
func (r *In) Var() uint32 {
	n, shift := uint32(0), 0
next:
	c := r.Byte()
	n |= uint32(c%more) << shift
	if c >= more && shift < lastShift {
		shift += 7
		goto next
	}
	if c >= more || c == 0 && shift > 0 {
		r.Fail(api.ErrForm) // where bytes were wanting, that error is there already, and stays
	}
	if r.err != api.OK {
		return 0
	}
	return n
}

// Data: binary data.
func (r *In) Data() string {
	return r.Raw(int(r.Two()))
}

// Size: how many bytes a variable byte integer has.
func Size(n uint32) int {
	size := 1
	for n = min(n, api.MaxVar); n >= more; n /= more {
		size++
	}
	return size
}
