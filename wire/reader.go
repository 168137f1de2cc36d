package wire

import (
	"strings"

	"wherry/api"
)

// Reader reads.
type Reader struct {
	rest string    // what is behind its place
	err  api.Errno // why it is wrong
}

// Read is a reader of bytes.
func Read(s string) *Reader { return &Reader{rest: s} }

// Uint reads a number.
func (r *Reader) Uint() uint64 { return read(r, r.takeUint) }

// Int reads one with a sign.
func (r *Reader) Int() int64 { return read(r, r.takeInt) }

// Byte reads a byte.
func (r *Reader) Byte() byte { return read(r, r.takeByte) }

// Text reads a text.
func (r *Reader) Text(most int) string {
	return read(r, func() (string, api.Errno) { return r.takeText(most) })
}

// List reads a list.
func (r *Reader) List(many, most int) []string {
	return read(r, func() ([]string, api.Errno) { return r.takeList(many, most) })
}

// Left is how many bytes are left.
func (r *Reader) Left() int {
	if r == nil {
		return 0
	}
	return len(r.rest)
}

// Err is why the reader is wrong.
func (r *Reader) Err() api.Errno {
	if r == nil {
		return api.ErrArg
	}
	return r.err
}

// End is Err, or that bytes are left.
func (r *Reader) End() api.Errno {
	if err := r.Err(); err != api.OK {
		return err
	}
	if r.Left() > 0 {
		return api.ErrForm
	}
	return api.OK
}

// read is what all calls that read go through: only here does a reader become
// wrong, and only here are the bytes given back that a call took ahead of what
// it couldn't take.
func read[T any](r *Reader, take func() (T, api.Errno)) T {
	var none T
	if r.Err() != api.OK {
		return none
	}
	ahead := r.rest
	v, err := take()
	if err != api.OK {
		r.rest, r.err = ahead, err
		return none
	}
	return v
}

func (r *Reader) takeByte() (byte, api.Errno) {
	if r.rest == "" {
		return 0, api.ErrMore
	}
	b := r.rest[0]
	r.rest = r.rest[1:]
	return b, api.OK
}

func (r *Reader) takeUint() (uint64, api.Errno) {
	var v uint64
	for i := range mostBytes {
		b, err := r.takeByte()
		if err != api.OK {
			return 0, err
		}
		v |= uint64(b%more) << (i * lowBits)
		if b >= more {
			continue
		}
		if !mayEnd(i, b) {
			return 0, api.ErrForm
		}
		return v, api.OK
	}
	return 0, api.ErrForm
}

// mayEnd tells whether a number may have b as its last byte, with i bytes
// ahead of it: a 0 there would be a second form of a shorter number, and the
// tenth byte has room for one bit only.
func mayEnd(i int, b byte) bool {
	if i == mostBytes-1 {
		return b == 1
	}
	return i == 0 || b > 0
}

func (r *Reader) takeInt() (int64, api.Errno) {
	u, err := r.takeUint()
	return signed(u), err
}

// takeCount takes a number of bytes or texts that may be at most most.
func (r *Reader) takeCount(most int) (uint64, api.Errno) {
	n, err := r.takeUint()
	if err != api.OK {
		return 0, err
	}
	if most < 0 || n > uint64(most) {
		return 0, api.ErrLong
	}
	return n, api.OK
}

func (r *Reader) takeText(most int) (string, api.Errno) {
	n, err := r.takeCount(most)
	if err != api.OK {
		return "", err
	}
	if n > uint64(len(r.rest)) {
		return "", api.ErrMore
	}
	// A copy, so that who keeps a short text doesn't keep all that it was read from.
	s := strings.Clone(r.rest[:n])
	r.rest = r.rest[n:]
	return s, api.OK
}

func (r *Reader) takeList(many, most int) ([]string, api.Errno) {
	n, err := r.takeCount(many)
	if err != api.OK {
		return nil, err
	}
	// No room is made ahead: n may be far more than there are.
	var l []string
	for range n {
		s, err := r.takeText(most)
		if err != api.OK {
			return nil, err
		}
		l = append(l, s)
	}
	return l, api.OK
}
