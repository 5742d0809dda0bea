// Package wire encodes and decodes the primitive values of which messages consist. It is described in shared/doc/01-wire.md (layer 1).
package wire

import (
	"bytes"

	"compositor/api"
)

const (
	numberBytes = 4 // bytes of an encoded number
	align       = 4 // every encoding has a multiple of this many bytes
)

// PutUint returns b followed by the encoding of n.
func PutUint(b []byte, n uint32) []byte {
	return appendNumber(copyWithRoom(b, numberBytes), n)
}

// PutInt returns b followed by the encoding of n in two's complement.
func PutInt(b []byte, n int32) []byte {
	return PutUint(b, uint32(n))
}

// PutString returns b followed by the encoding of s, which may contain any bytes.
func PutString(b []byte, s string) []byte {
	return PutArray(b, []byte(s))
}

// PutArray returns b followed by the encoding of x.
func PutArray(b []byte, x []byte) []byte {
	var zeros [align]byte
	padding := zeros[:(align-len(x)%align)%align]
	out := copyWithRoom(b, numberBytes+len(x)+len(padding))
	out = appendNumber(out, uint32(len(x)))
	out = append(out, x...)
	return append(out, padding...)
}

// copyWithRoom copies b because appending to b itself could write into its spare capacity, which belongs to the caller.
func copyWithRoom(b []byte, room int) []byte {
	return append(make([]byte, 0, len(b)+room), b...)
}

func appendNumber(b []byte, n uint32) []byte {
	return append(b, byte(n), byte(n>>8), byte(n>>16), byte(n>>24))
}

// source holds the unread bytes and the first error of a Reader. With an error it has no unread bytes.
type source struct {
	unread []byte
	err    api.Errno
}

// fail records e unless there is an error already: the first one is kept.
func (s *source) fail(e api.Errno) {
	if s.err == api.OK {
		s.err = e
		s.unread = nil
	}
}

// take reads n bytes and reports whether there are as many. The bytes still belong to the source.
func (s *source) take(n uint64) ([]byte, bool) {
	if n > uint64(len(s.unread)) {
		s.fail(api.ErrTruncated)
		return nil, false
	}
	taken := s.unread[:n]
	s.unread = s.unread[n:]
	return taken, true
}

func (s *source) number() uint32 {
	b, ok := s.take(numberBytes)
	if !ok {
		return 0
	}
	return uint32(b[0]) | uint32(b[1])<<8 | uint32(b[2])<<16 | uint32(b[3])<<24
}

// counted reads a number, that many bytes and their padding, and returns the bytes without the padding. The count is kept in 64 bits because rounding up the largest one would overflow 32.
func (s *source) counted(most int) []byte {
	n := uint64(s.number())
	if n > uint64(max(most, 0)) {
		s.fail(api.ErrLimit)
	}
	b, ok := s.take((n + align - 1) / align * align)
	if !ok {
		return nil
	}
	for _, x := range b[n:] {
		if x != 0 {
			s.fail(api.ErrSyntax)
			return nil
		}
	}
	return b[:n]
}

// Reader reads a sequence of bytes from the front. The fields and methods of its source are promoted.
type Reader struct {
	source
	self *Reader // tells the readers that From returned from all others, copies among them
}

// From returns a reader of a copy of b.
func From(b []byte) *Reader {
	r := &Reader{source: source{unread: bytes.Clone(b)}}
	r.self = r
	return r
}

func (r *Reader) created() bool {
	return r != nil && r.self == r
}

// Uint reads a number.
func (r *Reader) Uint() uint32 {
	if !r.created() {
		return 0
	}
	return r.number()
}

// Int reads a number in two's complement.
func (r *Reader) Int() int32 {
	return int32(r.Uint())
}

// String reads a string of at most most bytes, none of which may be zero.
func (r *Reader) String(most int) string {
	if !r.created() {
		return ""
	}
	b := r.counted(most)
	if bytes.IndexByte(b, 0) >= 0 {
		r.fail(api.ErrSyntax)
		return ""
	}
	return string(b)
}

// Array reads an array of at most most bytes.
func (r *Reader) Array(most int) []byte {
	if !r.created() {
		return nil
	}
	return bytes.Clone(r.counted(most))
}

// Left returns the number of unread bytes, which is 0 after an error.
func (r *Reader) Left() int {
	if !r.created() {
		return 0
	}
	return len(r.unread)
}

// Err returns the error of the reader.
func (r *Reader) Err() api.Errno {
	if !r.created() {
		return api.ErrNil
	}
	return r.err
}

// End returns the error of the reader, or ErrSyntax if there is none and bytes are unread.
func (r *Reader) End() api.Errno {
	if r.Err() == api.OK && r.Left() > 0 {
		return api.ErrSyntax
	}
	return r.Err()
}
