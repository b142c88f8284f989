package wire

import (
	"bytes"

	"twine/api"
)

// lastGroup is the place, in a number, of its tenth byte: nine groups hold 63 bits, so the tenth can only bring the top one.
const lastGroup = 9

// Reader: it reads bytes from the left.
//
// The inner functions read from a place and tell the place behind; they give up by a panic. A face's method moves the reader only once the reading is through, so that a fault takes nothing.
type Reader struct {
	b     []byte
	at    int
	fault api.Fault // its Err is OK till the first fault
}

// Read makes a reader of b's bytes.
func Read(b []byte) *Reader {
	return &Reader{b: bytes.Clone(b)}
}

// Byte reads one byte.
func (r *Reader) Byte() byte {
	defer func() { r.note(recover()) }()
	if r.failed() {
		return 0
	}
	c := r.byteAt(r.at)
	r.at++
	return c
}

// Uint reads a number that is at most most.
func (r *Reader) Uint(most uint64) uint64 {
	defer func() { r.note(recover()) }()
	if r.failed() {
		return 0
	}
	n, next := r.uintAt(r.at)
	if n > most {
		giveUp(r.at, api.ErrWireLong)
	}
	r.at = next
	return n
}

// Text reads a text of at most most bytes.
func (r *Reader) Text(most int) string {
	defer func() { r.note(recover()) }()
	if r.failed() {
		return ""
	}
	n, body := r.uintAt(r.at)
	if most < 0 || n > uint64(most) {
		giveUp(r.at, api.ErrWireLong)
	}
	part := r.part(body, int(n)) // n fits an int: it is at most most
	r.at = body + len(part)
	return string(part)
}

// Raw reads n bytes.
func (r *Reader) Raw(n int) []byte {
	defer func() { r.note(recover()) }()
	if r.failed() {
		return nil
	}
	part := r.part(r.at, max(n, 0))
	r.at += len(part)
	return bytes.Clone(part)
}

// End wants that nothing is left.
func (r *Reader) End() {
	defer func() { r.note(recover()) }()
	if !r.failed() && r.at < len(r.b) {
		giveUp(r.at, api.ErrWireRest)
	}
}

// At tells how many bytes were taken.
func (r *Reader) At() int { return r.at }

// Err tells the first fault.
func (r *Reader) Err() error {
	if !r.failed() {
		return nil
	}
	f := r.fault // a copy: what is done with an answer doesn't touch the reader
	return &f
}

// failed tells whether there was a fault.
func (r *Reader) failed() bool { return r.fault.Err != api.OK }

// note notes what a reading gave up with, if it did.
func (r *Reader) note(x any) {
	switch f := x.(type) {
	case nil:
	case api.Fault:
		r.fault = f
	default:
		panic(x) // a slip of this package's own: hiding it would make it an answer
	}
}

// giveUp leaves a reading, from wherever it is.
func giveUp(at int, err api.Errno) {
	panic(api.Fault{At: at, Err: err})
}

// byteAt tells the byte at a place.
func (r *Reader) byteAt(at int) byte {
	if at >= len(r.b) {
		giveUp(len(r.b), api.ErrWireShort)
	}
	return r.b[at]
}

// part tells the n bytes from a place on: the reader's own, not a copy.
func (r *Reader) part(at, n int) []byte {
	if n > len(r.b)-at { // not at+n, which may wrap round
		giveUp(len(r.b), api.ErrWireShort)
	}
	return r.b[at : at+n]
}

// uintAt tells the number at a place, and the place behind it.
func (r *Reader) uintAt(at int) (uint64, int) {
	var n uint64
	for i := 0; ; i++ { // it ends at the tenth byte: that one is 1, or wrong
		c := r.byteAt(at + i)
		if i > 0 && c == 0 || i == lastGroup && c != 1 {
			giveUp(at+i, api.ErrWireForm)
		}
		n |= uint64(c&groupMask) << (groupBits * i)
		if c < moreBit {
			return n, at + i + 1
		}
	}
}
