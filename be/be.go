// Package be is layer 1: numbers and texts as bytes. See shared/doc/01-be.md.
package be

import (
	"bytes"
	"iter"

	"moneyer/api"
)

// widest is how many bytes a number has at most.
const widest = 8

// textWidth is how many bytes tell how long a text is.
const textWidth = 2

// Reader reads bytes from their beginning on; nil is a bad one.
type Reader struct {
	rest []byte
	bad  bool
}

// Put gives b, and behind it the lowest width bytes of n, the greatest ahead.
func Put(b []byte, width, n int) []byte {
	if !fits(width) {
		return bytes.Clone(b)
	}
	// With its length as its limit b has no spare room, so that append takes
	// new memory, and neither b's bytes nor those behind them are written.
	out := b[:len(b):len(b)]
	for x := range lowest(width, n) {
		out = append(out, x)
	}
	return out
}

// Num gives the number of the width bytes of b from place at on.
func Num(b []byte, at, width int) (int, bool) {
	if !fits(width) || at < 0 || at > len(b)-width {
		return 0, false
	}
	n := 0
	for _, x := range b[at : at+width] {
		n = n<<8 | int(x)
	}
	return n, true
}

// Text gives b, and behind it how many bytes s has, and these.
func Text(b []byte, s string) []byte {
	s = s[:min(len(s), api.MaxText)]
	return append(Put(b, textWidth, len(s)), s...)
}

// Read gives a reader of b, which keeps bytes of its own.
func Read(b []byte) *Reader {
	return &Reader{rest: bytes.Clone(b)}
}

// Num gives the next number.
func (r *Reader) Num(width int) int {
	if !fits(width) {
		r.spoil()
		return 0
	}
	n, _ := Num(r.next(width), 0, width)
	return n
}

// Bytes gives the next n bytes.
func (r *Reader) Bytes(n int) []byte {
	// The reader's own bytes are not given out: behind them is what is ahead.
	return bytes.Clone(r.next(n))
}

// Text gives the next text.
func (r *Reader) Text() string {
	return string(r.next(r.Num(textWidth)))
}

// Left tells how many bytes are still ahead.
func (r *Reader) Left() int {
	if !r.OK() {
		return 0
	}
	return len(r.rest)
}

// OK tells whether the reader is not bad.
func (r *Reader) OK() bool {
	return r != nil && !r.bad
}

// next leaves n bytes behind and gives them, the reader's own; if they are not
// there, the reader is bad.
func (r *Reader) next(n int) []byte {
	if n < 0 || n > r.Left() {
		r.spoil()
	}
	if !r.OK() {
		return nil
	}
	head := r.rest[:n]
	r.rest = r.rest[n:]
	return head
}

// spoil makes the reader a bad one, which needs its bytes no more.
func (r *Reader) spoil() {
	if r != nil {
		r.rest, r.bad = nil, true
	}
}

// fits tells whether a number may have width bytes.
func fits(width int) bool {
	return 1 <= width && width <= widest
}

// lowest goes through the lowest width bytes of n, the greatest ahead.
func lowest(width, n int) iter.Seq[byte] {
	return func(yield func(byte) bool) {
		for i := width - 1; i >= 0; i-- {
			if !yield(byte(n >> (8 * i))) {
				return
			}
		}
	}
}
