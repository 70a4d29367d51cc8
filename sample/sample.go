// Package sample gives the tests of all packages what they hand in: bytes, room
// behind them, and things that a slot may have. No other package needs it.
package sample

import (
	"bytes"
	"slices"

	"moneyer/api"
)

// Some gives n bytes that look like nothing, always the same.
func Some(n int) []byte {
	b := make([]byte, n)
	x := uint32(n) + 1
	for i := range b {
		x = x*1664525 + 1013904223
		b[i] = byte(x >> 24)
	}
	return b
}

// Roomy gives b with spare room behind it, all of it 0xee, and the whole.
func Roomy(b ...byte) ([]byte, []byte) {
	whole := slices.Concat(b, bytes.Repeat([]byte{0xee}, 64))
	return whole[:len(b)], whole
}

// Scribble writes over all of b, its spare room too.
func Scribble(b []byte) {
	b = b[:cap(b)]
	for i := range b {
		b[i] = 0x55
	}
}

// Record gives the record of these bytes.
func Record(b ...byte) api.Cell {
	return api.Cell{Kind: api.KindRecord, Data: b}
}

// Counter gives the counter val from lo to hi.
func Counter(lo, hi, val int) api.Cell {
	return api.Cell{Kind: api.KindCounter, Lo: lo, Hi: hi, Val: val}
}

// Live gives the slot of a key that has c.
func Live(k string, c api.Cell) api.Item {
	return api.Item{State: api.Live, Key: k, Cell: c}
}

// Ghost gives the slot of a key that once had c.
func Ghost(k string, c api.Cell) api.Item {
	return api.Item{State: api.Ghost, Key: k, Cell: c}
}
