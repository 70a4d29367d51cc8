// Package sample gives the tests of all packages what they hand in: bytes, room
// behind them, things that a slot may have, states, and operations. No other
// package needs it.
package sample

import (
	"bytes"
	"math"
	"slices"
	"strings"

	"moneyer/api"
)

// Some gives n bytes that look like nothing, always the same.
func Some(n int) []byte {
	b := make([]byte, n)
	x := uint32(n) + 1
	for i := range b {
		x = x*1664525 + 1013904223
		b[i] = byte(x >> 24)
	}
	return b
}

// Roomy gives b with spare room behind it, all of it 0xee, and the whole.
func Roomy(b ...byte) ([]byte, []byte) {
	whole := slices.Concat(b, bytes.Repeat([]byte{0xee}, 64))
	return whole[:len(b)], whole
}

// Scribble writes over all of b, its spare room too.
func Scribble(b []byte) {
	b = b[:cap(b)]
	for i := range b {
		b[i] = 0x55
	}
}

// Record gives the record of these bytes.
func Record(b ...byte) api.Cell {
	return api.Cell{Kind: api.KindRecord, Data: b}
}

// Counter gives the counter val from lo to hi.
func Counter(lo, hi, val int) api.Cell {
	return api.Cell{Kind: api.KindCounter, Lo: lo, Hi: hi, Val: val}
}

// Live gives the slot of a key that has c.
func Live(k string, c api.Cell) api.Item {
	return api.Item{State: api.Live, Key: k, Cell: c}
}

// Ghost gives the slot of a key that once had c.
func Ghost(k string, c api.Cell) api.Item {
	return api.Item{State: api.Ghost, Key: k, Cell: c}
}

// Keys gives keys of each length that may be.
func Keys() []string {
	l := []string{"a", "b", "!", "~", "k1", "ab", "ba", "0123456789abcdef", "!!!!!!!!!!!!!!!!", "~~~~~~~~~~~~~~~~"}
	for n := 3; n < 16; n++ {
		l = append(l, "0123456789abcdef"[16-n:])
	}
	return l
}

// WrongKeys gives texts that are no keys.
func WrongKeys() []string {
	l := []string{"", " ", "\x00", "\x1f", "\x7f", "\x80", "\xff", "a b", " a", "a ", "a\n", "a\x00", "\x00a", "é", "日本", "0123456789abcde ", " 123456789abcdef", "0123456789abcde\x00"}
	for _, n := range []int{17, 18, 31, 32, 62, 63, 64, 255, 256, 257, 272, 1<<16 + 1} {
		l = append(l, strings.Repeat("k", n))
	}
	return l
}

// Cells gives cells that may be.
func Cells() []api.Cell {
	l := []api.Cell{
		{Kind: 1}, Record([]byte{}...), Record([]byte("ab")...),
		Counter(0, 0, 0), Counter(0, 5, 3), Counter(0, 5, 0), Counter(0, 5, 5), Counter(-7, -3, -5), Counter(-1, 258, 0),
		Counter(math.MinInt, math.MaxInt, 0), Counter(math.MinInt, math.MaxInt, -2),
		Counter(math.MinInt, math.MinInt, math.MinInt), Counter(math.MaxInt, math.MaxInt, math.MaxInt),
	}
	for n := range 33 {
		l = append(l, Record(Some(n)...), Record(make([]byte, n)...), Record(bytes.Repeat([]byte{255}, n)...))
	}
	return l
}

// WrongCells gives cells that may not be.
func WrongCells() []api.Cell {
	l := []api.Cell{
		{}, {Data: Some(2)}, {Hi: 5, Val: 3}, {Kind: 3}, {Kind: -1}, {Kind: 257}, {Kind: 258, Hi: 5},
		Record(Some(33)...), Record(Some(64)...), Record(Some(256)...), Record(Some(288)...),
		{Kind: 1, Lo: 1}, {Kind: 1, Hi: 1}, {Kind: 1, Val: 1}, {Kind: 1, Data: Some(2), Lo: -1}, {Kind: 1, Lo: 3, Hi: 3, Val: 3},
		Counter(0, 5, 6), Counter(0, 5, -1), Counter(5, 0, 3), Counter(1, 0, 0), Counter(0, 0, 1),
		Counter(math.MaxInt, math.MinInt, 0), Counter(math.MinInt, math.MinInt, math.MaxInt),
		{Kind: 2, Data: Some(1), Hi: 5, Val: 3}, {Kind: 2, Data: Some(32)},
	}
	return l
}
