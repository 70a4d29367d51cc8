package be

import (
	"bytes"
	"fmt"
	"math"
	"strings"
	"testing"

	"moneyer/api"
	"moneyer/sample"
)

// spare gives b with its spare room.
func spare(b []byte) []byte { return b[:cap(b)] }

// P1.1

func TestPut(t *testing.T) {
	for _, x := range []struct {
		b        []byte
		width, n int
		want     []byte
	}{
		{nil, 3, 258, []byte{0, 1, 2}},
		{nil, 1, 0, []byte{0}},
		{nil, 1, 255, []byte{255}},
		{nil, 1, 256, []byte{0}},
		{[]byte{7}, 1, 0x1234, []byte{7, 0x34}},
		{[]byte{7}, 2, -2, []byte{7, 255, 254}},
		{[]byte{7, 8}, 2, 0x123456, []byte{7, 8, 0x34, 0x56}},
		{nil, 4, 70000, []byte{0, 1, 0x11, 0x70}},
		{nil, 7, 0x0102030405060708, []byte{2, 3, 4, 5, 6, 7, 8}},
		{nil, 7, -1, bytes.Repeat([]byte{255}, 7)},
		{nil, 8, 0x0102030405060708, []byte{1, 2, 3, 4, 5, 6, 7, 8}},
		{nil, 8, -2, []byte{255, 255, 255, 255, 255, 255, 255, 254}},
		{nil, 8, math.MaxInt, []byte{127, 255, 255, 255, 255, 255, 255, 255}},
		{nil, 8, math.MinInt, []byte{128, 0, 0, 0, 0, 0, 0, 0}},
		{[]byte{}, 1, 9, []byte{9}},
	} {
		if got := Put(x.b, x.width, x.n); !bytes.Equal(got, x.want) {
			t.Errorf("Put(%v, %d, %d) = %v, want %v", x.b, x.width, x.n, got, x.want)
		}
	}
}

func TestPutOfNoWidth(t *testing.T) {
	for _, width := range []int{0, 9, 16, 64, -1, -8, math.MaxInt, math.MinInt} {
		if got := Put([]byte{7, 8}, width, 1); !bytes.Equal(got, []byte{7, 8}) {
			t.Errorf("width %d: %v", width, got)
		}
		if got := Put(nil, width, 1); len(got) != 0 {
			t.Errorf("width %d behind nil: %v", width, got)
		}
	}
}

func TestNum(t *testing.T) {
	b := []byte{255, 1, 2, 3, 4, 5, 6, 254, 128}
	for _, x := range []struct{ at, width, want int }{
		{0, 1, 255},
		{8, 1, 128},
		{1, 2, 0x0102},
		{7, 2, 0xfe80},
		{0, 3, 0xff0102},
		{0, 7, 0xff010203040506},
		{2, 7, 0x0203040506fe80},
		{1, 8, 0x010203040506fe80},
		{0, 8, -0xfefdfcfbfaf902},
	} {
		if n, ok := Num(b, x.at, x.width); n != x.want || !ok {
			t.Errorf("Num at %d of %d = %d, %v, want %d", x.at, x.width, n, ok, x.want)
		}
	}
}

func TestNumThatIsNotThere(t *testing.T) {
	b, _ := sample.Roomy(9, 9, 9, 9, 9, 9, 9, 9, 9)
	for _, x := range []struct{ at, width int }{
		{0, 0}, {0, 9}, {0, -1}, {0, -8}, {0, math.MaxInt}, {0, math.MinInt}, {1, 0}, {9, 0},
		{-1, 1}, {-1, 8}, {-8, 8}, {math.MinInt, 1}, {math.MinInt, 8},
		{9, 1}, {10, 1}, {8, 2}, {3, 7}, {2, 8}, {9, 8}, {math.MaxInt, 1}, {math.MaxInt, 8}, {math.MaxInt - 7, 8},
	} {
		if n, ok := Num(b, x.at, x.width); n != 0 || ok {
			t.Errorf("Num at %d of %d = %d, %v", x.at, x.width, n, ok)
		}
	}
	for _, b := range [][]byte{nil, {}} {
		if n, ok := Num(b, 0, 1); n != 0 || ok {
			t.Errorf("Num of nothing = %d, %v", n, ok)
		}
	}
}

func TestText(t *testing.T) {
	for _, x := range []struct {
		b    []byte
		s    string
		want []byte
	}{
		{nil, "", []byte{0, 0}},
		{nil, "ab", []byte{0, 2, 'a', 'b'}},
		{[]byte{7}, "ab", []byte{7, 0, 2, 'a', 'b'}},
		{[]byte{7}, "", []byte{7, 0, 0}},
		{nil, "é", []byte{0, 2, 0xc3, 0xa9}},
		{nil, "\xff\x00", []byte{0, 2, 255, 0}},
		{nil, strings.Repeat("x", 258), append([]byte{1, 2}, strings.Repeat("x", 258)...)},
	} {
		if got := Text(x.b, x.s); !bytes.Equal(got, x.want) {
			t.Errorf("Text(%v, %q) = %v, want %v", x.b, x.s, got, x.want)
		}
	}
}

func TestTextOfTheLimit(t *testing.T) {
	most := strings.Repeat("a", api.MaxText-1) + "b"
	want := append([]byte{7, 255, 255}, most...)
	for _, s := range []string{most, most + "c", most + most} {
		if got := Text([]byte{7}, s); !bytes.Equal(got, want) {
			t.Errorf("of %d bytes: %d bytes, want %d", len(s), len(got), len(want))
		}
	}
	less := Text(nil, most[1:])
	if !bytes.Equal(less, append([]byte{255, 254}, most[1:]...)) {
		t.Errorf("of %d bytes: %d bytes", api.MaxText-1, len(less))
	}
	// A rune that the limit parts is cut all the same: bytes are counted.
	if got := Text(nil, most[1:]+"é"); len(got) != 2+api.MaxText || got[len(got)-1] != 0xc3 {
		t.Errorf("of a parted rune: %d bytes", len(got))
	}
}

// What is handed in is not changed, its spare room included.
func TestPutAndTextChangeNothing(t *testing.T) {
	for _, f := range writers() {
		b, whole := sample.Roomy(1, 2, 3)
		before := bytes.Clone(whole)
		f.of(b)
		if !bytes.Equal(whole, before) {
			t.Errorf("%s changed what it was given: %v", f.name, whole)
		}
	}
}

// An answer is new memory: neither of the two reaches the other.
func TestPutAndTextAnswerNewMemory(t *testing.T) {
	for _, f := range writers() {
		b, whole := sample.Roomy(1, 2, 3)
		before := bytes.Clone(whole)
		got := f.of(b)
		want := bytes.Clone(got)
		sample.Scribble(got)
		if !bytes.Equal(whole, before) {
			t.Errorf("%s: the answer reaches what was given: %v", f.name, whole)
		}
		got = f.of(b)
		sample.Scribble(whole)
		if !bytes.Equal(got, want) {
			t.Errorf("%s: what was given reaches the answer: %v", f.name, got)
		}
	}
}

// Two answers share nothing either.
func TestAnswersOfOneListShareNothing(t *testing.T) {
	for _, f := range writers() {
		b, _ := sample.Roomy(1, 2, 3)
		one, two := f.of(b), f.of(b)
		want := bytes.Clone(two)
		sample.Scribble(one)
		if !bytes.Equal(two, want) {
			t.Errorf("%s: one answer reaches another: %v", f.name, two)
		}
	}
}

type writer struct {
	name string
	of   func(b []byte) []byte
}

// writers are calls that answer b and something behind it.
func writers() []writer {
	l := []writer{
		{"Text of nothing", func(b []byte) []byte { return Text(b, "") }},
		{"Text", func(b []byte) []byte { return Text(b, "abc") }},
	}
	for _, width := range []int{-1, 0, 1, 7, 8, 9} {
		l = append(l, writer{fmt.Sprint("Put of width ", width), func(b []byte) []byte { return Put(b, width, 0x0a0b0c0d0e0f0102) }})
	}
	return l
}

func TestNumChangesNothing(t *testing.T) {
	b, whole := sample.Roomy(1, 2, 3)
	before := bytes.Clone(whole)
	if n, ok := Num(b, 0, 3); n != 0x010203 || !ok {
		t.Error(n, ok)
	}
	if _, ok := Num(b, 0, 4); ok {
		t.Error("a number out of the spare room")
	}
	if !bytes.Equal(whole, before) {
		t.Error(whole)
	}
}

// P1.2

func TestReader(t *testing.T) {
	b := Put(nil, 4, 70000)
	b = Text(b, "ab")
	b = Put(b, 1, 255)
	b = append(b, 5, 6, 7)
	b = Text(b, "")
	b = Put(b, 8, -3)
	b = Put(b, 7, -1)
	r := Read(b)
	left := len(b)
	check := func(what string, took int) {
		t.Helper()
		left -= took
		if r.Left() != left || !r.OK() {
			t.Errorf("behind %s: Left %d, OK %v, want %d", what, r.Left(), r.OK(), left)
		}
	}
	check("the beginning", 0)
	if n := r.Num(4); n != 70000 {
		t.Error(n)
	}
	check("Num(4)", 4)
	if s := r.Text(); s != "ab" {
		t.Error(s)
	}
	check("Text", 4)
	if n := r.Num(1); n != 255 {
		t.Error(n)
	}
	check("Num(1)", 1)
	if l := r.Bytes(0); len(l) != 0 {
		t.Error(l)
	}
	check("Bytes(0)", 0)
	if l := r.Bytes(3); !bytes.Equal(l, []byte{5, 6, 7}) {
		t.Error(l)
	}
	check("Bytes(3)", 3)
	if s := r.Text(); s != "" {
		t.Error(s)
	}
	check("Text of nothing", 2)
	if n := r.Num(8); n != -3 {
		t.Error(n)
	}
	check("Num(8)", 8)
	if n := r.Num(7); n != 1<<56-1 {
		t.Error(n)
	}
	check("Num(7)", 7)
	if left != 0 {
		t.Error(left)
	}
}

func TestReaderOfTheLongestText(t *testing.T) {
	s := strings.Repeat("a", api.MaxText-1) + "b"
	r := Read(Text(nil, s+"c"))
	if got := r.Text(); got != s || !r.OK() || r.Left() != 0 {
		t.Error(len(got), r.OK(), r.Left())
	}
}

// bad fails unless r is bad, and stays so, whatever it is asked.
func bad(t *testing.T, what string, r *Reader) {
	t.Helper()
	for range 2 {
		if r.OK() || r.Left() != 0 {
			t.Errorf("%s: OK %v, Left %d", what, r.OK(), r.Left())
		}
		if n := r.Num(1); n != 0 {
			t.Errorf("%s: Num %d", what, n)
		}
		if n := r.Num(0); n != 0 {
			t.Errorf("%s: Num of no width %d", what, n)
		}
		for _, n := range []int{0, 1, -1} {
			if l := r.Bytes(n); l != nil {
				t.Errorf("%s: Bytes(%d) %v", what, n, l)
			}
		}
		if s := r.Text(); s != "" {
			t.Errorf("%s: Text %q", what, s)
		}
	}
}

func TestReaderThatIsBad(t *testing.T) {
	for _, width := range []int{0, 9, -1, math.MaxInt, math.MinInt} {
		r := Read(bytes.Repeat([]byte{1}, 20))
		if n := r.Num(width); n != 0 {
			t.Error(width, n)
		}
		bad(t, fmt.Sprint("Num of width ", width), r)
	}
	for _, n := range []int{21, -1, math.MaxInt, math.MinInt} {
		r := Read(bytes.Repeat([]byte{1}, 20))
		if l := r.Bytes(n); l != nil {
			t.Error(n, l)
		}
		bad(t, fmt.Sprint("Bytes of ", n), r)
	}
	for _, b := range [][]byte{{}, {0}, {0, 1}, {0, 2, 'a'}, {255, 255, 'a'}} {
		r := Read(b)
		if s := r.Text(); s != "" {
			t.Error(b, s)
		}
		bad(t, fmt.Sprint("Text of ", b), r)
	}
	for width := 1; width <= 8; width++ {
		r := Read(bytes.Repeat([]byte{1}, width-1))
		if n := r.Num(width); n != 0 {
			t.Error(width, n)
		}
		bad(t, fmt.Sprint("Num that is one byte short of ", width), r)
	}
}

// What comes behind what is there is bad, not what was read ahead of it.
func TestReaderIsBadFromThenOn(t *testing.T) {
	r := Read([]byte{1, 2, 3, 4})
	if n := r.Num(1); n != 1 || !r.OK() || r.Left() != 3 {
		t.Error(n, r.OK(), r.Left())
	}
	if n := r.Num(4); n != 0 {
		t.Error(n)
	}
	bad(t, "Num(4) of three", r)
}

func TestReaderAtItsEnd(t *testing.T) {
	for _, b := range [][]byte{nil, {}, {1, 2, 3}} {
		end := func() *Reader {
			r := Read(b)
			r.Bytes(len(b))
			if r.Left() != 0 || !r.OK() {
				t.Error(b, r.Left(), r.OK())
			}
			return r
		}
		r := end()
		if l := r.Bytes(0); len(l) != 0 || !r.OK() {
			t.Error("Bytes(0) at the end", l, r.OK())
		}
		r.Num(1)
		bad(t, "Num at the end", r)
		r = end()
		r.Bytes(1)
		bad(t, "Bytes at the end", r)
		r = end()
		r.Text()
		bad(t, "Text at the end", r)
	}
}

func TestReaderThatIsNil(t *testing.T) {
	var r *Reader
	bad(t, "nil", r)
	if l := r.Bytes(math.MaxInt); l != nil {
		t.Error(l)
	}
}

// The spare room of what is read is not ahead.
func TestReaderLeavesSpareRoom(t *testing.T) {
	b, _ := sample.Roomy(0, 9, 'a')
	for _, read := range []func(r *Reader){
		func(r *Reader) { r.Num(4) },
		func(r *Reader) { r.Bytes(4) },
		func(r *Reader) { r.Text() },
	} {
		r := Read(b)
		read(r)
		bad(t, "into the spare room", r)
	}
}

// A reader keeps nothing of what it was given, and changes nothing of it.
func TestReaderKeepsNothing(t *testing.T) {
	b, whole := sample.Roomy(0, 2, 'a', 'b', 5, 6, 7, 8)
	before := bytes.Clone(whole)
	r := Read(b)
	sample.Scribble(whole)
	if s := r.Text(); s != "ab" {
		t.Errorf("%q", s)
	}
	if n := r.Num(2); n != 0x0506 {
		t.Error(n)
	}
	copy(whole, before)
	if l := r.Bytes(2); !bytes.Equal(l, []byte{7, 8}) {
		t.Error(l)
	} else {
		sample.Scribble(l)
	}
	if !bytes.Equal(whole, before) {
		t.Error(whole)
	}
}

// What Bytes answers reaches neither the reader nor another answer.
func TestBytesAreNewMemory(t *testing.T) {
	r := Read([]byte{1, 2, 3, 4, 5, 6})
	one := r.Bytes(2)
	two := r.Bytes(2)
	want := bytes.Clone(two)
	sample.Scribble(one)
	_ = append(one, 8, 8, 8)
	if !bytes.Equal(two, want) {
		t.Error(two)
	}
	if n := r.Num(2); n != 0x0506 {
		t.Error(n)
	}
	if !bytes.Equal(one, []byte{0x55, 0x55}) {
		t.Error(one)
	}
}

func TestReadersOfOneListAreApart(t *testing.T) {
	b := []byte{1, 2, 3}
	one, two := Read(b), Read(b)
	one.Num(3)
	one.Num(1)
	if two.Left() != 3 || !two.OK() {
		t.Error(two.Left(), two.OK())
	}
	if n := two.Num(3); n != 0x010203 {
		t.Error(n)
	}
}

// P1.3

func TestNumOfWhatPutWrote(t *testing.T) {
	for width := 1; width <= 8; width++ {
		for _, n := range numbers(width) {
			b := append(Put([]byte{9, 9}, width, n), 9)
			if got, ok := Num(b, 2, width); got != n || !ok {
				t.Errorf("width %d: Num of Put of %d = %d, %v", width, n, got, ok)
			}
			r := Read(b[2:])
			if got := r.Num(width); got != n || r.Left() != 1 {
				t.Errorf("width %d: the reader's Num of Put of %d = %d", width, n, got)
			}
		}
	}
}

// numbers are some that have no more than width bytes.
func numbers(width int) []int {
	l := []int{0, 1, 127, 128, 255}
	if width == 8 {
		l = append(l, -1, -128, -255, -256, math.MinInt, math.MinInt+1, math.MaxInt-1, math.MaxInt)
	}
	for bits := range 8*width - 1 {
		l = append(l, 1<<bits, 1<<bits-1)
	}
	if width < 8 {
		l = append(l, 1<<(8*width-1), 1<<(8*width)-1)
	}
	return l
}

// Of a number that has more bytes the lowest ones are there, without a sign.
func TestNumOfPutOfTooGreat(t *testing.T) {
	for _, x := range []struct{ width, n, want int }{
		{1, 256, 0}, {1, -1, 255}, {2, 65536 + 7, 7}, {4, -2, 1<<32 - 2}, {7, math.MinInt + 5, 5}, {7, -1, 1<<56 - 1},
	} {
		if n, ok := Num(Put(nil, x.width, x.n), 0, x.width); n != x.want || !ok {
			t.Errorf("width %d, %d: %d, %v, want %d", x.width, x.n, n, ok, x.want)
		}
	}
}

// The bytes of a number may be left before their end.
func TestLowestIsLeft(t *testing.T) {
	var l []byte
	for x := range lowest(4, 0x01020304) {
		if l = append(l, x); len(l) == 2 {
			break
		}
	}
	if !bytes.Equal(l, []byte{1, 2}) {
		t.Error(l)
	}
}
