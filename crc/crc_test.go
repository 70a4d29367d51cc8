package crc

import (
	"bytes"
	"hash/crc32"
	"math"
	"testing"

	"moneyer/sample"
)

// told sums b as the chapter tells it, bit by bit.
func told(b []byte) uint32 {
	sum := uint32(0xffffffff)
	for _, x := range b {
		sum ^= uint32(x)
		for range 8 {
			out := sum & 1
			sum >>= 1
			if out == 1 {
				sum ^= 0x82f63b78
			}
		}
	}
	return ^sum
}

// lists gives bytes of many lengths and kinds.
func lists() [][]byte {
	l := [][]byte{nil, {}}
	for n := 1; n <= 40; n++ {
		l = append(l, make([]byte, n), bytes.Repeat([]byte{255}, n), sample.Some(n))
	}
	for _, n := range []int{255, 256, 257, 508, 512, 4096, 1<<16 + 1} {
		l = append(l, make([]byte, n), bytes.Repeat([]byte{255}, n), sample.Some(n))
	}
	return l
}

// with gives a list of its own of the parts, one behind the other.
func with(parts ...[]byte) []byte {
	return bytes.Join(parts, nil)
}

// turned gives b with the bits of pattern turned from the bit at on: bits are
// counted as they are summed, byte by byte, the lowest ahead.
func turned(b []byte, at int, pattern uint32) []byte {
	b = bytes.Clone(b)
	for i := range 32 {
		if pattern>>i&1 == 1 {
			b[(at+i)/8] ^= 1 << ((at + i) % 8)
		}
	}
	return b
}

// P2.1

func TestSum(t *testing.T) {
	rising, falling := make([]byte, 32), make([]byte, 32)
	for i := range 32 {
		rising[i], falling[31-i] = byte(i), byte(i)
	}
	for _, x := range []struct {
		b    []byte
		want uint32
	}{
		{[]byte("123456789"), 0xe3069283},
		{nil, 0},
		{[]byte{}, 0},
		{[]byte{0}, 0x527d5351},
		{[]byte{255}, 0xff000000},
		{[]byte("a"), 0xc1d04330},
		{[]byte("abc"), 0x364b3fb7},
		{make([]byte, 32), 0x8a9136aa},
		{bytes.Repeat([]byte{255}, 32), 0x62a8ab43},
		{rising, 0x46dd794e},
		{falling, 0x113fdb5c},
	} {
		if got := Sum(x.b); got != x.want {
			t.Errorf("Sum(%v) = %#x, want %#x", x.b, got, x.want)
		}
	}
}

func TestSumOfOneByte(t *testing.T) {
	for i := range 256 {
		b := []byte{byte(i)}
		if got, want := Sum(b), told(b); got != want {
			t.Errorf("Sum(%v) = %#x, want %#x", b, got, want)
		}
	}
}

func TestSumIsAsTold(t *testing.T) {
	for _, b := range lists() {
		if got, want := Sum(b), told(b); got != want {
			t.Errorf("of %d bytes: %#x, want %#x", len(b), got, want)
		}
	}
}

// Another hand's Castagnoli tells the same.
func TestSumIsCastagnoli(t *testing.T) {
	c := crc32.MakeTable(crc32.Castagnoli)
	for _, b := range append(lists(), sample.Some(1<<20)) {
		if got, want := Sum(b), crc32.Checksum(b, c); got != want {
			t.Errorf("of %d bytes: %#x, want %#x", len(b), got, want)
		}
	}
}

func TestMore(t *testing.T) {
	for _, b := range [][]byte{[]byte("123456789"), sample.Some(300), make([]byte, 40)} {
		want := told(b)
		for i := range len(b) + 1 {
			if got := More(Sum(b[:i]), b[i:]); got != want {
				t.Errorf("of %d and %d bytes: %#x, want %#x", i, len(b)-i, got, want)
			}
			half := i / 2
			if got := More(More(Sum(b[:half]), b[half:i]), b[i:]); got != want {
				t.Errorf("of %d, %d and %d bytes: %#x, want %#x", half, i-half, len(b)-i, got, want)
			}
		}
	}
}

func TestMoreByteByByte(t *testing.T) {
	b := sample.Some(300)
	sum := Sum(nil)
	for i := range b {
		sum = More(sum, b[i:i+1])
		if want := told(b[:i+1]); sum != want {
			t.Fatalf("of %d bytes: %#x, want %#x", i+1, sum, want)
		}
	}
}

func TestMoreOfNothing(t *testing.T) {
	for _, none := range [][]byte{nil, {}} {
		for _, b := range lists() {
			if got, want := More(Sum(none), b), told(b); got != want {
				t.Errorf("of %d bytes behind none: %#x, want %#x", len(b), got, want)
			}
			if got, want := More(Sum(b), none), told(b); got != want {
				t.Errorf("of none behind %d bytes: %#x, want %#x", len(b), got, want)
			}
		}
		for _, sum := range sums() {
			if got := More(sum, none); got != sum {
				t.Errorf("of none behind %#x: %#x", sum, got)
			}
		}
	}
}

// sums gives numbers from end to end: each is the Sum of some four bytes.
func sums() []uint32 {
	l := []uint32{0, 1, 2, 0x7fffffff, 0x80000000, 0x82f63b78, 0xe3069283, math.MaxUint32 - 1, math.MaxUint32}
	for i := range 32 {
		l = append(l, 1<<i, ^uint32(1<<i))
	}
	return l
}

func TestMoreOntoAnySum(t *testing.T) {
	c := crc32.MakeTable(crc32.Castagnoli)
	for _, sum := range sums() {
		for _, b := range [][]byte{{0}, {255}, []byte("123456789"), sample.Some(100)} {
			if got, want := More(sum, b), crc32.Update(sum, c, b); got != want {
				t.Errorf("More(%#x, %v) = %#x, want %#x", sum, b, got, want)
			}
		}
	}
}

// P2.2

func TestSeal(t *testing.T) {
	for _, x := range []struct{ b, want []byte }{
		{[]byte("123456789"), []byte("\xe3\x06\x92\x83123456789")},
		{nil, []byte{0, 0, 0, 0}},
		{[]byte{}, []byte{0, 0, 0, 0}},
		{[]byte{0}, []byte{0x52, 0x7d, 0x53, 0x51, 0}},
		{[]byte{255}, []byte{255, 0, 0, 0, 255}},
		{[]byte("a"), []byte("\xc1\xd0\x43\x30a")},
	} {
		if got := Seal(x.b); !bytes.Equal(got, x.want) {
			t.Errorf("Seal(%v) = %v, want %v", x.b, got, x.want)
		}
	}
}

func TestSealIsTheSumAndTheBytes(t *testing.T) {
	for _, b := range lists() {
		sum := told(b)
		want := with([]byte{byte(sum >> 24), byte(sum >> 16), byte(sum >> 8), byte(sum)}, b)
		if got := Seal(b); !bytes.Equal(got, want) {
			t.Errorf("of %d bytes: %d bytes, want %d, the sum %v ahead", len(b), len(got), len(want), want[:4])
		}
	}
}

// A sum whose first bytes are 0 has four bytes all the same.
func TestSealOfASmallSum(t *testing.T) {
	seen := 0
	for i := range 1 << 16 {
		b := []byte{byte(i >> 8), byte(i), 7}
		if told(b)>>16 != 0 {
			continue
		}
		seen++
		if got := Seal(b); len(got) != 7 || got[0] != 0 || got[1] != 0 || !bytes.Equal(got[4:], b) || !Good(got) {
			t.Errorf("Seal(%v) = %v", b, got)
		}
	}
	if seen == 0 {
		t.Error("no small sum was tried")
	}
}

func TestGoodOfFewBytes(t *testing.T) {
	for n := range 4 {
		for _, b := range [][]byte{make([]byte, n), bytes.Repeat([]byte{255}, n), Seal(nil)[:n], Seal([]byte("ab"))[:n]} {
			if Good(b) {
				t.Error(b)
			}
		}
	}
	if Good(nil) {
		t.Error("nil")
	}
}

func TestGoodOfFourBytes(t *testing.T) {
	zero := []byte{0, 0, 0, 0}
	if !Good(zero) {
		t.Error(zero)
	}
	for at := range 4 {
		for x := 1; x < 256; x++ {
			b := bytes.Clone(zero)
			b[at] = byte(x)
			if Good(b) {
				t.Error(b)
			}
		}
	}
	for _, sum := range sums() {
		if b := []byte{byte(sum >> 24), byte(sum >> 16), byte(sum >> 8), byte(sum)}; Good(b) != (sum == 0) {
			t.Error(b)
		}
	}
}

func TestGoodOfAChangedSum(t *testing.T) {
	for _, b := range lists() {
		s := Seal(b)
		for bit := range 32 {
			if Good(turned(s, bit, 1)) {
				t.Errorf("of %d bytes: the bit %d of the sum is turned", len(b), bit)
			}
		}
		for _, pattern := range sums()[1:] {
			if Good(turned(s, 0, pattern)) {
				t.Errorf("of %d bytes: the bits %#x of the sum are turned", len(b), pattern)
			}
		}
	}
}

// The sum stands with its greatest byte ahead, and ahead of the bytes.
func TestGoodOfASumThatStandsElsewhere(t *testing.T) {
	b := []byte("123456789")
	for _, x := range [][]byte{
		with([]byte{0x83, 0x92, 0x06, 0xe3}, b),
		with(b, []byte{0xe3, 0x06, 0x92, 0x83}),
		with(b, []byte{0x83, 0x92, 0x06, 0xe3}),
		with([]byte{0, 0, 0, 0, 0xe3, 0x06, 0x92, 0x83}, b),
		b,
	} {
		if Good(x) {
			t.Error(x)
		}
	}
}

func TestGoodOfBytesCutOff(t *testing.T) {
	for _, b := range [][]byte{{0}, {255}, []byte("a"), []byte("123456789"), sample.Some(60), make([]byte, 60)} {
		s := Seal(b)
		for n := range s {
			// What is cut off is spare room now, which is not summed.
			if Good(s[:n]) {
				t.Errorf("%v: its first %d bytes", s, n)
			}
			// Four bytes 0 are Seal of none, wherever they come from.
			if n > 0 && Good(s[n:]) && !bytes.Equal(s[n:], Seal(nil)) {
				t.Errorf("%v: without its first %d bytes", s, n)
			}
			if x := with(s[:n], s[n+1:]); Good(x) {
				t.Errorf("%v: without the byte %d", s, n)
			}
		}
	}
}

func TestGoodOfBytesPutToIt(t *testing.T) {
	for _, b := range [][]byte{nil, {0}, {255}, []byte("123456789"), sample.Some(60), make([]byte, 60)} {
		s := Seal(b)
		for i := range 256 {
			x := []byte{byte(i)}
			if Good(with(s, x)) {
				t.Errorf("%v: %d is put behind", s, i)
			}
			if Good(with(s[:4], x, b)) {
				t.Errorf("%v: %d is put behind the sum", s, i)
			}
		}
	}
}

// P2.3

func TestSealIsGood(t *testing.T) {
	for _, b := range lists() {
		if s := Seal(b); !Good(s) {
			t.Errorf("of %d bytes", len(b))
		} else if !Good(Seal(s)) {
			t.Errorf("of the Seal of %d bytes", len(b))
		}
	}
}

func TestEachBitTurned(t *testing.T) {
	for _, b := range lists() {
		if len(b) > 600 {
			continue
		}
		s := Seal(b)
		for bit := 32; bit < 8*len(s); bit++ {
			if Good(turned(s, bit, 1)) {
				t.Errorf("of %d bytes: the bit %d is turned", len(b), bit-32)
			}
		}
	}
}

// patterns gives which of 32 bits next to one another are turned: the ends, all,
// any two, and many more.
func patterns() []uint32 {
	l := sums()[1:]
	for i := range 32 {
		l = append(l, 1<<i-1, math.MaxUint32<<i)
		for j := range i {
			l = append(l, 1<<i|1<<j)
		}
	}
	x := uint32(1)
	for range 200 {
		x = x*1664525 + 1013904223
		l = append(l, x)
	}
	return l
}

func TestBitsTurnedWithin32(t *testing.T) {
	all := patterns()
	for _, b := range [][]byte{make([]byte, 4), sample.Some(4), make([]byte, 20), bytes.Repeat([]byte{255}, 20), sample.Some(20)} {
		s := Seal(b)
		for at := 32; at <= 8*len(s)-32; at++ {
			for _, pattern := range all {
				if pattern != 0 && Good(turned(s, at, pattern)) {
					t.Errorf("%v: the bits %#x from %d on are turned", b, pattern, at-32)
				}
			}
		}
	}
}

// Fewer bytes than four have fewer bits: none of their patterns is missed.
func TestAllBitsOfFewTurned(t *testing.T) {
	for _, b := range [][]byte{{0}, {255}, {7}, {0, 0}, {255, 255}, {1, 2}} {
		s := Seal(b)
		for pattern := 1; pattern < 1<<(8*len(b)); pattern++ {
			if Good(turned(s, 32, uint32(pattern))) {
				t.Errorf("%v: the bits %#x are turned", b, pattern)
			}
		}
	}
}

// As what a turned bit does to a sum is xored to what others do, no pattern of 32
// bits is missed, if none of them does what some others do together.
func TestNoPatternIsMissed(t *testing.T) {
	const n = 600
	for _, b := range [][]byte{make([]byte, n), sample.Some(n)} {
		sum := Sum(b)
		for _, at := range []int{0, 1, 7, 8, 33, 8*n/2 - 16, 8*n/2 - 3, 8*n - 39, 8*n - 33, 8*n - 32} {
			var does []uint32
			for bit := range 32 {
				does = append(does, Sum(turned(b, at+bit, 1))^sum)
			}
			if r := rank(does); r != 32 {
				t.Errorf("from %d on: %d of 32 bits tell what others do not", at, r)
			}
			for _, pattern := range patterns() {
				want := sum
				for bit := range 32 {
					want ^= does[bit] * (pattern >> bit & 1)
				}
				if got := Sum(turned(b, at, pattern)); got != want {
					t.Errorf("the bits %#x from %d on: %#x, want %#x", pattern, at, got, want)
				}
			}
		}
	}
}

// rank tells how many of l are not others of them, xored.
func rank(l []uint32) int {
	var lead [32]uint32
	n := 0
	for _, x := range l {
		for i := range 32 {
			if x>>i&1 == 1 && lead[i] == 0 {
				lead[i] = x
				n++
				break
			}
			x ^= lead[i] * (x >> i & 1)
		}
	}
	return n
}

// What is handed in

func TestNothingIsChanged(t *testing.T) {
	for _, b := range [][]byte{nil, []byte("a"), []byte("123456789"), Seal(nil), Seal([]byte("123456789"))} {
		given, whole := sample.Roomy(b...)
		before := bytes.Clone(whole)
		for range 2 {
			// Asked again it tells the same: the spare room is not summed.
			if got, want := Sum(given), told(b); got != want {
				t.Errorf("Sum(%v) = %#x, want %#x", b, got, want)
			}
			if got, want := More(Sum([]byte("ab")), given), told(with([]byte("ab"), b)); got != want {
				t.Errorf("More of %v = %#x, want %#x", b, got, want)
			}
			if got, want := Good(given), len(b) >= 4 && bytes.Equal(Seal(b[4:]), b); got != want {
				t.Errorf("Good(%v) = %v, want %v", b, got, want)
			}
			if got, want := Seal(given), Seal(b); !bytes.Equal(got, want) {
				t.Errorf("Seal(%v) = %v, want %v", b, got, want)
			}
			if !bytes.Equal(whole, before) {
				t.Errorf("%v was changed: %v", b, whole)
			}
		}
	}
}

// The answer of Seal and what it was given do not reach one another.
func TestSealIsNewMemory(t *testing.T) {
	for _, b := range [][]byte{nil, []byte("a"), []byte("123456789"), sample.Some(500)} {
		given, whole := sample.Roomy(b...)
		before := bytes.Clone(whole)
		one, two := Seal(given), Seal(given)
		want := bytes.Clone(two)
		sample.Scribble(one)
		if !bytes.Equal(whole, before) {
			t.Errorf("%v: the answer reaches what was given", b)
		}
		if !bytes.Equal(two, want) {
			t.Errorf("%v: an answer reaches another one", b)
		}
		sample.Scribble(whole)
		if !bytes.Equal(two, want) {
			t.Errorf("%v: what was given reaches the answer", b)
		}
	}
}

// A sum is of what the bytes were when it was asked: nothing is kept.
func TestNothingIsKept(t *testing.T) {
	b := []byte("123456789")
	sum, sealed := Sum(b), Seal(b)
	sample.Scribble(b)
	if got, want := Sum(b), told(b); got != want || got == sum {
		t.Errorf("%#x, want %#x", got, want)
	}
	if got, want := Sum([]byte("123456789")), uint32(0xe3069283); got != want {
		t.Errorf("%#x, want %#x", got, want)
	}
	sample.Scribble(sealed)
	if Good(sealed) {
		t.Error(sealed)
	}
	if got := Seal([]byte("123456789")); !Good(got) {
		t.Error(got)
	}
}
