package slot

import (
	"bytes"
	"encoding/binary"
	"math"
	"slices"
	"strings"
	"testing"

	"moneyer/api"
	"moneyer/sample"
)

// largest gives the item of the most bytes.
func largest() api.Item {
	return sample.Live("0123456789abcdef", sample.Record(bytes.Repeat([]byte{255}, 32)...))
}

// otherStates gives states that no item has.
func otherStates() []int {
	return []int{
		3, 4, 5, 127, 128, 129, 255, 256, 257, 258, 259, 512, 513, 514,
		1 << 16, 1<<16 + 1, 1<<16 + 2, 1 << 32, 1<<32 + 1, 1<<32 + 2, math.MaxInt - 1, math.MaxInt,
		-1, -2, -3, -254, -255, -256, -510, -511, -512, math.MinInt, math.MinInt + 1, math.MinInt + 2,
	}
}

// things gives items that may be, all but the zero one.
func things() []api.Item {
	var l []api.Item
	for _, c := range sample.Cells() {
		for _, k := range sample.Keys() {
			l = append(l, sample.Live(k, c), sample.Ghost(k, c))
		}
	}
	return l
}

// few gives some of those that things gives, of each kind and size.
func few() []api.Item {
	l := []api.Item{
		sample.Live("a", sample.Record()), sample.Ghost("a", sample.Record()), sample.Live("a", sample.Record('a', 'b')), sample.Ghost("ab", sample.Record(0)), sample.Live("ab", sample.Record(0, 0)),
		sample.Live("b", sample.Record(1, 0)), sample.Live("k1", sample.Record(sample.Some(31)...)), sample.Ghost("k1", sample.Record(sample.Some(32)...)),
		sample.Live("a", sample.Counter(0, 0, 0)), sample.Ghost("a", sample.Counter(0, 0, 0)), sample.Live("~", sample.Counter(-1, 258, 7)),
		sample.Ghost("0123456789abcdef", sample.Counter(math.MinInt, math.MaxInt, 0)), sample.Live("!", sample.Counter(math.MaxInt, math.MaxInt, math.MaxInt)),
		sample.Live("0123456789abcde", sample.Counter(0, 5, 3)), sample.Ghost("~~~~~~~~~~~~~~~~", sample.Record(make([]byte, 32)...)),
	}
	return append(l, largest())
}

// wrongs gives items that may not be.
func wrongs() []api.Item {
	var l []api.Item
	for _, c := range append(sample.Cells(), sample.WrongCells()...) {
		for _, k := range []string{"a", "0123456789abcdef", "", "a b", strings.Repeat("k", 17)} {
			if k != "" || !like(api.Item{Cell: c}, api.Item{}) {
				l = append(l, api.Item{State: 0, Key: k, Cell: c})
			}
			for _, s := range otherStates() {
				l = append(l, api.Item{State: s, Key: k, Cell: c})
			}
		}
		for _, k := range sample.WrongKeys() {
			l = append(l, api.Item{Key: k + "x"}, sample.Live(k, c), sample.Ghost(k, c))
		}
	}
	for _, c := range sample.WrongCells() {
		for _, k := range sample.Keys() {
			l = append(l, sample.Live(k, c), sample.Ghost(k, c))
		}
	}
	for _, s := range otherStates() {
		l = append(l, api.Item{State: s}, api.Item{State: s, Cell: api.Cell{Data: []byte{}}})
	}
	return append(l, api.Item{State: 1}, api.Item{State: 2})
}

// like tells whether a and b have the same fields.
func like(a, b api.Item) bool {
	return a.State == b.State && a.Key == b.Key && a.Cell.Kind == b.Cell.Kind && string(a.Cell.Data) == string(b.Cell.Data) &&
		a.Cell.Lo == b.Cell.Lo && a.Cell.Hi == b.Cell.Hi && a.Cell.Val == b.Cell.Val
}

// twin gives an item that is like x, with a list of its own.
func twin(x api.Item) api.Item {
	x.Cell.Data = bytes.Clone(x.Cell.Data)
	return x
}

// wrote gives the bytes of an item that may be, and is not the zero one, as the
// chapters tell them, without those behind its cell.
func wrote(x api.Item) []byte {
	b := append([]byte{byte(x.State), byte(len(x.Key))}, x.Key...)
	if x.Cell.Kind == 1 {
		return append(append(b, 1, byte(len(x.Cell.Data))), x.Cell.Data...)
	}
	b = append(b, 2)
	for _, n := range []int{x.Cell.Lo, x.Cell.Hi, x.Cell.Val} {
		b = binary.BigEndian.AppendUint64(b, uint64(n))
	}
	return b
}

// packed gives the bytes of l, and bytes 0 up to 64.
func packed(l ...[]byte) [64]byte {
	var b [64]byte
	copy(b[:], slices.Concat(l...))
	return b
}

// told tells what Get is to answer, byte by byte.
func told(b [64]byte) (api.Item, api.Errno) {
	if b == [64]byte{} {
		return api.Item{}, api.OK
	}
	n := int(b[1])
	if b[0] < 1 || b[0] > 2 || n < 1 || n > 16 {
		return api.Item{}, api.ErrForm
	}
	x := api.Item{State: int(b[0]), Key: string(b[2 : 2+n])}
	for i := range n {
		if x.Key[i] < 33 || x.Key[i] > 126 {
			return api.Item{}, api.ErrForm
		}
	}
	rest := b[2+n:]
	size := 25
	switch rest[0] {
	case 1:
		size = 2 + int(rest[1])
		if rest[1] > 32 {
			return api.Item{}, api.ErrForm
		}
		x.Cell = sample.Record(rest[2:size]...)
	case 2:
		at := func(i int) int { return int(binary.BigEndian.Uint64(rest[i:])) }
		x.Cell = sample.Counter(at(1), at(9), at(17))
		if x.Cell.Lo > x.Cell.Val || x.Cell.Val > x.Cell.Hi {
			return api.Item{}, api.ErrForm
		}
	default:
		return api.Item{}, api.ErrForm
	}
	if strings.Trim(string(rest[size:]), "\x00") != "" {
		return api.Item{}, api.ErrForm
	}
	return x, api.OK
}

// gets fails unless Get of b tells just want and err.
func gets(t *testing.T, b [64]byte, want api.Item, err api.Errno) {
	t.Helper()
	x, e := Get(b)
	if e != err || !like(x, want) {
		t.Errorf("Get(%v) = %v, %d, want %v, %d", b, x, e, want, err)
	}
	if e != api.OK && cap(x.Cell.Data) != 0 {
		t.Errorf("Get(%v): a list beside an error", b)
	}
}

// fails fails unless Get of b tells ErrForm, and all else is zero.
func fails(t *testing.T, b [64]byte) {
	t.Helper()
	gets(t, b, api.Item{}, api.ErrForm)
}

// P6.1

func TestCheck(t *testing.T) {
	for _, x := range []struct {
		x    api.Item
		want api.Errno
	}{
		{api.Item{}, api.OK},
		{api.Item{Cell: api.Cell{Data: []byte{}}}, api.OK},
		{api.Item{Key: "a"}, api.ErrArg},
		{api.Item{Key: " "}, api.ErrArg},
		{api.Item{Cell: sample.Record()}, api.ErrArg},
		{api.Item{Cell: sample.Counter(0, 0, 0)}, api.ErrArg},
		{api.Item{Cell: api.Cell{Data: sample.Some(1)}}, api.ErrArg},
		{api.Item{Cell: api.Cell{Lo: 1}}, api.ErrArg},
		{api.Item{Cell: api.Cell{Hi: -1}}, api.ErrArg},
		{api.Item{Cell: api.Cell{Val: 1}}, api.ErrArg},
		{api.Item{Key: "a", Cell: sample.Record()}, api.ErrArg},
		{api.Item{Key: "a", Cell: sample.Counter(0, 5, 3)}, api.ErrArg},
		{sample.Live("a", sample.Record()), api.OK},
		{sample.Ghost("a", sample.Record()), api.OK},
		{sample.Live("a", sample.Counter(0, 5, 3)), api.OK},
		{sample.Ghost("a", sample.Counter(0, 5, 3)), api.OK},
		{largest(), api.OK},
		{sample.Ghost("0123456789abcdef", sample.Record(sample.Some(32)...)), api.OK},
		{api.Item{State: 1}, api.ErrArg},
		{api.Item{State: 2}, api.ErrArg},
		{sample.Live("", sample.Record()), api.ErrArg},
		{sample.Ghost("", sample.Record()), api.ErrArg},
		{sample.Live("0123456789abcdefg", sample.Record()), api.ErrArg},
		{sample.Ghost("0123456789abcdefg", sample.Record()), api.ErrArg},
		{sample.Live("a b", sample.Record()), api.ErrArg},
		{sample.Ghost("a\x7f", sample.Counter(0, 5, 3)), api.ErrArg},
		{sample.Live("a", api.Cell{}), api.ErrArg},
		{sample.Ghost("a", api.Cell{}), api.ErrArg},
		{sample.Live("a", sample.Record(sample.Some(33)...)), api.ErrArg},
		{sample.Ghost("a", sample.Record(sample.Some(33)...)), api.ErrArg},
		{sample.Live("a", sample.Counter(0, 5, 6)), api.ErrArg},
		{sample.Ghost("a", sample.Counter(5, 0, 3)), api.ErrArg},
		{sample.Live(" ", sample.Counter(5, 0, 3)), api.ErrArg},
		{api.Item{State: 3, Key: "a", Cell: sample.Record()}, api.ErrArg},
		{api.Item{State: -1, Key: "a", Cell: sample.Record()}, api.ErrArg},
		{api.Item{State: 256}, api.ErrArg},
		{api.Item{State: 257, Key: "a", Cell: sample.Record()}, api.ErrArg},
		{api.Item{State: 258, Key: "a", Cell: sample.Record()}, api.ErrArg},
		{api.Item{State: 3}, api.ErrArg},
		{api.Item{State: -1}, api.ErrArg},
	} {
		if got := Check(x.x); got != x.want {
			t.Errorf("Check(%v) = %d, want %d", x.x, got, x.want)
		}
	}
}

func TestCheckOfMany(t *testing.T) {
	for _, x := range things() {
		if got := Check(x); got != api.OK {
			t.Errorf("Check(%v) = %d", x, got)
		}
	}
	for _, x := range wrongs() {
		if got := Check(x); got != api.ErrArg {
			t.Errorf("Check(%v) = %d", x, got)
		}
	}
}

func TestCheckOfEachLength(t *testing.T) {
	for n := range 300 {
		want := api.ErrArg
		if n >= 1 && n <= 16 {
			want = api.OK
		}
		k := strings.Repeat("k", n)
		for _, x := range []api.Item{sample.Live(k, sample.Record()), sample.Ghost(k, sample.Counter(0, 5, 3))} {
			if got := Check(x); got != want {
				t.Errorf("a key of %d bytes: %d, want %d", n, got, want)
			}
		}
		want = api.ErrArg
		if n <= 32 {
			want = api.OK
		}
		for _, x := range []api.Item{sample.Live("a", sample.Record(sample.Some(n)...)), sample.Ghost("0123456789abcdef", sample.Record(sample.Some(n)...))} {
			if got := Check(x); got != want {
				t.Errorf("a record of %d bytes: %d, want %d", n, got, want)
			}
		}
	}
}

// Each byte ahead of, within, and behind what a key may have.
func TestCheckOfEachByteOfAKey(t *testing.T) {
	for b := range 256 {
		want := api.ErrArg
		if b >= 33 && b <= 126 {
			want = api.OK
		}
		one := string([]byte{byte(b)})
		for _, k := range []string{one, "a" + one, one + "a", "0123456" + one + "89abcdef"} {
			for _, s := range []int{1, 2} {
				if got := Check(api.Item{State: s, Key: k, Cell: sample.Record()}); got != want {
					t.Errorf("state %d, key %q: %d, want %d", s, k, got, want)
				}
			}
		}
	}
}

func TestCheckOfOtherStates(t *testing.T) {
	for _, s := range otherStates() {
		for _, x := range append(few(), api.Item{}, api.Item{Key: "a"}, api.Item{Cell: sample.Record()}) {
			x.State = s
			if got := Check(x); got != api.ErrArg {
				t.Errorf("Check(%v) = %d", x, got)
			}
		}
	}
}

func TestSame(t *testing.T) {
	for _, x := range []struct {
		a, b api.Item
		want bool
	}{
		{api.Item{}, api.Item{}, true},
		{api.Item{}, api.Item{Cell: api.Cell{Data: []byte{}}}, true},
		{sample.Live("a", sample.Record()), sample.Live("a", sample.Record()), true},
		{sample.Live("a", api.Cell{Kind: 1}), sample.Live("a", sample.Record([]byte{}...)), true},
		{sample.Live("a", sample.Record(1, 2)), sample.Live("a", sample.Record(1, 2)), true},
		{sample.Live("a", sample.Counter(0, 5, 3)), sample.Live("a", sample.Counter(0, 5, 3)), true},
		{sample.Live("a", sample.Record()), sample.Ghost("a", sample.Record()), false},
		{sample.Live("a", sample.Record()), api.Item{Key: "a", Cell: sample.Record()}, false},
		{sample.Live("a", sample.Record()), sample.Live("b", sample.Record()), false},
		{sample.Live("a", sample.Record()), sample.Live("A", sample.Record()), false},
		{sample.Live("a", sample.Record()), sample.Live("aa", sample.Record()), false},
		{sample.Live("a", sample.Record()), sample.Live("", sample.Record()), false},
		{sample.Live("a", sample.Record()), sample.Live("a\x00", sample.Record()), false},
		{sample.Live("ab", sample.Record()), sample.Live("ba", sample.Record()), false},
		{sample.Live("a", sample.Record(1, 2)), sample.Live("a", sample.Record(1, 3)), false},
		{sample.Live("a", sample.Record(1, 2)), sample.Live("a", sample.Record(1)), false},
		{sample.Live("a", sample.Record(0)), sample.Live("a", sample.Record()), false},
		{sample.Live("a", sample.Record()), sample.Live("a", sample.Counter(0, 0, 0)), false},
		{sample.Live("a", sample.Counter(0, 5, 3)), sample.Live("a", sample.Counter(0, 5, 4)), false},
		{sample.Live("a", sample.Counter(0, 5, 3)), sample.Live("a", sample.Counter(0, 6, 3)), false},
		{sample.Live("a", sample.Counter(0, 5, 3)), sample.Live("a", sample.Counter(-1, 5, 3)), false},
		{api.Item{State: 257}, api.Item{State: 1}, false},
		{api.Item{State: 257, Key: " "}, api.Item{State: 257, Key: " "}, true},
		{api.Item{State: -1, Cell: sample.Record(sample.Some(40)...)}, api.Item{State: -1, Cell: sample.Record(sample.Some(40)...)}, true},
		{api.Item{State: -1, Cell: sample.Record(sample.Some(40)...)}, api.Item{State: -2, Cell: sample.Record(sample.Some(40)...)}, false},
	} {
		if got := Same(x.a, x.b); got != x.want {
			t.Errorf("Same(%v, %v) = %v", x.a, x.b, got)
		}
		if got := Same(x.b, x.a); got != x.want {
			t.Errorf("Same(%v, %v) = %v", x.b, x.a, got)
		}
	}
}

// Each field alone makes two items unlike, whether they may be or not.
func TestSameGoesByEachField(t *testing.T) {
	for _, x := range slices.Concat([]api.Item{{}}, few(), wrongs()[:2000]) {
		if !Same(x, x) || !Same(x, twin(x)) || !Same(twin(x), x) {
			t.Errorf("%v is not like itself", x)
		}
		others := make([]api.Item, 8)
		for i := range others {
			others[i] = twin(x)
		}
		others[0].State++
		others[1].State ^= math.MinInt
		others[2].Key += "a"
		others[3].Cell.Kind++
		others[4].Cell.Lo--
		others[5].Cell.Hi ^= 1 << 40
		others[6].Cell.Val ^= math.MinInt
		others[7].Cell.Data = append(others[7].Cell.Data, 0)
		for i := range min(len(x.Key), 20) {
			y := twin(x)
			y.Key = x.Key[:i] + string([]byte{x.Key[i] ^ 32}) + x.Key[i+1:]
			others = append(others, y)
		}
		for i := range min(len(x.Cell.Data), 40) {
			y := twin(x)
			y.Cell.Data[i] ^= 128
			others = append(others, y)
		}
		for _, y := range others {
			if Same(x, y) || Same(y, x) {
				t.Errorf("%v is like %v", x, y)
			}
		}
	}
}

func TestSameOfAllPairs(t *testing.T) {
	all := slices.Concat([]api.Item{{}}, few(), things()[:200], wrongs()[:200])
	for _, a := range all {
		for _, b := range all {
			if got := Same(a, b); got != like(a, b) {
				t.Errorf("Same(%v, %v) = %v", a, b, got)
			}
		}
	}
}

// Room behind a list is of no matter.
func TestSpareRoomIsLeftOut(t *testing.T) {
	one, _ := sample.Roomy(1, 2)
	two, whole := sample.Roomy(1, 2)
	whole[2] = 0
	a, b := sample.Live("a", sample.Record(one...)), sample.Live("a", sample.Record(two...))
	if !Same(a, b) || Put(a) != Put(b) || Put(a) != packed([]byte{1, 1, 'a', 1, 2, 1, 2}) {
		t.Errorf("%v and %v", a, b)
	}
	none, _ := sample.Roomy()
	full, _ := sample.Roomy(sample.Some(32)...)
	for _, x := range []api.Item{{Cell: api.Cell{Data: none}}, sample.Live("a", sample.Record(full...)), sample.Ghost("a", api.Cell{Kind: 2, Data: none})} {
		if got := Check(x); got != api.OK {
			t.Errorf("Check(%v) = %d", x, got)
		}
	}
}

// P6.2

func TestPut(t *testing.T) {
	for _, x := range []struct {
		x    api.Item
		want [64]byte
	}{
		{api.Item{}, [64]byte{}},
		{api.Item{Cell: api.Cell{Data: []byte{}}}, [64]byte{}},
		{sample.Live("a", sample.Record()), [64]byte{1, 1, 'a', 1, 0}},
		{sample.Ghost("a", sample.Record()), [64]byte{2, 1, 'a', 1, 0}},
		{sample.Live("a", api.Cell{Kind: 1, Data: []byte{}}), [64]byte{1, 1, 'a', 1, 0}},
		{sample.Live("ab", sample.Record('c', 'd')), [64]byte{1, 2, 'a', 'b', 1, 2, 'c', 'd'}},
		{sample.Ghost("!~!", sample.Record(0)), [64]byte{2, 3, '!', '~', '!', 1, 1, 0}},
		{sample.Live("a", sample.Record(0, 0, 1)), [64]byte{1, 1, 'a', 1, 3, 0, 0, 1}},
		{sample.Live("a", sample.Counter(0, 0, 0)), [64]byte{1, 1, 'a', 2}},
		{sample.Live("a", sample.Counter(0, 5, 3)), [64]byte{1, 1, 'a', 2, 19: 5, 27: 3}},
		{sample.Ghost("ab", sample.Counter(-1, 258, 0)), [64]byte{2, 2, 'a', 'b', 2, 255, 255, 255, 255, 255, 255, 255, 255, 0, 0, 0, 0, 0, 0, 1, 2}},
		{sample.Live("0123456789abcdef", sample.Counter(math.MinInt, math.MaxInt, -2)), packed([]byte("\x01\x100123456789abcdef\x02\x80\x00\x00\x00\x00\x00\x00\x00\x7f\xff\xff\xff\xff\xff\xff\xff\xff\xff\xff\xff\xff\xff\xff\xfe"))},
		{largest(), packed([]byte("\x01\x100123456789abcdef\x01\x20"), bytes.Repeat([]byte{255}, 32))},
	} {
		if got := Put(x.x); got != x.want {
			t.Errorf("Put(%v) = %v, want %v", x.x, got, x.want)
		}
	}
}

func TestPutOfMany(t *testing.T) {
	for _, x := range things() {
		if got, want := Put(x), packed(wrote(x)); got != want {
			t.Errorf("Put(%v) = %v, want %v", x, got, want)
		}
	}
}

// The largest one takes 52 bytes: those behind it are 0 still.
func TestPutOfTheLargest(t *testing.T) {
	b := Put(largest())
	if len(wrote(largest())) != 52 || b[51] != 255 || [12]byte(b[52:]) != [12]byte{} {
		t.Error(b)
	}
}

// One that may not be has bytes 0 alone.
func TestPutOfWrongOnes(t *testing.T) {
	for _, x := range wrongs() {
		if got := Put(x); got != [64]byte{} {
			t.Errorf("Put(%v) = %v", x, got)
		}
	}
}

func TestGet(t *testing.T) {
	for _, x := range []struct {
		b    [64]byte
		want api.Item
	}{
		{[64]byte{}, api.Item{}},
		{[64]byte{1, 1, 'a', 1, 0}, sample.Live("a", sample.Record())},
		{[64]byte{2, 1, 'a', 1, 0}, sample.Ghost("a", sample.Record())},
		{[64]byte{1, 2, 'a', 'b', 1, 2, 'c', 'd'}, sample.Live("ab", sample.Record('c', 'd'))},
		{[64]byte{2, 3, '!', '~', '!', 1, 1, 0}, sample.Ghost("!~!", sample.Record(0))},
		{[64]byte{1, 1, 'a', 1, 5}, sample.Live("a", sample.Record(0, 0, 0, 0, 0))},
		{[64]byte{1, 1, 'a', 1, 32, 36: 9}, sample.Live("a", sample.Record(append(make([]byte, 31), 9)...))},
		{[64]byte{1, 1, 'a', 2}, sample.Live("a", sample.Counter(0, 0, 0))},
		{[64]byte{2, 1, 'a', 2, 19: 5, 27: 3}, sample.Ghost("a", sample.Counter(0, 5, 3))},
		{packed([]byte("\x01\x100123456789abcdef\x02\x80\x00\x00\x00\x00\x00\x00\x00\x7f\xff\xff\xff\xff\xff\xff\xff\xff\xff\xff\xff\xff\xff\xff\xfe")), sample.Live("0123456789abcdef", sample.Counter(math.MinInt, math.MaxInt, -2))},
		{packed([]byte("\x01\x100123456789abcdef\x01\x20"), bytes.Repeat([]byte{255}, 32)), largest()},
	} {
		gets(t, x.b, x.want, api.OK)
	}
}

func TestGetOfMany(t *testing.T) {
	for _, x := range things() {
		gets(t, packed(wrote(x)), x, api.OK)
	}
}

func TestGetOfNoItem(t *testing.T) {
	for _, b := range [][64]byte{
		{0, 1, 'a', 1, 0},                   // an empty one, with a key and a record
		{0, 1, 'a', 2},                      // with a key and a counter
		{0, 1, 'a'},                         // with a key
		{0, 0, 1, 0},                        // with a record
		{0, 0, 1, 1, 7},                     // with one of a byte
		{0, 0, 2},                           // with a counter
		{0, 1},                              // with a key's length
		{1},                                 // a live one, with nothing
		{2},                                 // a ghost, with nothing
		{1, 0, 1, 0},                        // without a key
		{2, 0, 2},                           // without a key
		{1, 1, 'a'},                         // without a cell
		{1, 1, 'a', 0, 1},                   // of a cell of kind 0
		{1, 1, 'a', 3},                      // of kind 3
		{1, 1, 'a', 255},                    // of kind 255
		{1, 1, 0, 1, 0},                     // of a key with a byte 0
		{1, 1, ' ', 1, 0},                   // with a blank
		{2, 1, 127, 1, 0},                   // with a byte past 126
		{1, 2, 'a', 200, 1, 0},              // with a byte past 126
		{1, 1, 'a', 1, 33},                  // of a record too large
		{1, 1, 'a', 1, 0, 1},                // with a byte behind its cell
		{1, 1, 'a', 1, 0, 63: 1},            // with one at the end
		{1, 1, 'a', 1, 2, 97, 98, 99},       // with one behind its record
		{1, 1, 'a', 2, 28: 1},               // with one behind its counter
		{1, 1, 'a', 2, 11: 1},               // of a counter with Lo above Val
		{1, 1, 'a', 2, 27: 1},               // with Val above Hi
		{1, 1, 'a', 2, 12: 255},             // with Hi below Val
		{3, 1, 'a', 1, 0},                   // of another state
		{255, 1, 'a', 1, 0},                 // of another state
		{63: 1},                             // a byte at the end alone
		{7: 1},                              // a byte alone
		packed(bytes.Repeat([]byte{1}, 64)), // of the same byte throughout
		packed(bytes.Repeat([]byte{255}, 64)),
		packed([]byte("\x01\x110123456789abcdefg\x01\x00")), // of a key of 17 bytes
		packed([]byte{1, 40}, bytes.Repeat([]byte{'k'}, 40), []byte{1, 0}),
	} {
		fails(t, b)
	}
}

// Each byte at each place, ahead of, within and behind the cell.
func TestGetOfOneByteChanged(t *testing.T) {
	for _, x := range append(few(), api.Item{}) {
		was := Put(x)
		for i := range was {
			for n := range 256 {
				b := was
				b[i] = byte(n)
				want, err := told(b)
				gets(t, b, want, err)
			}
		}
	}
}

// Any byte but 0 behind the cell makes it none.
func TestGetOfBytesBehindTheCell(t *testing.T) {
	for _, x := range few() {
		own := wrote(x)
		for i := len(own); i < 64; i++ {
			for n := 1; n < 256; n++ {
				b := packed(own)
				b[i] = byte(n)
				fails(t, b)
			}
		}
		fails(t, packed(own, bytes.Repeat([]byte{255}, 64)))
		fails(t, packed(own, own))
	}
}

func TestGetOfOtherStates(t *testing.T) {
	for _, x := range few() {
		for s := range 256 {
			b := packed(wrote(x))
			b[0] = byte(s)
			if s == 1 || s == 2 {
				x.State = s
				gets(t, b, x, api.OK)
				continue
			}
			fails(t, b)
		}
	}
}

// Each length of a key, all that it claims being there, or not.
func TestGetOfEachLengthOfAKey(t *testing.T) {
	for n := range 256 {
		for _, c := range []api.Cell{sample.Record(), sample.Record(9), sample.Counter(0, 5, 3)} {
			k := strings.Repeat("k", n)
			b := packed([]byte{1, byte(n)}, []byte(k), wrote(sample.Live("", c))[2:])
			if n < 1 || n > 16 {
				fails(t, b)
				continue
			}
			gets(t, b, sample.Live(k, c), api.OK)
		}
	}
}

func TestGetOfEachByteOfAKey(t *testing.T) {
	for n := range 256 {
		for _, at := range []int{0, 1, 8, 15} {
			k := []byte("0123456789abcdef")
			k[at] = byte(n)
			b := packed([]byte{2, 16}, k, []byte{1, 0})
			if n < 33 || n > 126 {
				fails(t, b)
				continue
			}
			gets(t, b, sample.Ghost(string(k), sample.Record()), api.OK)
		}
	}
}

// Each count of a record's bytes, behind a key of each length: of those that
// are too many some go past the end.
func TestGetOfEachCountOfARecord(t *testing.T) {
	for _, k := range sample.Keys() {
		for count := range 256 {
			b := packed([]byte{1, byte(len(k))}, []byte(k), []byte{1, byte(count)}, bytes.Repeat([]byte{7}, min(count, 32)))
			if count > 32 {
				fails(t, b)
				fails(t, packed(b[:len(k)+4], bytes.Repeat([]byte{7}, count)))
				continue
			}
			gets(t, b, sample.Live(k, sample.Record(bytes.Repeat([]byte{7}, count)...)), api.OK)
		}
	}
}

// A cell that begins too near to the end for what it claims: behind a key that
// is no longer one, as a slot has room for all that may be.
func TestGetOfCellsPastTheEnd(t *testing.T) {
	for n := 17; n < 64; n++ {
		head := append([]byte{1, byte(n)}, bytes.Repeat([]byte{'k'}, n)...)
		for _, c := range [][]byte{{1, 32}, {1, 61}, {1, 255}, {2}, {2, 0, 0, 0, 0, 0, 0, 0, 0, 255}, {1}, {1, 0}} {
			fails(t, packed(head, c))
			fails(t, packed(head, c, bytes.Repeat([]byte{1}, 64)))
		}
	}
}

func TestGetOfCellsThatMayNotBe(t *testing.T) {
	for _, c := range sample.WrongCells() {
		if c.Kind != 1 && c.Kind != 2 || len(c.Data) > 255 || c.Kind == 2 && len(c.Data) > 0 || c.Kind == 1 && len(c.Data) <= 32 {
			continue // one that no bytes tell
		}
		for _, k := range []string{"a", "0123456789abcdef"} {
			fails(t, packed(wrote(sample.Live(k, c))))
			fails(t, packed(wrote(sample.Ghost(k, c))))
		}
	}
}

// Of bytes that look like nothing, but for those that make most of it, too.
func TestGetOfAnyBytes(t *testing.T) {
	for n := range 20000 {
		b := [64]byte(sample.Some(n + 64)[n:])
		if n%2 == 0 {
			b[0], b[1] = b[0]%4, b[1]%18
			k := b[2 : 2+min(int(b[1]), 16)]
			for i := range k {
				k[i] = 32 + k[i]%96
			}
			at := 2 + len(k)
			b[at], b[at+1] = b[at]%4, b[at+1]%36
			for i := at + 2 + int(b[at+1]); i < 64; i++ {
				b[i] = 0
			}
		}
		want, err := told(b)
		gets(t, b, want, err)
	}
}

// What Get tells is an item of which b is Put; of all else there is none.
func TestPutOfGet(t *testing.T) {
	for _, x := range few() {
		for i := range 64 {
			for _, n := range []byte{1, 2, 16, 128, 255} {
				b := packed(wrote(x))
				b[i] ^= n
				if y, err := Get(b); err == api.OK && (Put(y) != b || Check(y) != api.OK) {
					t.Errorf("Get(%v) = %v", b, y)
				}
			}
		}
	}
}

// Memory

// What is handed in stays as it was, its spare room included.
func TestCallsLeaveWhatTheyWereHanded(t *testing.T) {
	for _, n := range []int{0, 2, 32, 33} {
		data, whole := sample.Roomy(sample.Some(n)...)
		other, behind := sample.Roomy(sample.Some(n)...)
		was := bytes.Clone(whole)
		for s := range 4 {
			for _, k := range []string{"", "a", "0123456789abcdef", "a b"} {
				for kind := range 4 {
					x := api.Item{State: s, Key: k, Cell: api.Cell{Kind: kind, Data: data}}
					y := x
					y.Cell.Data = other
					Check(x)
					Same(x, y)
					Put(x)
				}
			}
		}
		if !bytes.Equal(whole, was) || !bytes.Equal(behind, was) {
			t.Errorf("of %d bytes: changed", n)
		}
	}
}

func TestGetLeavesWhatItWasHanded(t *testing.T) {
	for _, x := range append(few(), api.Item{}) {
		b := Put(x)
		was := b
		one, _ := Get(b)
		two, _ := Get(b)
		sample.Scribble(one.Cell.Data)
		if b != was {
			t.Errorf("Get of %v gives out what it was handed", x)
		}
		if !like(two, x) {
			t.Errorf("two answers to Get of %v share their memory", x)
		}
		gets(t, b, x, api.OK)
	}
}

// What is answered stays as it is, whatever becomes of what was handed in.
func TestPutKeepsNothing(t *testing.T) {
	data, whole := sample.Roomy(5, 6, 7)
	x := sample.Live("a", sample.Record(data...))
	b := Put(x)
	sample.Scribble(whole)
	if b != [64]byte{1, 1, 'a', 1, 3, 5, 6, 7} {
		t.Error(b)
	}
	if c := Put(x); c != [64]byte{1, 1, 'a', 1, 3, 0x55, 0x55, 0x55} {
		t.Error(c)
	}
	if d := Put(sample.Live("a", sample.Record())); d != [64]byte{1, 1, 'a', 1, 0} {
		t.Error(d)
	}
}

// Nil and empty Data are alike in each call.
func TestNilAndEmptyDataAreAlike(t *testing.T) {
	for _, x := range append(few(), api.Item{}, api.Item{Key: "a"}, api.Item{State: 1}, api.Item{State: 3}, sample.Live(" ", sample.Record()), sample.Live("a", api.Cell{Kind: 1, Lo: 1}), sample.Live("a", sample.Counter(5, 0, 3))) {
		x.Cell.Data = nil
		y := x
		y.Cell.Data = []byte{}
		if Check(x) != Check(y) {
			t.Errorf("Check of %v: %d and %d", x, Check(x), Check(y))
		}
		if !Same(x, y) || !Same(y, x) {
			t.Errorf("%v: not the same", x)
		}
		if Put(x) != Put(y) {
			t.Errorf("Put of %v: %v and %v", x, Put(x), Put(y))
		}
	}
}

// P6.3

func TestGetOfPut(t *testing.T) {
	for _, x := range append(things(), api.Item{}, api.Item{Cell: api.Cell{Data: []byte{}}}) {
		if got, err := Get(Put(x)); !Same(got, x) || err != api.OK {
			t.Errorf("Get of Put of %v = %v, %d", x, got, err)
		}
	}
}

// Of those that may be, the same ones have the same bytes, and no others.
func TestBytesOfTheSame(t *testing.T) {
	all := slices.Concat([]api.Item{{}}, few(), things()[:700])
	made := make([][64]byte, len(all))
	for i, x := range all {
		made[i] = Put(twin(x))
	}
	for i, a := range all {
		for j, b := range all {
			if (made[i] == made[j]) != Same(a, b) {
				t.Errorf("%v and %v", a, b)
			}
		}
	}
}

// Those that may not be, too, are the same with the same bytes.
func TestBytesOfTheSameThatMayNotBe(t *testing.T) {
	for _, x := range wrongs() {
		if Put(x) != Put(twin(x)) {
			t.Errorf("Put of %v: %v and %v", x, Put(x), Put(twin(x)))
		}
	}
}

// The chapter's example

func TestExample(t *testing.T) {
	x := api.Item{State: api.Live, Key: "a", Cell: api.Cell{Kind: api.KindRecord, Data: []byte("")}}
	if got := Put(x); got != [64]byte{1, 1, 97, 1, 0} {
		t.Error(got)
	}
}
