package cell

import (
	"bytes"
	"encoding/binary"
	"math"
	"slices"
	"testing"

	"moneyer/api"
	"moneyer/sample"
)

// numbers gives numbers of 64 bits, rising: the ends, 0, and what lies about
// them and about the widths of fewer bytes.
func numbers() []int {
	return []int{
		math.MinInt, math.MinInt + 1, math.MinInt32 - 1, math.MinInt32, -257, -256, -2, -1,
		0, 1, 2, 127, 128, 255, 256, 65536, math.MaxInt32, math.MaxInt32 + 1, math.MaxInt - 1, math.MaxInt,
	}
}

// otherKinds gives kinds of which there are no cells.
func otherKinds() []int {
	return []int{
		0, 3, 4, 5, 127, 128, 129, 255, 256, 257, 258, 259, 512, 513, 514,
		1<<16 + 1, 1<<16 + 2, 1<<32 + 1, 1<<32 + 2, math.MaxInt, math.MaxInt - 1,
		-1, -2, -3, -253, -254, -255, -256, -510, -511, math.MinInt, math.MinInt + 1, math.MinInt + 2,
	}
}

// records gives records that may be.
func records() []api.Cell {
	l := []api.Cell{{Kind: 1}, sample.Record([]byte{}...), sample.Record([]byte("ab")...)}
	for n := range 33 {
		l = append(l, sample.Record(sample.Some(n)...), sample.Record(make([]byte, n)...), sample.Record(bytes.Repeat([]byte{255}, n)...))
	}
	return l
}

// counters gives counters that may be.
func counters() []api.Cell {
	var l []api.Cell
	ns := numbers()
	for i, lo := range ns {
		for j, val := range ns[i:] {
			for _, hi := range ns[i+j:] {
				l = append(l, sample.Counter(lo, hi, val))
			}
		}
	}
	return l
}

// cells gives cells that may be.
func cells() []api.Cell {
	return append(records(), counters()...)
}

// wrongs gives cells that may not be.
func wrongs() []api.Cell {
	var l []api.Cell
	for _, k := range otherKinds() {
		l = append(l, api.Cell{Kind: k}, api.Cell{Kind: k, Data: sample.Some(2)}, api.Cell{Kind: k, Lo: -1, Hi: 5, Val: 3})
	}
	for _, n := range []int{33, 34, 64, 255, 256, 257, 288, 512, 1<<16 + 1, 1<<16 + 32} {
		l = append(l, sample.Record(sample.Some(n)...))
	}
	for _, data := range [][]byte{nil, {}, sample.Some(1), sample.Some(32)} {
		for _, n := range numbers() {
			if n == 0 {
				continue
			}
			for _, x := range []api.Cell{{Lo: n}, {Hi: n}, {Val: n}, {Lo: n, Hi: n, Val: n}, {Lo: -1, Hi: 1}, {Lo: n, Hi: n}} {
				l = append(l, api.Cell{Kind: 1, Data: data, Lo: x.Lo, Hi: x.Hi, Val: x.Val})
			}
		}
	}
	ns := numbers()
	for _, x := range [][3]int{{0, 5, 3}, {0, 0, 0}, {-5, 5, 0}, {math.MinInt, math.MaxInt, 0}} {
		for _, n := range []int{1, 2, 32, 33, 256} {
			c := sample.Counter(x[0], x[1], x[2])
			c.Data = sample.Some(n)
			l = append(l, c)
		}
	}
	for _, lo := range ns {
		for _, hi := range ns {
			for _, val := range ns {
				if lo > val || val > hi {
					l = append(l, sample.Counter(lo, hi, val))
				}
			}
		}
	}
	return l
}

// like tells whether a and b have the same fields.
func like(a, b api.Cell) bool {
	return a.Kind == b.Kind && string(a.Data) == string(b.Data) && a.Lo == b.Lo && a.Hi == b.Hi && a.Val == b.Val
}

// wrote gives the bytes of a cell that may be, as the chapter tells them.
func wrote(c api.Cell) []byte {
	if c.Kind == 1 {
		return append([]byte{1, byte(len(c.Data))}, c.Data...)
	}
	b := []byte{2}
	for _, n := range []int{c.Lo, c.Hi, c.Val} {
		b = binary.BigEndian.AppendUint64(b, uint64(n))
	}
	return b
}

// P5.1

func TestCheck(t *testing.T) {
	with := func(c api.Cell, data ...byte) api.Cell {
		c.Data = data
		return c
	}
	for _, x := range []struct {
		c    api.Cell
		want api.Errno
	}{
		{api.Cell{Kind: 1}, api.OK},
		{api.Cell{Kind: 1, Data: []byte{}}, api.OK},
		{sample.Record(0), api.OK},
		{sample.Record(sample.Some(31)...), api.OK},
		{sample.Record(sample.Some(32)...), api.OK},
		{sample.Record(sample.Some(33)...), api.ErrArg},
		{api.Cell{Kind: 1, Lo: 1}, api.ErrArg},
		{api.Cell{Kind: 1, Hi: 1}, api.ErrArg},
		{api.Cell{Kind: 1, Val: 1}, api.ErrArg},
		{api.Cell{Kind: 1, Lo: -1}, api.ErrArg},
		{api.Cell{Kind: 1, Hi: -1}, api.ErrArg},
		{api.Cell{Kind: 1, Val: -1}, api.ErrArg},
		{api.Cell{Kind: 1, Lo: -1, Hi: 1}, api.ErrArg},
		{api.Cell{Kind: 1, Data: sample.Some(2), Lo: 3, Hi: 3, Val: 3}, api.ErrArg},
		{sample.Counter(0, 0, 0), api.OK},
		{sample.Counter(0, 5, 3), api.OK},
		{sample.Counter(0, 5, 0), api.OK},
		{sample.Counter(0, 5, 5), api.OK},
		{sample.Counter(0, 5, -1), api.ErrArg},
		{sample.Counter(0, 5, 6), api.ErrArg},
		{sample.Counter(5, 0, 3), api.ErrArg},
		{sample.Counter(5, 0, 0), api.ErrArg},
		{sample.Counter(5, 0, 5), api.ErrArg},
		{sample.Counter(1, 0, 0), api.ErrArg},
		{sample.Counter(-7, -3, -5), api.OK},
		{sample.Counter(-7, -3, -2), api.ErrArg},
		{sample.Counter(-7, -3, -8), api.ErrArg},
		{sample.Counter(-7, -3, 0), api.ErrArg},
		{sample.Counter(math.MinInt, math.MaxInt, 0), api.OK},
		{sample.Counter(math.MinInt, math.MaxInt, math.MinInt), api.OK},
		{sample.Counter(math.MinInt, math.MaxInt, math.MaxInt), api.OK},
		{sample.Counter(math.MinInt, math.MinInt, math.MinInt), api.OK},
		{sample.Counter(math.MaxInt, math.MaxInt, math.MaxInt), api.OK},
		{sample.Counter(math.MinInt, math.MinInt, math.MaxInt), api.ErrArg},
		{sample.Counter(math.MaxInt, math.MinInt, 0), api.ErrArg},
		{sample.Counter(math.MaxInt, math.MaxInt, math.MinInt), api.ErrArg},
		{sample.Counter(math.MinInt, math.MaxInt-1, math.MaxInt), api.ErrArg},
		{sample.Counter(math.MinInt+1, math.MaxInt, math.MinInt), api.ErrArg},
		{with(sample.Counter(0, 5, 3)), api.OK},
		{with(sample.Counter(0, 5, 3), []byte{}...), api.OK},
		{with(sample.Counter(0, 5, 3), 0), api.ErrArg},
		{with(sample.Counter(0, 0, 0), 1, 2), api.ErrArg},
		{with(sample.Counter(0, 5, 3), sample.Some(32)...), api.ErrArg},
		{api.Cell{}, api.ErrArg},
		{api.Cell{Data: sample.Some(2)}, api.ErrArg},
		{api.Cell{Hi: 5, Val: 3}, api.ErrArg},
		{api.Cell{Kind: 3}, api.ErrArg},
		{api.Cell{Kind: -1}, api.ErrArg},
	} {
		if got := Check(x.c); got != x.want {
			t.Errorf("Check(%v) = %d, want %d", x.c, got, x.want)
		}
	}
}

func TestCheckOfMany(t *testing.T) {
	for _, c := range cells() {
		if got := Check(c); got != api.OK {
			t.Errorf("Check(%v) = %d", c, got)
		}
	}
	for _, c := range wrongs() {
		if got := Check(c); got != api.ErrArg {
			t.Errorf("Check(%v) = %d", c, got)
		}
	}
}

func TestCheckOfEachLength(t *testing.T) {
	for n := range 600 {
		want := api.ErrArg
		if n <= 32 {
			want = api.OK
		}
		if got := Check(sample.Record(sample.Some(n)...)); got != want {
			t.Errorf("a record of %d bytes: %d, want %d", n, got, want)
		}
		want = api.ErrArg
		if n == 0 {
			want = api.OK
		}
		if got := Check(api.Cell{Kind: 2, Data: sample.Some(n), Hi: 5, Val: 3}); got != want {
			t.Errorf("a counter with %d bytes: %d, want %d", n, got, want)
		}
	}
}

func TestCheckOfOtherKinds(t *testing.T) {
	for _, k := range otherKinds() {
		for _, c := range slices.Concat(records()[:20], counters()[:20]) {
			c.Kind = k
			if got := Check(c); got != api.ErrArg {
				t.Errorf("Check(%v) = %d", c, got)
			}
		}
	}
}

// Room behind a list is not in it.
func TestCheckLeavesSpareRoomOut(t *testing.T) {
	data, _ := sample.Roomy(sample.Some(32)...)
	if got := Check(sample.Record(data...)); got != api.OK {
		t.Error(got)
	}
	none, _ := sample.Roomy()
	if got := Check(api.Cell{Kind: 2, Data: none, Hi: 5}); got != api.OK {
		t.Error(got)
	}
}

func TestSame(t *testing.T) {
	for _, x := range []struct {
		a, b api.Cell
		want bool
	}{
		{api.Cell{}, api.Cell{}, true},
		{api.Cell{}, api.Cell{Data: []byte{}}, true},
		{api.Cell{Kind: 1}, api.Cell{Kind: 1, Data: []byte{}}, true},
		{sample.Counter(0, 5, 3), api.Cell{Kind: 2, Data: []byte{}, Hi: 5, Val: 3}, true},
		{sample.Record(1, 2), sample.Record(1, 2), true},
		{sample.Record(1, 2), sample.Record(1, 3), false},
		{sample.Record(1, 2), sample.Record(0, 2), false},
		{sample.Record(1, 2), sample.Record(2, 1), false},
		{sample.Record(1, 2), sample.Record(1), false},
		{sample.Record(1, 2), sample.Record(1, 2, 0), false},
		{sample.Record(0), sample.Record(), false},
		{sample.Record(), api.Cell{}, false},
		{sample.Counter(0, 5, 3), sample.Counter(0, 5, 3), true},
		{sample.Counter(0, 5, 3), sample.Counter(0, 5, 4), false},
		{sample.Counter(0, 5, 3), sample.Counter(0, 6, 3), false},
		{sample.Counter(0, 5, 3), sample.Counter(1, 5, 3), false},
		{sample.Counter(0, 5, 3), sample.Counter(3, 0, 5), false},
		{sample.Counter(0, 5, 3), sample.Counter(5, 0, 3), false},
		{sample.Counter(0, 0, 0), sample.Record(), false},
		{sample.Counter(math.MinInt, math.MaxInt, 0), sample.Counter(math.MinInt, math.MaxInt, 0), true},
		{sample.Counter(math.MinInt, math.MaxInt, 0), sample.Counter(math.MaxInt, math.MinInt, 0), false},
		{sample.Counter(0, 1<<32, 0), sample.Counter(0, 0, 0), false},
		{api.Cell{Kind: 257}, api.Cell{Kind: 1}, false},
		{api.Cell{Kind: 257}, api.Cell{Kind: 257}, true},
		{api.Cell{Kind: -1, Data: sample.Some(40), Lo: 5}, api.Cell{Kind: -1, Data: sample.Some(40), Lo: 5}, true},
		{api.Cell{Kind: -1, Data: sample.Some(40), Lo: 5}, api.Cell{Kind: -1, Data: sample.Some(40), Lo: 4}, false},
	} {
		if got := Same(x.a, x.b); got != x.want {
			t.Errorf("Same(%v, %v) = %v", x.a, x.b, got)
		}
		if got := Same(x.b, x.a); got != x.want {
			t.Errorf("Same(%v, %v) = %v", x.b, x.a, got)
		}
	}
}

// Each field alone makes two cells unlike, whether they may be or not.
func TestSameGoesByEachField(t *testing.T) {
	few := slices.Concat(records(), counters()[:200], wrongs())
	for _, c := range few {
		twin := c
		twin.Data = bytes.Clone(c.Data)
		if !Same(c, twin) || !Same(twin, c) || !Same(c, c) {
			t.Errorf("%v is not like itself", c)
		}
		others := []api.Cell{twin, twin, twin, twin, twin}
		others[0].Kind++
		others[1].Lo--
		others[2].Hi ^= 1 << 40
		others[3].Val ^= math.MinInt
		others[4].Data = append(bytes.Clone(c.Data), 0)
		for i := range min(len(c.Data), 64) {
			x := twin
			x.Data = bytes.Clone(c.Data)
			x.Data[i] ^= 0x80
			others = append(others, x)
		}
		for _, x := range others {
			if Same(c, x) || Same(x, c) {
				t.Errorf("%v is like %v", c, x)
			}
		}
	}
}

func TestSameOfAllPairs(t *testing.T) {
	few := slices.Concat(records(), counters()[:150], wrongs()[:150])
	for _, a := range few {
		for _, b := range few {
			if got := Same(a, b); got != like(a, b) {
				t.Errorf("Same(%v, %v) = %v", a, b, got)
			}
		}
	}
}

// Room behind a list is of no matter.
func TestSameLeavesSpareRoomOut(t *testing.T) {
	one, _ := sample.Roomy(1, 2)
	two, whole := sample.Roomy(1, 2)
	whole[2] = 0
	if !Same(api.Cell{Kind: 1, Data: one}, api.Cell{Kind: 1, Data: two}) {
		t.Error("unlike")
	}
	if Same(api.Cell{Kind: 1, Data: one}, api.Cell{Kind: 1, Data: two[:3]}) {
		t.Error("alike")
	}
}

// P5.2

func TestPut(t *testing.T) {
	for _, x := range []struct {
		b    []byte
		c    api.Cell
		want []byte
	}{
		{nil, sample.Record('a', 'b'), []byte{1, 2, 97, 98}},
		{nil, sample.Record(), []byte{1, 0}},
		{nil, api.Cell{Kind: 1, Data: []byte{}}, []byte{1, 0}},
		{[]byte{}, sample.Record(0), []byte{1, 1, 0}},
		{[]byte{7, 8}, sample.Record(9), []byte{7, 8, 1, 1, 9}},
		{[]byte{1, 2}, sample.Record(), []byte{1, 2, 1, 0}},
		{nil, sample.Record(sample.Some(32)...), append([]byte{1, 32}, sample.Some(32)...)},
		{nil, sample.Counter(0, 5, 3), []byte{2, 0, 0, 0, 0, 0, 0, 0, 0, 0, 0, 0, 0, 0, 0, 0, 5, 0, 0, 0, 0, 0, 0, 0, 3}},
		{[]byte{7}, sample.Counter(-1, 258, 0), []byte{7, 2, 255, 255, 255, 255, 255, 255, 255, 255, 0, 0, 0, 0, 0, 0, 1, 2, 0, 0, 0, 0, 0, 0, 0, 0}},
		{nil, sample.Counter(math.MinInt, math.MaxInt, -2), []byte{2, 128, 0, 0, 0, 0, 0, 0, 0, 127, 255, 255, 255, 255, 255, 255, 255, 255, 255, 255, 255, 255, 255, 255, 254}},
	} {
		if got := Put(x.b, x.c); !bytes.Equal(got, x.want) {
			t.Errorf("Put(%v, %v) = %v, want %v", x.b, x.c, got, x.want)
		}
	}
}

// heads gives what may stand ahead of a cell.
func heads() [][]byte {
	return [][]byte{nil, {}, {0}, {1, 2}, {2}, sample.Some(7), sample.Some(300)}
}

func TestPutOfMany(t *testing.T) {
	for _, head := range heads() {
		for _, c := range cells() {
			want := slices.Concat(head, wrote(c))
			if got := Put(head, c); !bytes.Equal(got, want) {
				t.Errorf("Put(%v, %v) = %v, want %v", head, c, got, want)
			}
		}
	}
}

// One that may not be is left out: what is ahead stays.
func TestPutOfWrongOnes(t *testing.T) {
	for _, head := range heads() {
		for _, c := range wrongs() {
			if got := Put(head, c); !bytes.Equal(got, head) {
				t.Errorf("Put(%v, %v) = %v", head, c, got)
			}
		}
	}
}

// Cells are put one behind the other, and got so.
func TestPutOfOneBehindTheOther(t *testing.T) {
	all := slices.Concat(records(), counters()[:300])
	var b []byte
	for i, c := range all {
		b = Put(b, c)
		if i%7 == 0 {
			b = Put(b, wrongs()[i])
		}
	}
	for i, c := range all {
		got, n, err := Get(b)
		if err != api.OK || !like(got, c) || n != len(wrote(c)) {
			t.Fatalf("cell %d: %v, %d, %d, want %v", i, got, n, err, c)
		}
		b = b[n:]
	}
	if len(b) != 0 {
		t.Error(b)
	}
}

func TestGet(t *testing.T) {
	for _, x := range []struct {
		b    []byte
		want api.Cell
		n    int
	}{
		{[]byte{1, 2, 97, 98}, sample.Record('a', 'b'), 4},
		{[]byte{1, 2, 97, 98, 99}, sample.Record('a', 'b'), 4},
		{[]byte{1, 0}, sample.Record(), 2},
		{[]byte{1, 0, 1, 0}, sample.Record(), 2},
		{[]byte{1, 1, 255, 3}, sample.Record(255), 3},
		{append([]byte{1, 32}, sample.Some(32)...), sample.Record(sample.Some(32)...), 34},
		{append([]byte{1, 32}, sample.Some(33)...), sample.Record(sample.Some(33)[:32]...), 34},
		{make([]byte, 25), api.Cell{}, 0},
		{[]byte{2, 255, 255, 255, 255, 255, 255, 255, 255, 0, 0, 0, 0, 0, 0, 1, 2, 0, 0, 0, 0, 0, 0, 0, 7}, sample.Counter(-1, 258, 7), 25},
		{append(append([]byte{2}, make([]byte, 24)...), 9), sample.Counter(0, 0, 0), 25},
		{[]byte{2, 128, 0, 0, 0, 0, 0, 0, 0, 127, 255, 255, 255, 255, 255, 255, 255, 255, 255, 255, 255, 255, 255, 255, 254}, sample.Counter(math.MinInt, math.MaxInt, -2), 25},
	} {
		want := api.OK
		if x.n == 0 {
			want = api.ErrForm
		}
		if c, n, err := Get(x.b); !like(c, x.want) || n != x.n || err != want {
			t.Errorf("Get(%v) = %v, %d, %d, want %v, %d", x.b, c, n, err, x.want, x.n)
		}
	}
}

// fails fails unless Get of b tells want, and all else is zero.
func fails(t *testing.T, b []byte, want api.Errno) {
	t.Helper()
	c, n, err := Get(b)
	if err != want {
		t.Errorf("Get(%v): %d, want %d", b, err, want)
	}
	if n != 0 || !like(c, api.Cell{}) || cap(c.Data) != 0 {
		t.Errorf("Get(%v): %v, %d beside an error", b, c, n)
	}
}

func TestGetOfNothing(t *testing.T) {
	fails(t, nil, api.ErrShort)
	fails(t, []byte{}, api.ErrShort)
}

// Cut short at each place, what is missing lying in the spare room or not.
func TestGetOfCutBytes(t *testing.T) {
	for _, c := range cells() {
		b := wrote(c)
		for i := range b {
			fails(t, b[:i], api.ErrShort)
			fails(t, b[:i:i], api.ErrShort)
		}
	}
}

func TestGetOfBytesThatGoOn(t *testing.T) {
	for _, c := range cells() {
		b := wrote(c)
		for _, tail := range [][]byte{nil, {0}, {255}, {1, 0}, sample.Some(300), b} {
			got, n, err := Get(slices.Concat(b, tail))
			if !like(got, c) || n != len(b) || err != api.OK {
				t.Errorf("%v, and %v behind it: %v, %d, %d", c, tail, got, n, err)
			}
		}
	}
}

// Another kind claims nothing: its one byte is enough to tell.
func TestGetOfOtherKinds(t *testing.T) {
	for k := range 256 {
		if k == 1 || k == 2 {
			continue
		}
		fails(t, []byte{byte(k)}, api.ErrForm)
		for _, tail := range [][]byte{{0}, {1}, {2, 97, 98}, {255}, make([]byte, 24), sample.Some(24), sample.Some(300)} {
			fails(t, append([]byte{byte(k)}, tail...), api.ErrForm)
		}
	}
}

// A record of each count: that of one which may not be is short as well, till
// all that it claims is there.
func TestGetOfEachCount(t *testing.T) {
	for count := range 256 {
		b := append([]byte{1, byte(count)}, sample.Some(300)...)
		for i := range count + 2 {
			fails(t, b[:i], api.ErrShort)
		}
		for _, end := range []int{count + 2, count + 3, count + 40, len(b)} {
			if count > 32 {
				fails(t, b[:end], api.ErrForm)
				continue
			}
			c, n, err := Get(b[:end])
			if !like(c, sample.Record(b[2:count+2]...)) || n != count+2 || err != api.OK {
				t.Errorf("of %d bytes: %v, %d, %d", count, c, n, err)
			}
		}
	}
}

// A counter whose bounds are wrong is short as well, till all of it is there.
func TestGetOfWrongCounters(t *testing.T) {
	for _, c := range wrongs() {
		if c.Kind != 2 || len(c.Data) > 0 {
			continue
		}
		b := wrote(c)
		fails(t, b, api.ErrForm)
		fails(t, append(b, 0), api.ErrForm)
		for _, i := range []int{1, 8, 9, 16, 17, 23, 24} {
			fails(t, b[:i], api.ErrShort)
		}
	}
}

// What begins with the bytes of a cell is that one, each one else is none.
func TestGetOfAnyBytes(t *testing.T) {
	for k := range 4 {
		for n := range 60 {
			b := append([]byte{byte(k)}, sample.Some(n)...)
			if n > 0 && n%3 == 0 {
				b[1] %= 40
			}
			c, size, err := Get(b)
			switch {
			case err != api.OK:
				fails(t, b, err)
			case Check(c) != api.OK || size > len(b) || !bytes.Equal(wrote(c), b[:size]):
				t.Errorf("Get(%v) = %v, %d", b, c, size)
			}
		}
	}
}

// Beside great ones too: what lies far behind a cell is of no matter.
func TestGetOfManyBytes(t *testing.T) {
	tail := sample.Some(1 << 20)
	for _, c := range []api.Cell{sample.Record(), sample.Record(sample.Some(32)...), sample.Counter(-3, 3, 0)} {
		b := append(wrote(c), tail...)
		if got, n, err := Get(b); !like(got, c) || n != len(wrote(c)) || err != api.OK {
			t.Errorf("%v: %v, %d, %d", c, got, n, err)
		}
	}
}

// P5.3

// told tells what Set is to answer.
func told(c api.Cell, val int) (api.Cell, api.Errno) {
	switch {
	case c.Kind != 2 || len(c.Data) > 0 || c.Lo > c.Val || c.Val > c.Hi:
		return api.Cell{}, api.ErrKind
	case val < c.Lo || val > c.Hi:
		return api.Cell{}, api.ErrBounds
	}
	return sample.Counter(c.Lo, c.Hi, val), api.OK
}

func TestSet(t *testing.T) {
	for _, x := range []struct {
		c    api.Cell
		val  int
		want api.Cell
		err  api.Errno
	}{
		{sample.Counter(0, 5, 3), 4, sample.Counter(0, 5, 4), api.OK},
		{sample.Counter(0, 5, 3), 3, sample.Counter(0, 5, 3), api.OK},
		{sample.Counter(0, 5, 3), 0, sample.Counter(0, 5, 0), api.OK},
		{sample.Counter(0, 5, 3), 5, sample.Counter(0, 5, 5), api.OK},
		{sample.Counter(0, 5, 3), -1, api.Cell{}, api.ErrBounds},
		{sample.Counter(0, 5, 3), 6, api.Cell{}, api.ErrBounds},
		{sample.Counter(0, 5, 3), math.MinInt, api.Cell{}, api.ErrBounds},
		{sample.Counter(0, 5, 3), math.MaxInt, api.Cell{}, api.ErrBounds},
		{sample.Counter(-7, -3, -5), -7, sample.Counter(-7, -3, -7), api.OK},
		{sample.Counter(-7, -3, -5), -3, sample.Counter(-7, -3, -3), api.OK},
		{sample.Counter(-7, -3, -5), -8, api.Cell{}, api.ErrBounds},
		{sample.Counter(-7, -3, -5), 0, api.Cell{}, api.ErrBounds},
		{sample.Counter(4, 4, 4), 4, sample.Counter(4, 4, 4), api.OK},
		{sample.Counter(4, 4, 4), 3, api.Cell{}, api.ErrBounds},
		{sample.Counter(4, 4, 4), 5, api.Cell{}, api.ErrBounds},
		{sample.Counter(math.MinInt, math.MaxInt, 0), math.MinInt, sample.Counter(math.MinInt, math.MaxInt, math.MinInt), api.OK},
		{sample.Counter(math.MinInt, math.MaxInt, 0), math.MaxInt, sample.Counter(math.MinInt, math.MaxInt, math.MaxInt), api.OK},
		{api.Cell{Kind: 2, Data: []byte{}, Hi: 5}, 1, sample.Counter(0, 5, 1), api.OK},
		{sample.Counter(0, 5, 6), 3, api.Cell{}, api.ErrKind},
		{sample.Counter(0, 5, -1), 3, api.Cell{}, api.ErrKind},
		{sample.Counter(5, 0, 3), 3, api.Cell{}, api.ErrKind},
		{sample.Counter(5, 0, 3), 9, api.Cell{}, api.ErrKind},
		{api.Cell{Kind: 2, Data: sample.Some(1), Hi: 5, Val: 3}, 3, api.Cell{}, api.ErrKind},
		{api.Cell{Kind: 2, Data: sample.Some(1), Hi: 5, Val: 3}, 6, api.Cell{}, api.ErrKind},
		{sample.Record(), 0, api.Cell{}, api.ErrKind},
		{sample.Record('a', 'b'), 0, api.Cell{}, api.ErrKind},
		{sample.Record('a', 'b'), 1, api.Cell{}, api.ErrKind},
		{sample.Record(sample.Some(33)...), 0, api.Cell{}, api.ErrKind},
		{api.Cell{}, 0, api.Cell{}, api.ErrKind},
		{api.Cell{Hi: 5, Val: 3}, 3, api.Cell{}, api.ErrKind},
		{api.Cell{Kind: 3, Hi: 5, Val: 3}, 3, api.Cell{}, api.ErrKind},
		{api.Cell{Kind: 258, Hi: 5, Val: 3}, 3, api.Cell{}, api.ErrKind},
		{api.Cell{Kind: -254, Hi: 5, Val: 3}, 3, api.Cell{}, api.ErrKind},
	} {
		if got, err := Set(x.c, x.val); !like(got, x.want) || err != x.err {
			t.Errorf("Set(%v, %d) = %v, %d, want %v, %d", x.c, x.val, got, err, x.want, x.err)
		}
	}
}

func TestSetOfMany(t *testing.T) {
	for _, c := range append(cells(), wrongs()...) {
		for _, at := range append(numbers(), c.Lo, c.Hi, c.Val) {
			for _, val := range []int{at - 1, at, at + 1} {
				got, err := Set(c, val)
				if want, e := told(c, val); !like(got, want) || err != e {
					t.Fatalf("Set(%v, %d) = %v, %d, want %v, %d", c, val, got, err, want, e)
				}
				if err != api.OK && cap(got.Data) != 0 {
					t.Fatalf("Set(%v, %d) has a list beside an error", c, val)
				}
			}
		}
	}
}

// Memory

// What is handed in stays as it was, its spare room included; so does what was
// answered, whatever becomes of what was handed in.
func TestPutLeavesWhatItWasHanded(t *testing.T) {
	data, behind := sample.Roomy(5, 6, 7)
	none, nowhere := sample.Roomy()
	for _, c := range []api.Cell{
		{Kind: 1, Data: data}, {Kind: 1, Data: none}, {Kind: 1, Data: data, Lo: 1}, {Kind: 3, Data: data},
		{Kind: 2, Data: none, Hi: 5}, {Kind: 2, Data: none, Hi: -1}, {Kind: 2, Data: data},
	} {
		b, whole := sample.Roomy(1, 2, 3)
		wholeWas, behindWas, nowhereWas := bytes.Clone(whole), bytes.Clone(behind), bytes.Clone(nowhere)
		stays := func(when string) {
			t.Helper()
			if !bytes.Equal(whole, wholeWas) || !bytes.Equal(behind, behindWas) || !bytes.Equal(nowhere, nowhereWas) {
				t.Errorf("Put of %v: what it was handed is changed, %s", c, when)
			}
		}
		one, two := Put(b, c), Put(b, c)
		stays("by the call")
		want := bytes.Clone(one)
		sample.Scribble(one)
		stays("by way of what it answered")
		if !bytes.Equal(two, want) {
			t.Errorf("Put of %v: two answers share their memory", c)
		}
		sample.Scribble(whole)
		sample.Scribble(behind)
		sample.Scribble(nowhere)
		if !bytes.Equal(two, want) {
			t.Errorf("Put of %v: it has kept what it was handed", c)
		}
		copy(behind, behindWas)
		copy(nowhere, nowhereWas)
	}
}

func TestPutBehindNothingIsNewMemory(t *testing.T) {
	_, whole := sample.Roomy()
	was := bytes.Clone(whole)
	for _, c := range []api.Cell{sample.Record(), sample.Record(sample.Some(32)...), sample.Counter(0, 5, 3), {}} {
		sample.Scribble(Put(whole[:0], c))
		if !bytes.Equal(whole, was) {
			t.Errorf("Put of %v behind nothing writes into its spare room", c)
		}
	}
}

func TestGetLeavesWhatItWasHanded(t *testing.T) {
	for _, x := range [][]byte{
		wrote(sample.Record()), wrote(sample.Record(5, 6, 7)), wrote(sample.Record(sample.Some(32)...)), wrote(sample.Counter(-1, 5, 3)),
		{}, {0}, {1}, {1, 3, 5}, {2, 0}, append([]byte{1, 33}, sample.Some(33)...), wrote(sample.Counter(5, 0, 3)),
	} {
		b, whole := sample.Roomy(x...)
		was := bytes.Clone(whole)
		one, n, err := Get(b)
		two, _, _ := Get(b)
		if !bytes.Equal(whole, was) {
			t.Errorf("Get(%v) has changed it", x)
		}
		want := two
		want.Data = bytes.Clone(two.Data)
		sample.Scribble(one.Data)
		if !bytes.Equal(whole, was) {
			t.Errorf("Get(%v) gives out what it was handed", x)
		}
		if !like(two, want) {
			t.Errorf("two answers to Get(%v) share their memory", x)
		}
		sample.Scribble(whole)
		if !like(two, want) {
			t.Errorf("Get(%v) has kept it", x)
		}
		copy(whole, was)
		if again, m, e := Get(b); !like(again, want) || m != n || e != err {
			t.Errorf("Get(%v) is another one the second time", x)
		}
	}
}

// Even an empty list has spare room, which a counter's answer does not share.
func TestSetLeavesWhatItWasHanded(t *testing.T) {
	for _, n := range []int{0, 3} {
		for _, kind := range []int{1, 2, 3} {
			data, whole := sample.Roomy(sample.Some(n)...)
			was := bytes.Clone(whole)
			c := api.Cell{Kind: kind, Data: data, Hi: 5, Val: 3}
			for _, val := range []int{4, 6} {
				got, _ := Set(c, val)
				sample.Scribble(got.Data)
				if !bytes.Equal(whole, was) || c.Val != 3 {
					t.Errorf("Set(%v, %d) gives out what it was handed", c, val)
				}
			}
		}
	}
}

func TestCheckAndSameLeaveWhatTheyWereHanded(t *testing.T) {
	for _, n := range []int{0, 2, 32, 33} {
		data, whole := sample.Roomy(sample.Some(n)...)
		other, behind := sample.Roomy(sample.Some(n)...)
		was := bytes.Clone(whole)
		for _, kind := range []int{0, 1, 2} {
			c := api.Cell{Kind: kind, Data: data, Hi: 5, Val: 3}
			Check(c)
			Check(api.Cell{Kind: kind, Data: data})
			Same(c, api.Cell{Kind: kind, Data: other})
			Same(c, api.Cell{Kind: kind, Data: other, Hi: 5, Val: 3})
		}
		if !bytes.Equal(whole, was) || !bytes.Equal(behind, was) {
			t.Errorf("of %d bytes: changed", n)
		}
	}
}

// Nil and empty Data are alike in each call.
func TestNilAndEmptyDataAreAlike(t *testing.T) {
	for _, x := range []api.Cell{
		{}, {Kind: 1}, {Kind: 2}, {Kind: 3}, {Kind: 1, Lo: 1}, {Kind: 1, Val: 1},
		sample.Counter(0, 5, 3), sample.Counter(5, 0, 3), sample.Counter(math.MinInt, math.MaxInt, 0),
	} {
		y := x
		y.Data = []byte{}
		if Check(x) != Check(y) {
			t.Errorf("Check of %v: %d and %d", x, Check(x), Check(y))
		}
		if !Same(x, y) || !Same(y, x) {
			t.Errorf("%v: not the same", x)
		}
		for _, b := range [][]byte{nil, {}, {7}} {
			if !bytes.Equal(Put(b, x), Put(b, y)) {
				t.Errorf("Put of %v: %v and %v", x, Put(b, x), Put(b, y))
			}
		}
		for _, val := range []int{3, 6} {
			one, e := Set(x, val)
			two, f := Set(y, val)
			if !like(one, two) || e != f {
				t.Errorf("Set of %v to %d: %v, %d and %v, %d", x, val, one, e, two, f)
			}
		}
	}
}

// P5.4

func TestGetOfPut(t *testing.T) {
	for _, c := range cells() {
		b := Put(nil, c)
		if got, n, err := Get(b); !Same(got, c) || n != len(b) || err != api.OK {
			t.Errorf("Get of Put of %v = %v, %d, %d", c, got, n, err)
		}
		b = append(Put([]byte{9, 9}, c), 9, 9)
		if got, n, err := Get(b[2:]); !Same(got, c) || n != len(b)-4 || err != api.OK {
			t.Errorf("Get of Put of %v, something about it = %v, %d, %d", c, got, n, err)
		}
	}
}

// Cells that are unlike have unlike bytes, and none begins another.
func TestPutOfUnlikeCells(t *testing.T) {
	few := slices.Concat(records(), counters()[:200])
	for _, a := range few {
		for _, b := range few {
			if bytes.HasPrefix(Put(nil, a), Put(nil, b)) != Same(a, b) {
				t.Errorf("%v and %v", a, b)
			}
		}
	}
}

// P5.5

func TestSetAndBack(t *testing.T) {
	for _, c := range counters() {
		for _, val := range append(numbers(), c.Lo, c.Hi, c.Val) {
			if val < c.Lo || val > c.Hi {
				continue
			}
			there, err := Set(c, val)
			if err != api.OK || Check(there) != api.OK {
				t.Fatalf("Set(%v, %d) = %v, %d", c, val, there, err)
			}
			back, err := Set(there, c.Val)
			if err != api.OK || !Same(back, c) {
				t.Fatalf("%v set to %d, and back: %v, %d", c, val, back, err)
			}
		}
	}
}

// The chapter's example

func TestExample(t *testing.T) {
	if got := Put(nil, sample.Record([]byte("ab")...)); !bytes.Equal(got, []byte{1, 2, 97, 98}) {
		t.Error(got)
	}
}
