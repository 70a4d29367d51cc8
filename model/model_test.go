package model

import (
	"bytes"
	"maps"
	"math"
	"math/big"
	"slices"
	"strings"
	"testing"

	"moneyer/api"
	"moneyer/sample"
)

// dos gives what operations do.
func dos() []int {
	return []int{api.DoRead, api.DoWrite, api.DoCreate, api.DoDrop, api.DoInc, api.DoDec}
}

// otherDos gives numbers of which there are no operations.
func otherDos() []int {
	return []int{
		-1, 6, -2, -5, -6, 7, 8, 9, 127, 128, 255, 256, 257, 260, 1 << 16, 1<<16 + 1, 1 << 32, 1<<32 + 1, 1<<32 + 4, 1 << 62,
		-255, -256, -1 << 32, math.MinInt, math.MinInt + 1, math.MinInt + 4, math.MaxInt, math.MaxInt - 1,
	}
}

// numbers gives numbers of 64 bits, rising.
func numbers() []int {
	return []int{math.MinInt, math.MinInt + 1, -257, -2, -1, 0, 1, 2, 5, 256, math.MaxInt - 1, math.MaxInt}
}

func doRead(k string) api.Op                  { return api.Op{Do: 0, Key: k} }
func doWrite(k string, b ...byte) api.Op      { return api.Op{Do: 1, Key: k, Data: b} }
func doCreate(k string, lo, hi, n int) api.Op { return api.Op{Do: 2, Key: k, Lo: lo, Hi: hi, N: n} }
func doDrop(k string) api.Op                  { return api.Op{Do: 3, Key: k} }
func doInc(k string, n int) api.Op            { return api.Op{Do: 4, Key: k, N: n} }
func doDec(k string, n int) api.Op            { return api.Op{Do: 5, Key: k, N: n} }

// pair gives that k has c.
func pair(k string, c api.Cell) api.Pair {
	return api.Pair{Key: k, Cell: c}
}

// only gives the state in which k alone has c.
func only(k string, c api.Cell) []api.Pair {
	return []api.Pair{pair(k, c)}
}

// full gives an operation that has every field, none of them zero.
func full(do int) api.Op {
	return api.Op{Do: do, Key: "k", Data: []byte{7, 0, 9}, Lo: -3, Hi: 12, N: 5}
}

// everyOp gives operations with all kinds of fields, that may be and that may
// not.
func everyOp() []api.Op {
	var l []api.Op
	ns := numbers()
	for _, do := range append(dos(), otherDos()...) {
		for i, n := range ns {
			lo, hi := ns[(i*5+do&3)%len(ns)], ns[(i*7+do&7)%len(ns)]
			for j, k := range []string{"a", "m", "m1", "z", "!", "0123456789abcdef", "", "a b", "m\x7f", strings.Repeat("m", 17)} {
				size := []int{0, 1, 2, 31, 32, 33, 255, 256, 288}[(i+j)%9]
				l = append(l, api.Op{Do: do, Key: k, Data: sample.Some(size), Lo: lo, Hi: hi, N: n})
				l = append(l, api.Op{Do: do, Key: k, Data: sample.Some(size), Lo: min(lo, n), Hi: max(hi, n), N: n})
				l = append(l, api.Op{Do: do, Key: k, Lo: -n, Hi: n, N: n & 3})
			}
		}
	}
	return l
}

// states gives states that are Right.
func states() [][]api.Pair {
	rec, cnt := sample.Record([]byte("ab")...), sample.Counter(0, 5, 3)
	wide := sample.Counter(math.MinInt, math.MaxInt, 2)
	l := [][]api.Pair{
		nil, {}, only("m", rec), only("m", cnt), only("a", rec), only("z", cnt), only("m1", wide), only("l", sample.Record()),
		{pair("a", rec), pair("m", cnt), pair("z", rec)}, {pair("a", cnt), pair("m", rec), pair("z", cnt)}, {pair("a", rec), pair("z", cnt)},
		{pair("m", cnt), pair("m1", cnt), pair("n", rec)}, {pair("m", rec), pair("m1", rec), pair("n", cnt)}, {pair("a", wide), pair("b", rec), pair("m", wide)},
		{pair("!", sample.Record(sample.Some(32)...)), pair("a", sample.Record()), pair("m", sample.Record(sample.Some(32)...))},
		{pair("a", sample.Counter(math.MinInt, math.MaxInt, math.MaxInt)), pair("m", sample.Counter(math.MinInt, math.MaxInt, math.MinInt)), pair("z", sample.Counter(-2, -1, -2))},
	}
	return append(l, great())
}

// great gives a state of many keys, with all kinds of cells.
func great() []api.Pair {
	m := map[string]api.Cell{}
	cells := sample.Cells()
	for i, k := range sample.Keys() {
		m[k] = cells[i*5%len(cells)]
	}
	return stateOf(m)
}

// wrongStates gives lists that are no states.
func wrongStates() [][]api.Pair {
	rec, cnt := sample.Record(1, 2), sample.Counter(0, 5, 3)
	l := [][]api.Pair{
		{pair("a", rec), pair("a", rec)}, {pair("a", rec), pair("a", cnt)}, {pair("b", rec), pair("a", cnt)}, {pair("b", rec), pair("ab", rec)}, {pair("ab", rec), pair("a", rec)},
		{pair("a", rec), pair("b", cnt), pair("b", cnt)}, {pair("a", rec), pair("c", cnt), pair("b", rec)}, {pair("b", cnt), pair("a", rec), pair("c", rec)},
		{pair("a", rec), pair("b", rec), pair("a", rec)}, {pair("b", rec), pair("a", cnt), pair("b", cnt)}, {pair("z", cnt), pair("m", rec), pair("a", cnt)},
		{pair("a", rec), pair("a", rec), pair("b", rec)}, {pair("~", rec), pair("!", rec)}, {pair("a", rec), pair("A", rec)}, {pair("b", rec), pair("aaa", rec)},
		{{}}, {{}, {}}, {{}, pair("a", rec)}, {pair("a", rec), {}}, {pair("", rec)}, {pair("", rec), pair("", cnt)},
	}
	for _, k := range sample.WrongKeys() {
		l = append(l, only(k, rec), only(k, cnt), []api.Pair{pair("!", rec), pair(k, rec)}, []api.Pair{pair(k, rec), pair("~", rec)}, []api.Pair{pair("a", rec), pair("a"+k+"\x01", rec), pair("b", cnt)})
	}
	for _, c := range sample.WrongCells() {
		l = append(l, only("m", c), []api.Pair{pair("a", rec), pair("m", c)}, []api.Pair{pair("m", c), pair("z", rec)}, []api.Pair{pair("a", rec), pair("m", c), pair("z", cnt)})
	}
	return l
}

// stateOf gives the state that m tells.
func stateOf(m map[string]api.Cell) []api.Pair {
	var s []api.Pair
	for _, k := range slices.Sorted(maps.Keys(m)) {
		s = append(s, pair(k, m[k]))
	}
	return s
}

// cellsOf gives what the keys of a state have.
func cellsOf(s []api.Pair) map[string]api.Cell {
	m := map[string]api.Cell{}
	for _, p := range s {
		m[p.Key] = p.Cell
	}
	return m
}

// mayBe tells whether x may be, field by field.
func mayBe(x api.Op) bool {
	if x.Do < 0 || x.Do > 5 || len(x.Key) < 1 || len(x.Key) > 16 {
		return false
	}
	for _, b := range []byte(x.Key) {
		if b < 33 || b > 126 {
			return false
		}
	}
	switch x.Do {
	case 1:
		return len(x.Data) <= 32
	case 2:
		return x.Lo <= x.N && x.N <= x.Hi
	case 4, 5:
		return x.N >= 0
	}
	return true
}

// done does x to m, as the chapter says it, and gives what it tells.
func done(m map[string]api.Cell, x api.Op) api.Answer {
	c, has := m[x.Key]
	switch {
	case !mayBe(x):
		return api.Answer{Err: api.ErrArg}
	case !has && x.Do != 1 && x.Do != 2:
		return api.Answer{Err: api.ErrNone}
	case has && x.Do == 2:
		return api.Answer{Err: api.ErrTaken}
	case has && (x.Do == 1 && c.Kind == 2 || x.Do >= 4 && c.Kind == 1):
		return api.Answer{Err: api.ErrKind}
	}
	switch x.Do {
	case 0:
		return api.Answer{Cell: c}
	case 1:
		m[x.Key] = sample.Record(x.Data...)
	case 2:
		m[x.Key] = sample.Counter(x.Lo, x.Hi, x.N)
	case 3:
		delete(m, x.Key)
	default:
		return counted(m, x)
	}
	return api.Answer{}
}

// counted does x, which adds to a counter of m or takes off from it.
func counted(m map[string]api.Cell, x api.Op) api.Answer {
	c := m[x.Key]
	by := big.NewInt(int64(x.N))
	if x.Do == 5 {
		by.Neg(by)
	}
	val := by.Add(by, big.NewInt(int64(c.Val)))
	if val.Cmp(big.NewInt(int64(c.Lo))) < 0 || val.Cmp(big.NewInt(int64(c.Hi))) > 0 {
		return api.Answer{Err: api.ErrBounds}
	}
	m[x.Key] = sample.Counter(c.Lo, c.Hi, int(val.Int64()))
	return api.Answer{}
}

// likeCell tells whether a and b have the same fields.
func likeCell(a, b api.Cell) bool {
	return a.Kind == b.Kind && string(a.Data) == string(b.Data) && a.Lo == b.Lo && a.Hi == b.Hi && a.Val == b.Val
}

// like tells whether a and b are the same pairs.
func like(a, b []api.Pair) bool {
	if len(a) != len(b) {
		return false
	}
	for i := range a {
		if a[i].Key != b[i].Key || !likeCell(a[i].Cell, b[i].Cell) {
			return false
		}
	}
	return true
}

// likeAnswer tells whether a and b have the same fields.
func likeAnswer(a, b api.Answer) bool {
	return a.Err == b.Err && likeCell(a.Cell, b.Cell)
}

// twin gives s in memory of its own.
func twin(s []api.Pair) []api.Pair {
	t := make([]api.Pair, len(s))
	for i, p := range s {
		p.Cell.Data = bytes.Clone(p.Cell.Data)
		t[i] = p
	}
	return t
}

// P9.1

// checks fails unless Check of x tells want.
func checks(t *testing.T, x api.Op, want api.Errno) {
	t.Helper()
	if got := Check(x); got != want {
		t.Errorf("Check(%v) = %d, want %d", x, got, want)
	}
}

func TestCheckOfDo(t *testing.T) {
	for _, do := range dos() {
		checks(t, full(do), api.OK)
		checks(t, api.Op{Do: do, Key: "a"}, api.OK)
	}
	for _, do := range otherDos() {
		checks(t, full(do), api.ErrArg)
		checks(t, api.Op{Do: do, Key: "a"}, api.ErrArg)
	}
	checks(t, api.Op{}, api.ErrArg)
}

func TestCheckOfKey(t *testing.T) {
	for _, do := range dos() {
		x := full(do)
		for _, x.Key = range sample.Keys() {
			checks(t, x, api.OK)
		}
		for _, x.Key = range sample.WrongKeys() {
			checks(t, x, api.ErrArg)
			checks(t, api.Op{Do: do, Key: x.Key}, api.ErrArg)
		}
	}
}

// How many bytes there are is asked of DoWrite alone.
func TestCheckOfData(t *testing.T) {
	for _, n := range []int{0, 1, 31, 32, 33, 34, 64, 255, 256, 257, 288, 512, 1 << 16, 1<<16 + 1, 1<<16 + 32} {
		for _, do := range dos() {
			x := full(do)
			x.Data = sample.Some(n)
			want := api.OK
			if do == api.DoWrite && n > 32 {
				want = api.ErrArg
			}
			checks(t, x, want)
		}
	}
	checks(t, doWrite("a"), api.OK)
	checks(t, api.Op{Do: api.DoWrite, Key: "a", Data: []byte{}}, api.OK)
}

// The bounds are asked of DoCreate alone.
func TestCheckOfBounds(t *testing.T) {
	for _, lo := range numbers() {
		for _, n := range numbers() {
			for _, hi := range numbers() {
				want := api.ErrArg
				if lo <= n && n <= hi {
					want = api.OK
				}
				checks(t, doCreate("a", lo, hi, n), want)
				for _, do := range []int{api.DoRead, api.DoWrite, api.DoDrop} {
					checks(t, api.Op{Do: do, Key: "a", Lo: lo, Hi: hi, N: n}, api.OK)
				}
				for _, do := range []int{api.DoInc, api.DoDec} {
					checks(t, api.Op{Do: do, Key: "a", Lo: lo, Hi: hi, N: 3}, api.OK)
				}
			}
		}
	}
	checks(t, doCreate("a", 3, 3, 3), api.OK)
	checks(t, doCreate("a", 4, 5, 3), api.ErrArg)
	checks(t, doCreate("a", 0, 2, 3), api.ErrArg)
	checks(t, doCreate("a", 5, 0, 3), api.ErrArg)
}

// That N is not below 0 is asked of DoInc and DoDec alone.
func TestCheckOfN(t *testing.T) {
	for _, n := range numbers() {
		want := api.OK
		if n < 0 {
			want = api.ErrArg
		}
		checks(t, doInc("a", n), want)
		checks(t, doDec("a", n), want)
		for _, do := range []int{api.DoRead, api.DoWrite, api.DoDrop} {
			checks(t, api.Op{Do: do, Key: "a", N: n}, api.OK)
		}
		checks(t, doCreate("a", math.MinInt, math.MaxInt, n), api.OK)
	}
}

func TestCheckOfEveryOp(t *testing.T) {
	for _, x := range everyOp() {
		want := api.ErrArg
		if mayBe(x) {
			want = api.OK
		}
		checks(t, x, want)
	}
}

// likeOp tells whether a and b have the same fields.
func likeOp(a, b api.Op) bool {
	return a.Do == b.Do && a.Key == b.Key && string(a.Data) == string(b.Data) && a.Lo == b.Lo && a.Hi == b.Hi && a.N == b.N
}

// plains fails unless Plain of x is just want, and Plain of that, too.
func plains(t *testing.T, x, want api.Op) {
	t.Helper()
	for _, y := range []api.Op{x, want} {
		if got := Plain(y); !likeOp(got, want) {
			t.Errorf("Plain(%v) = %v, want %v", y, got, want)
		}
	}
}

func TestPlain(t *testing.T) {
	plains(t, full(api.DoRead), doRead("k"))
	plains(t, full(api.DoWrite), doWrite("k", 7, 0, 9))
	plains(t, full(api.DoCreate), doCreate("k", -3, 12, 5))
	plains(t, full(api.DoDrop), doDrop("k"))
	plains(t, full(api.DoInc), doInc("k", 5))
	plains(t, full(api.DoDec), doDec("k", 5))
	for _, do := range otherDos() {
		plains(t, full(do), api.Op{Do: do, Key: "k"})
	}
	plains(t, api.Op{}, api.Op{})
	for _, do := range append(dos(), otherDos()...) {
		plains(t, api.Op{Do: do}, api.Op{Do: do})
		plains(t, api.Op{Do: do, Key: "k"}, api.Op{Do: do, Key: "k"})
	}
}

// Whether an operation may be is of no matter.
func TestPlainOfEveryOp(t *testing.T) {
	for _, x := range everyOp() {
		want := api.Op{Do: x.Do, Key: x.Key}
		switch x.Do {
		case 1:
			want.Data = x.Data
		case 2:
			want.Lo, want.Hi, want.N = x.Lo, x.Hi, x.N
		case 4, 5:
			want.N = x.N
		}
		plains(t, x, want)
	}
}

// Fields that the Do does not name are of no matter.
func TestPlainDoesTheSame(t *testing.T) {
	for _, x := range everyOp() {
		checks(t, Plain(x), Check(x))
	}
	for _, s := range states() {
		for _, do := range append(dos(), -1, 6) {
			x := full(do)
			for _, x.Key = range []string{"a", "m", "z"} {
				then, told := behind(s, x)
				steps(t, s, x, then, told)
				steps(t, s, Plain(x), then, told)
			}
		}
	}
}

// P9.2

// behind gives the state behind x, done to s, and what it tells.
func behind(s []api.Pair, x api.Op) ([]api.Pair, api.Answer) {
	m := cellsOf(s)
	told := done(m, x)
	return stateOf(m), told
}

// steps fails unless Step of s and x is just then and told.
func steps(t *testing.T, s []api.Pair, x api.Op, then []api.Pair, told api.Answer) {
	t.Helper()
	got, a := Step(s, x)
	if !like(got, then) || !likeAnswer(a, told) {
		t.Errorf("Step(%v, %v) = %v, %v, want %v, %v", s, x, got, a, then, told)
	}
	if (told.Err != api.OK || x.Do != api.DoRead) && a.Cell.Data != nil {
		t.Errorf("Step(%v, %v): a list beside %d", s, x, told.Err)
	}
}

// refuses fails unless Step of s and x tells err, and leaves s as it is.
func refuses(t *testing.T, s []api.Pair, x api.Op, err api.Errno) {
	t.Helper()
	steps(t, s, x, twin(s), api.Answer{Err: err})
}

// turns fails unless x, done to s, has no error, and the state is then this one.
func turns(t *testing.T, s []api.Pair, x api.Op, then ...api.Pair) {
	t.Helper()
	steps(t, s, x, then, api.Answer{})
}

// about gives states in which k has c, if it has something: alone, and ahead
// of, between and behind others.
func about(k string, c api.Cell) [][]api.Pair {
	rec, cnt := sample.Record(9), sample.Counter(1, 9, 4)
	low := []api.Pair{pair("!", rec), pair("Zz", cnt)}
	high := []api.Pair{pair(k+"!", cnt), pair("~", rec)}
	var l [][]api.Pair
	for _, x := range [][]api.Pair{nil, low[:1], low[1:], low} {
		for _, y := range [][]api.Pair{nil, high[:1], high[1:], high} {
			l = append(l, around(x, k, c, y))
		}
	}
	return l
}

// around gives a state of x, what k has, if it has something, and y.
func around(x []api.Pair, k string, c api.Cell, y []api.Pair) []api.Pair {
	if c.Kind == api.KindNone {
		return slices.Concat(x, y)
	}
	return slices.Concat(x, only(k, c), y)
}

// turnsAbout fails unless x makes c of what its key has, wherever that stands.
func turnsAbout(t *testing.T, had api.Cell, x api.Op, c api.Cell) {
	t.Helper()
	then := about(x.Key, c)
	for i, s := range about(x.Key, had) {
		turns(t, s, x, then[i]...)
	}
}

// refusesAbout fails unless x is told err, wherever what its key has stands.
func refusesAbout(t *testing.T, had api.Cell, x api.Op, err api.Errno) {
	t.Helper()
	for _, s := range about(x.Key, had) {
		refuses(t, s, x, err)
	}
}

// things gives what a key may have: a record, a counter.
func things() []api.Cell {
	return []api.Cell{
		sample.Record(), sample.Record(0), sample.Record('a', 'b'), sample.Record(sample.Some(32)...),
		sample.Counter(0, 0, 0), sample.Counter(0, 5, 3), sample.Counter(-7, -3, -5), sample.Counter(math.MinInt, math.MaxInt, 0),
	}
}

func TestStepOfRead(t *testing.T) {
	refusesAbout(t, api.Cell{}, doRead("m"), api.ErrNone)
	for _, c := range append(things(), sample.Cells()...) {
		for _, s := range about("m", c) {
			steps(t, s, doRead("m"), s, api.Answer{Cell: c})
			refuses(t, s, doRead("m0"), api.ErrNone)
			refuses(t, s, doRead("l"), api.ErrNone)
		}
	}
}

func TestStepOfWrite(t *testing.T) {
	for _, data := range [][]byte{nil, {}, {0}, {1, 2, 3}, sample.Some(31), sample.Some(32), make([]byte, 32)} {
		x := doWrite("m", data...)
		turnsAbout(t, api.Cell{}, x, sample.Record(data...))
		for _, c := range things() {
			if c.Kind == api.KindCounter {
				refusesAbout(t, c, x, api.ErrKind)
			} else {
				turnsAbout(t, c, x, sample.Record(data...))
			}
		}
	}
}

func TestStepOfCreate(t *testing.T) {
	for _, c := range sample.Cells() {
		if c.Kind == api.KindCounter {
			turnsAbout(t, api.Cell{}, doCreate("m", c.Lo, c.Hi, c.Val), c)
		}
	}
	for _, c := range things() {
		refusesAbout(t, c, doCreate("m", 0, 5, 3), api.ErrTaken)
		refusesAbout(t, c, doCreate("m", c.Lo, c.Hi, c.Val), api.ErrTaken)
	}
}

func TestStepOfDrop(t *testing.T) {
	refusesAbout(t, api.Cell{}, doDrop("m"), api.ErrNone)
	for _, c := range append(things(), sample.Cells()...) {
		turnsAbout(t, c, doDrop("m"), api.Cell{})
	}
}

func TestStepOfIncAndDec(t *testing.T) {
	for _, n := range []int{0, 1, math.MaxInt} {
		for _, x := range []api.Op{doInc("m", n), doDec("m", n)} {
			refusesAbout(t, api.Cell{}, x, api.ErrNone)
			for _, c := range things() {
				if c.Kind == api.KindRecord {
					refusesAbout(t, c, x, api.ErrKind)
				}
			}
		}
	}
	c := sample.Counter(-1, 5, 3)
	for n := range 10 {
		if n <= 2 {
			turnsAbout(t, c, doInc("m", n), sample.Counter(-1, 5, 3+n))
		} else {
			refusesAbout(t, c, doInc("m", n), api.ErrBounds)
		}
		if n <= 4 {
			turnsAbout(t, c, doDec("m", n), sample.Counter(-1, 5, 3-n))
		} else {
			refusesAbout(t, c, doDec("m", n), api.ErrBounds)
		}
	}
}

// Sums that go round would be within the bounds again.
func TestStepOfGreatNumbers(t *testing.T) {
	const least, most = math.MinInt, math.MaxInt
	for _, x := range []struct {
		val     int
		x       api.Op
		lo, hi  int
		then    int
		refused bool
	}{
		{val: most, x: doInc("m", 0), lo: least, hi: most, then: most},
		{val: most, x: doInc("m", 1), lo: least, hi: most, refused: true},
		{val: most, x: doInc("m", most), lo: least, hi: most, refused: true},
		{val: 1, x: doInc("m", most), lo: least, hi: most, refused: true},
		{val: 1, x: doInc("m", most-1), lo: least, hi: most, then: most},
		{val: 0, x: doInc("m", most), lo: least, hi: most, then: most},
		{val: least, x: doInc("m", most), lo: least, hi: most, then: -1},
		{val: most, x: doDec("m", most), lo: least, hi: most, then: 0},
		{val: least, x: doDec("m", 0), lo: least, hi: most, then: least},
		{val: least, x: doDec("m", 1), lo: least, hi: most, refused: true},
		{val: least, x: doDec("m", most), lo: least, hi: most, refused: true},
		{val: -2, x: doDec("m", most), lo: least, hi: most, refused: true},
		{val: -1, x: doDec("m", most), lo: least, hi: most, then: least},
		{val: 5, x: doInc("m", most), lo: least, hi: 5, refused: true},
		{val: -5, x: doDec("m", most), lo: -5, hi: most, refused: true},
		{val: most, x: doInc("m", 0), lo: most, hi: most, then: most},
		{val: most, x: doDec("m", 1), lo: most, hi: most, refused: true},
		{val: least, x: doInc("m", 1), lo: least, hi: least, refused: true},
	} {
		c := sample.Counter(x.lo, x.hi, x.val)
		if x.refused {
			refusesAbout(t, c, x.x, api.ErrBounds)
		} else {
			turnsAbout(t, c, x.x, sample.Counter(x.lo, x.hi, x.then))
		}
	}
}

func TestStepOfAnyCounter(t *testing.T) {
	ns := numbers()
	for i, lo := range ns {
		for j, val := range ns[i:] {
			for _, hi := range ns[i+j:] {
				for _, n := range ns {
					for _, x := range []api.Op{doInc("m", n), doDec("m", n)} {
						s := only("m", sample.Counter(lo, hi, val))
						then, told := behind(s, x)
						steps(t, s, x, then, told)
					}
				}
			}
		}
	}
}

// An operation that may not be is told that first.
func TestStepTellsChecksErrorFirst(t *testing.T) {
	rec, cnt := sample.Record(1), sample.Counter(0, 5, 3)
	for _, c := range []api.Cell{{}, rec, cnt} {
		refusesAbout(t, c, doWrite("m", sample.Some(33)...), api.ErrArg)
		refusesAbout(t, c, doCreate("m", 4, 5, 3), api.ErrArg)
		refusesAbout(t, c, doCreate("m", 0, 2, 3), api.ErrArg)
		refusesAbout(t, c, doInc("m", -1), api.ErrArg)
		refusesAbout(t, c, doDec("m", -1), api.ErrArg)
		refusesAbout(t, c, doInc("m", math.MinInt), api.ErrArg)
		refusesAbout(t, c, doDec("m", math.MinInt), api.ErrArg)
		for _, do := range otherDos() {
			refusesAbout(t, c, full(do), api.ErrArg)
			refusesAbout(t, c, api.Op{Do: do, Key: "m"}, api.ErrArg)
		}
	}
	for _, k := range sample.WrongKeys() {
		for _, do := range dos() {
			for _, s := range states() {
				refuses(t, s, api.Op{Do: do, Key: k, Data: sample.Some(2), Hi: 5, N: 3}, api.ErrArg)
			}
		}
	}
}

func TestStepOfEveryOp(t *testing.T) {
	for _, s := range states() {
		for _, x := range everyOp() {
			then, told := behind(s, x)
			steps(t, s, x, then, told)
		}
	}
}

// A key is put where it belongs, byte by byte.
func TestStepKeepsTheOrder(t *testing.T) {
	ks := sample.Keys()
	for by := range len(ks) {
		m := map[string]api.Cell{}
		var s []api.Pair
		for i := range ks {
			k := ks[(i*7+by)%len(ks)]
			x := doWrite(k, byte(i))
			m[k] = sample.Record(byte(i))
			turns(t, s, x, stateOf(m)...)
			s, _ = Step(s, x)
		}
		for i := range ks {
			k := ks[(i*11+by)%len(ks)]
			delete(m, k)
			turns(t, s, doDrop(k), stateOf(m)...)
			s, _ = Step(s, doDrop(k))
		}
		if len(s) != 0 {
			t.Errorf("%v is left", s)
		}
	}
}

// Of lists that are no states nothing is asked but an end.
func TestStepOfNoStateEnds(t *testing.T) {
	l := everyOp()
	for i, s := range wrongStates() {
		for j := i % 7; j < len(l); j += 7 {
			Step(s, l[j])
		}
		for _, do := range dos() {
			for _, p := range s {
				Step(s, api.Op{Do: do, Key: p.Key, N: 1, Hi: 1})
			}
			Step(s, full(do))
		}
		Run(s, l[i*50:i*50+50])
	}
}

// runs fails unless Run of s and l is what one Step behind the other is, and what
// the chapter says.
func runs(t *testing.T, s []api.Pair, l ...api.Op) {
	t.Helper()
	m := cellsOf(s)
	state := s
	var told []api.Answer
	for _, x := range l {
		told = append(told, done(m, x))
		then, a := Step(state, x)
		if !like(then, stateOf(m)) || !likeAnswer(a, told[len(told)-1]) {
			t.Errorf("Step(%v, %v) = %v, %v, want %v, %v", state, x, then, a, stateOf(m), told[len(told)-1])
		}
		state = then
	}
	got, answers := Run(s, l)
	if !like(got, state) || !slices.EqualFunc(answers, told, likeAnswer) {
		t.Errorf("Run(%v, %v) = %v, %v, want %v, %v", s, l, got, answers, state, told)
	}
}

func TestRun(t *testing.T) {
	for _, s := range states() {
		runs(t, s)
		runs(t, s, []api.Op{}...)
		for _, x := range few() {
			runs(t, s, x)
			runs(t, s, x, x)
			runs(t, s, x, doRead(x.Key))
		}
		runs(t, s, few()...)
		l := few()
		slices.Reverse(l)
		runs(t, s, l...)
	}
}

// few gives operations with errors between them.
func few() []api.Op {
	return []api.Op{
		doCreate("a", 0, 5, 3), doInc("a", 3), doInc("a", 2), doRead("a"), doWrite("a", 1), doDec("a", 6), doDec("a", 5), doInc("a", -1), doRead("a"),
		doRead("b"), doWrite("b", 1, 2), doRead("b"), doInc("b", 1), doCreate("b", 0, 0, 0), doWrite("b"), doRead("b"), doDrop("b"), doDrop("b"), doRead("b"),
		doCreate("b", 5, 0, 3), doCreate("b", -5, 0, -3), doRead("b"), {Do: 6, Key: "b"}, {Do: -1, Key: "b"}, doRead("a b"), doDrop("a"), doWrite("a", 7), doRead("a"),
		doWrite("m", sample.Some(33)...), doWrite("m", sample.Some(32)...), doRead("m"), doDrop("m"), doCreate("m", math.MinInt, math.MaxInt, math.MaxInt), doInc("m", 1), doDec("m", 1), doRead("m"),
	}
}

func TestRunTellsOneAnswerEach(t *testing.T) {
	l := []api.Op{doRead("a"), doWrite("a", 1), doRead("a"), doInc("a", 1), doDrop("a"), doRead("a"), {Do: 9}}
	s, told := Run(nil, l)
	want := []api.Answer{{Err: api.ErrNone}, {}, {Cell: sample.Record(1)}, {Err: api.ErrKind}, {}, {Err: api.ErrNone}, {Err: api.ErrArg}}
	if len(s) != 0 || !slices.EqualFunc(told, want, likeAnswer) {
		t.Errorf("%v, %v, want %v", s, told, want)
	}
	s, told = Run(only("a", sample.Record(1)), nil)
	if !like(s, only("a", sample.Record(1))) || len(told) != 0 {
		t.Errorf("%v, %v", s, told)
	}
}

// anyOps gives n operations that look like nothing, few of which may not be.
func anyOps(n, seed int) []api.Op {
	b := sample.Some(6*n + seed)[seed:]
	ks := sample.Keys()
	ns := []int{math.MaxInt, math.MaxInt - 1, 0, 1, 2, 3, 5, 7, 11, 100, -1, -3, math.MinInt, math.MinInt + 1}
	var l []api.Op
	for i := range n {
		c := b[6*i:]
		x := api.Op{Do: int(c[0] % 6), Key: ks[int(c[1])%len(ks)], Data: sample.Some(int(c[2] % 33)), Lo: ns[int(c[3])%len(ns)], Hi: ns[int(c[4])%len(ns)], N: ns[int(c[5])%len(ns)]}
		if x.Do == 2 {
			x.Lo, x.Hi = min(x.Lo, x.Hi), max(x.Lo, x.Hi)
		}
		l = append(l, x)
	}
	return l
}

func TestRunOfManyOps(t *testing.T) {
	for seed := range 20 {
		for _, s := range [][]api.Pair{nil, great()} {
			runs(t, s, anyOps(300, seed)...)
		}
	}
}

// P9.3

// finds fails unless Find of s and k tells just c and has.
func finds(t *testing.T, s []api.Pair, k string, c api.Cell, has bool) {
	t.Helper()
	got, ok := Find(s, k)
	if !likeCell(got, c) || ok != has || !ok && got.Data != nil {
		t.Errorf("Find(%v, %q) = %v, %t, want %v, %t", s, k, got, ok, c, has)
	}
}

func TestFind(t *testing.T) {
	for _, s := range append(states(), wrongStates()...) {
		for _, k := range append(append(sample.Keys(), sample.WrongKeys()...), "m", "m1", "z", "n", "l", "M", "m\x00") {
			i := slices.IndexFunc(s, func(p api.Pair) bool { return p.Key == k })
			if i < 0 {
				finds(t, s, k, api.Cell{}, false)
			} else {
				finds(t, s, k, s[i].Cell, true)
			}
		}
	}
	for _, c := range append(sample.Cells(), sample.WrongCells()...) {
		for _, s := range [][]api.Pair{only("m", c), {pair("a", sample.Record(9)), pair("m", c), pair("z", sample.Record(8))}, {pair("z", sample.Record(9)), pair("m", c)}} {
			finds(t, s, "m", c, true)
			finds(t, s, "", api.Cell{}, false)
			finds(t, s, "mm", api.Cell{}, false)
			finds(t, s, "l", api.Cell{}, false)
		}
	}
}

// The first one with the key counts.
func TestFindOfAKeyThatStandsTwice(t *testing.T) {
	one, two := sample.Record(1), sample.Counter(0, 5, 3)
	finds(t, []api.Pair{pair("a", one), pair("a", two)}, "a", one, true)
	finds(t, []api.Pair{pair("a", two), pair("a", one)}, "a", two, true)
	finds(t, []api.Pair{pair("b", two), pair("a", one), pair("c", two), pair("a", two)}, "a", one, true)
	finds(t, []api.Pair{pair("", two), pair("", one)}, "", two, true)
	finds(t, []api.Pair{{}, pair("", one)}, "", api.Cell{}, true)
	finds(t, slices.Repeat(only("a", two), 100), "a", two, true)
	finds(t, append(only("a", one), slices.Repeat(only("a", two), 100)...), "a", one, true)
	finds(t, append(slices.Repeat(only("z", two), 100), pair("a", one)), "a", one, true)
}

// same fails unless Same of a and b, and of b and a, tells want.
func same(t *testing.T, a, b []api.Pair, want bool) {
	t.Helper()
	if Same(a, b) != want || Same(b, a) != want {
		t.Errorf("Same(%v, %v), want %t", a, b, want)
	}
}

func TestSame(t *testing.T) {
	all := append(states(), wrongStates()...)
	for _, a := range all {
		same(t, a, twin(a), true)
		for _, b := range all {
			same(t, a, b, like(a, b))
		}
	}
}

// unlike gives cells that are unlike c in one field each.
func unlike(c api.Cell) []api.Cell {
	var l []api.Cell
	for _, by := range []int{1, -1, 256, 1 << 32, math.MinInt} {
		for i := range 4 {
			x := c
			*[]*int{&x.Kind, &x.Lo, &x.Hi, &x.Val}[i] += by
			l = append(l, x)
		}
	}
	for i := range c.Data {
		x := c
		x.Data = bytes.Clone(c.Data)
		x.Data[i] ^= 0x80
		l = append(l, x)
	}
	longer, none := c, c
	longer.Data = append(bytes.Clone(c.Data), 0)
	if none.Data = nil; len(c.Data) > 0 {
		l = append(l, none)
	}
	return append(l, longer)
}

func TestSameOfUnlikeFields(t *testing.T) {
	for _, c := range append(sample.Cells(), sample.WrongCells()...) {
		s := []api.Pair{pair("a", c), pair("m", c), pair("z", c)}
		for i := range s {
			for _, x := range unlike(c) {
				u := twin(s)
				u[i].Cell = x
				same(t, s, u, false)
				same(t, s[i:i+1], u[i:i+1], false)
			}
			for _, k := range []string{"", "b", "A", "aa", "mm", "m ", "m\x00"} {
				u := twin(s)
				u[i].Key = k
				same(t, s, u, false)
			}
		}
		same(t, s, s[:2], false)
		same(t, s, s[1:], false)
		same(t, s, nil, false)
		same(t, s, append(twin(s), api.Pair{}), false)
		same(t, s, append(twin(s), s[2]), false)
		same(t, s, []api.Pair{s[0], s[2], s[1]}, false)
		same(t, s, []api.Pair{s[1], s[0], s[2]}, false)
	}
	same(t, only("a", api.Cell{}), nil, false)
	same(t, []api.Pair{{}}, []api.Pair{}, false)
	same(t, []api.Pair{{}}, []api.Pair{{}, {}}, false)
}

// sameAnswer fails unless SameAnswer of a and b, and of b and a, tells want.
func sameAnswer(t *testing.T, a, b api.Answer, want bool) {
	t.Helper()
	if SameAnswer(a, b) != want || SameAnswer(b, a) != want {
		t.Errorf("SameAnswer(%v, %v), want %t", a, b, want)
	}
}

func TestSameAnswer(t *testing.T) {
	var all []api.Answer
	for _, c := range append(sample.Cells(), sample.WrongCells()...) {
		for _, err := range []api.Errno{api.OK, api.ErrArg, api.ErrNone, api.ErrState, -1, 1 << 32} {
			a := api.Answer{Err: err, Cell: c}
			all = append(all, a)
			for _, x := range unlike(c) {
				sameAnswer(t, a, api.Answer{Err: err, Cell: x}, false)
			}
			c.Data = bytes.Clone(c.Data)
			sameAnswer(t, a, api.Answer{Err: err, Cell: c}, true)
			sameAnswer(t, a, api.Answer{Err: err + 1, Cell: c}, false)
			sameAnswer(t, a, api.Answer{Err: err + 256, Cell: c}, false)
		}
	}
	for _, a := range all {
		for _, b := range all {
			sameAnswer(t, a, b, likeAnswer(a, b))
		}
	}
}

// rights fails unless Right of s tells want.
func rights(t *testing.T, want bool, s ...api.Pair) {
	t.Helper()
	if Right(s) != want {
		t.Errorf("Right(%v), want %t", s, want)
	}
}

func TestRight(t *testing.T) {
	rights(t, true)
	rights(t, true, []api.Pair{}...)
	for _, s := range states() {
		rights(t, true, s...)
	}
	for _, s := range wrongStates() {
		rights(t, false, s...)
	}
	for _, k := range sample.Keys() {
		for _, c := range sample.Cells() {
			rights(t, true, pair(k, c))
		}
		for _, c := range sample.WrongCells() {
			rights(t, false, pair(k, c))
		}
	}
	for _, k := range sample.WrongKeys() {
		for _, c := range sample.Cells() {
			rights(t, false, pair(k, c))
		}
	}
}

// Keys rise byte by byte, not by length.
func TestRightOfTheOrder(t *testing.T) {
	c := sample.Record(1)
	texts := append(sample.Keys(), "aa", "aB", "Aa", "bb", "a!", "a~", "0", "9", "~!", "zzzzzzzzzzzzzzzz")
	for _, j := range texts {
		for _, k := range texts {
			rights(t, j < k, pair(j, c), pair(k, c))
			rights(t, j < k && k < "~~~~~~~~~~~~~~~~", pair(j, c), pair(k, c), pair("~~~~~~~~~~~~~~~~", c))
			rights(t, "!" < j && j < k, pair("!", c), pair(j, c), pair(k, c))
		}
	}
	rights(t, true, pair("aaa", c), pair("b", c))
	rights(t, false, pair("b", c), pair("aaa", c))
	rights(t, true, pair("a", c), pair("aa", c), pair("b", c), pair("ba", c))
	rights(t, false, pair("a", c), pair("b", c), pair("aa", c), pair("ba", c))
}

// One that may not be is enough, wherever it stands.
func TestRightOfOneWrongPair(t *testing.T) {
	s := great()
	for i := range s {
		for _, c := range sample.WrongCells() {
			u := slices.Clone(s)
			u[i].Cell = c
			rights(t, false, u...)
		}
		u := slices.Clone(s)
		u[i].Key += "\x7f"
		rights(t, false, u...)
		u = slices.Insert(slices.Clone(s), i, s[i])
		rights(t, false, u...)
		rights(t, true, slices.Delete(slices.Clone(s), i, i+1)...)
	}
}

// P9.4

// What is Right stays so, and each counter stays within its bounds, which only
// DoCreate sets.
func TestWhatIsRightStaysSo(t *testing.T) {
	for seed := range 20 {
		for _, s := range states() {
			for _, x := range anyOps(200, 100+seed) {
				then, told := Step(s, x)
				if !Right(then) || told.Err != api.OK && !like(s, then) {
					t.Fatalf("Step(%v, %v) = %v, %v", s, x, then, told)
				}
				for _, p := range then {
					bounded(t, s, x, p)
				}
				s = then
			}
		}
	}
}

// bounded fails unless what p has, behind x was done to s, is within its bounds,
// and these are as they were.
func bounded(t *testing.T, s []api.Pair, x api.Op, p api.Pair) {
	t.Helper()
	c := p.Cell
	if c.Kind == api.KindRecord && len(c.Data) <= api.MaxData {
		return
	}
	had, has := Find(s, p.Key)
	created := !has && x.Do == api.DoCreate && x.Key == p.Key && c.Lo == x.Lo && c.Hi == x.Hi
	if c.Kind != api.KindCounter || c.Val < c.Lo || c.Val > c.Hi || !created && (had.Kind != c.Kind || had.Lo != c.Lo || had.Hi != c.Hi) {
		t.Errorf("%v, behind %v was done to %v", p, x, s)
	}
}

func TestRunStaysRight(t *testing.T) {
	for seed := range 50 {
		for _, s := range states() {
			if then, _ := Run(s, anyOps(100, 500+seed)); !Right(then) {
				t.Errorf("%v, behind %d operations on %v", then, 100, s)
			}
		}
	}
	var s []api.Pair
	for _, x := range everyOp() {
		if s, _ = Step(s, x); !Right(s) {
			t.Fatalf("%v, behind %v", s, x)
		}
	}
}

// Memory

// guarded gives s with spare room behind each of its lists, and a function that
// tells whether all of it is as it was.
func guarded(s []api.Pair) ([]api.Pair, func() bool) {
	room := only("room", api.Cell{Kind: 7, Lo: 8})
	whole := slices.Concat(s, room, room, room)
	var datas [][]byte
	for i := range s {
		data, all := sample.Roomy(s[i].Cell.Data...)
		whole[i].Cell.Data = data
		datas = append(datas, all)
	}
	was := twin(whole)
	rooms := slices.Repeat([]byte{0xee}, 64)
	return whole[:len(s)], func() bool {
		for i, p := range was[:len(s)] {
			if !bytes.Equal(datas[i], slices.Concat(p.Cell.Data, rooms)) {
				return false
			}
		}
		return like(whole, was)
	}
}

// guardedOps gives l with spare room behind each of its lists, and a function
// that tells whether all of it is as it was.
func guardedOps(l []api.Op) ([]api.Op, func() bool) {
	whole := slices.Concat(l, []api.Op{full(9), full(9)})
	var datas, were [][]byte
	for i := range l {
		data, all := sample.Roomy(l[i].Data...)
		whole[i].Data = data
		datas, were = append(datas, all), append(were, bytes.Clone(all))
	}
	was := slices.Clone(whole)
	for i := range was {
		was[i].Data = bytes.Clone(was[i].Data)
	}
	return whole[:len(l)], func() bool {
		return slices.EqualFunc(whole, was, likeOp) && slices.EqualFunc(datas, were, bytes.Equal)
	}
}

// scribble writes over all memory of s, its spare room too.
func scribble(s []api.Pair) {
	s = s[:cap(s)]
	for i := range s {
		sample.Scribble(s[i].Cell.Data)
		s[i] = pair("scribble", api.Cell{Kind: 9, Data: []byte{9}})
	}
}

// scribbleOps writes over all memory of l, its spare room too.
func scribbleOps(l []api.Op) {
	l = l[:cap(l)]
	for i := range l {
		sample.Scribble(l[i].Data)
		l[i] = full(9)
	}
}

func TestWhatIsHandedInStaysAsItWas(t *testing.T) {
	for _, was := range append(states(), wrongStates()...) {
		s, kept := guarded(was)
		l, keptOps := guardedOps(append(few(), anyOps(20, len(was))...))
		for _, x := range l {
			Check(x)
			Plain(x)
			Step(s, x)
			if !kept() || !keptOps() {
				t.Fatalf("Step: %v and %v, was %v", s, x, was)
			}
			Find(s, x.Key)
		}
		Run(s, l)
		Run(s, l[:1])
		Same(s, was)
		Right(s)
		SameAnswer(api.Answer{Cell: sample.Record(1)}, api.Answer{Cell: sample.Record(2)})
		if !kept() || !keptOps() {
			t.Errorf("%v and %v, was %v", s, l, was)
		}
	}
}

// What Step answers has nothing of what was handed in, nor one part of it of the
// other.
func TestStepIsNewMemory(t *testing.T) {
	for _, was := range states() {
		for _, x := range append(few(), doRead("m"), doRead("z"), doWrite("z", 1, 2), doWrite("m", 3), doDrop("m"), doInc("m", 0), doWrite("!", 4)) {
			want, told := behind(was, x)
			s, kept := guarded(was)
			l, keptOps := guardedOps([]api.Op{x})
			then, a := Step(s, l[0])
			sample.Scribble(a.Cell.Data)
			if !like(then, want) || !kept() || !keptOps() {
				t.Errorf("Step(%v, %v): the answer's cell shares memory", was, x)
			}
			then, a = Step(s, l[0])
			scribble(then)
			if !likeAnswer(a, told) || !kept() || !keptOps() {
				t.Errorf("Step(%v, %v): the state shares memory", was, x)
			}
			then, a = Step(s, l[0])
			scribble(s)
			scribbleOps(l)
			if !like(then, want) || !likeAnswer(a, told) {
				t.Errorf("Step(%v, %v): what was handed in is kept", was, x)
			}
		}
	}
}

func TestRunIsNewMemory(t *testing.T) {
	for _, was := range states() {
		for _, ops := range [][]api.Op{nil, few(), anyOps(50, 3), {doRead("m"), doRead("m"), doWrite("m", 1), doRead("m")}, slices.Repeat([]api.Op{doRead("a")}, 4)} {
			m := cellsOf(was)
			var told []api.Answer
			for _, x := range ops {
				told = append(told, done(m, x))
			}
			s, kept := guarded(was)
			l, keptOps := guardedOps(ops)
			then, answers := Run(s, l)
			for i := range answers {
				sample.Scribble(answers[i].Cell.Data)
				answers[i] = api.Answer{}
				if !slices.EqualFunc(answers[i+1:], told[i+1:], likeAnswer) || !like(then, stateOf(m)) {
					t.Fatalf("Run(%v, %v): the answer %d shares memory", was, ops, i)
				}
			}
			then, answers = Run(s, l)
			scribble(then)
			if !slices.EqualFunc(answers, told, likeAnswer) || !kept() || !keptOps() {
				t.Errorf("Run(%v, %v): the state shares memory", was, ops)
			}
			then, answers = Run(s, l)
			scribble(s)
			scribbleOps(l)
			if !like(then, stateOf(m)) || !slices.EqualFunc(answers, told, likeAnswer) {
				t.Errorf("Run(%v, %v): what was handed in is kept", was, ops)
			}
		}
	}
}

// No two lists of a state share memory.
func TestPairsAreApart(t *testing.T) {
	for _, was := range states() {
		then, _ := Run(was, []api.Op{doWrite("x", 1, 2), doWrite("y", 1, 2), doDrop("a"), doWrite("a", 9, 9)})
		want := twin(then)
		for i := range then {
			sample.Scribble(then[i].Cell.Data)
			then[i].Cell.Data, want[i].Cell.Data = nil, nil
			if !like(then, want) {
				t.Errorf("the list %d shares memory: %v, was %v", i, then, want)
			}
		}
	}
}

func TestFindAndPlainAreNewMemory(t *testing.T) {
	for _, was := range states() {
		for _, p := range was {
			s, kept := guarded(was)
			c, _ := Find(s, p.Key)
			other, _ := Find(s, p.Key)
			sample.Scribble(c.Data)
			if !kept() || !likeCell(other, p.Cell) {
				t.Errorf("Find(%v, %q) shares memory", was, p.Key)
			}
			scribble(s)
			if !likeCell(other, p.Cell) {
				t.Errorf("Find(%v, %q): what was handed in is kept", was, p.Key)
			}
		}
	}
	for _, n := range []int{0, 1, 2, 32, 33, 300} {
		x := doWrite("a", sample.Some(n)...)
		l, keptOps := guardedOps([]api.Op{x})
		y, z := Plain(l[0]), Plain(l[0])
		sample.Scribble(y.Data)
		if !keptOps() || !likeOp(z, x) {
			t.Errorf("Plain(%v) shares memory", x)
		}
		scribbleOps(l)
		if !likeOp(z, x) {
			t.Errorf("Plain(%v): what was handed in is kept", x)
		}
	}
}

func TestNilAndEmptyAreAlike(t *testing.T) {
	none, empty := sample.Record(), api.Cell{Kind: api.KindRecord, Data: []byte{}}
	same(t, nil, []api.Pair{}, true)
	same(t, only("a", none), only("a", empty), true)
	sameAnswer(t, api.Answer{Cell: none}, api.Answer{Cell: empty}, true)
	sameAnswer(t, api.Answer{}, api.Answer{Cell: api.Cell{Data: []byte{}}}, true)
	rights(t, true, pair("a", empty))
	rights(t, true, pair("a", api.Cell{Kind: api.KindCounter, Data: []byte{}}))
	for _, x := range everyOp() {
		s, a := Step(nil, x)
		u, b := Step([]api.Pair{}, x)
		if !like(s, u) || !likeAnswer(a, b) {
			t.Errorf("%v: %v, %v, and %v, %v", x, s, a, u, b)
		}
	}
	x, y := doWrite("a"), api.Op{Do: api.DoWrite, Key: "a", Data: []byte{}}
	turns(t, nil, x, pair("a", none))
	turns(t, nil, y, pair("a", none))
	plains(t, x, y)
	turns(t, only("a", api.Cell{Kind: api.KindCounter, Data: []byte{}, Hi: 5}), doInc("a", 5), pair("a", sample.Counter(0, 5, 5)))
}

// Answers hang on the arguments alone.
func TestCallsTellTheSameAgain(t *testing.T) {
	for _, s := range states() {
		for _, x := range few() {
			then, a := Step(s, x)
			for range 2 {
				u, b := Step(s, x)
				if !like(then, u) || !likeAnswer(a, b) || Check(x) != Check(x) || !likeOp(Plain(x), Plain(x)) {
					t.Errorf("Step(%v, %v) = %v, %v, and %v, %v", s, x, then, a, u, b)
				}
			}
		}
		then, told := Run(s, few())
		u, again := Run(s, few())
		if !like(then, u) || !slices.EqualFunc(told, again, likeAnswer) {
			t.Errorf("Run(%v) = %v, %v, and %v, %v", s, then, told, u, again)
		}
	}
}

func TestExample(t *testing.T) {
	s, a := Step(nil, doCreate("a", 0, 5, 3))
	if !like(s, only("a", sample.Counter(0, 5, 3))) || a.Err != api.OK {
		t.Errorf("%v, %v", s, a)
	}
	refuses(t, s, doInc("a", 3), api.ErrBounds)
}
