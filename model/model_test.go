package model

import (
	"bytes"
	"math"
	"math/big"
	"slices"
	"strings"
	"testing"

	"moneyer/api"
	"moneyer/sample"
)

// numbers gives numbers of 64 bits, rising.
func numbers() []int {
	return []int{math.MinInt, math.MinInt + 1, -257, -2, -1, 0, 1, 2, 5, 256, math.MaxInt - 1, math.MaxInt}
}

// full gives an operation that has every field, none of them zero.
func full(do int) api.Op {
	return api.Op{Do: do, Key: "k", Data: []byte{7, 0, 9}, Lo: -3, Hi: 12, N: 5}
}

// everyOp gives operations with all kinds of fields, that may be and that may
// not.
func everyOp() []api.Op {
	var l []api.Op
	ns := numbers()
	for _, do := range append(sample.Dos(), sample.OtherDos()...) {
		for i, n := range ns {
			lo, hi := ns[(i*5+do&3)%len(ns)], ns[(i*7+do&7)%len(ns)]
			for j, k := range []string{"a", "m", "m1", "z", "!", "0123456789abcdef", "", "a b", "m\x7f", strings.Repeat("m", 17)} {
				size := []int{0, 1, 2, 31, 32, 33, 255, 256, 288}[(i+j)%9]
				l = append(l, api.Op{Do: do, Key: k, Data: sample.Some(size), Lo: lo, Hi: hi, N: n})
				l = append(l, api.Op{Do: do, Key: k, Data: sample.Some(size), Lo: min(lo, n), Hi: max(hi, n), N: n})
				l = append(l, api.Op{Do: do, Key: k, Lo: -n, Hi: n, N: n & 3})
			}
		}
	}
	return l
}

// cellsOf gives what the keys of a state have.
func cellsOf(s []api.Pair) map[string]api.Cell {
	m := map[string]api.Cell{}
	for _, p := range s {
		m[p.Key] = p.Cell
	}
	return m
}

// mayBe tells whether x may be, field by field.
func mayBe(x api.Op) bool {
	if x.Do < 0 || x.Do > 5 || len(x.Key) < 1 || len(x.Key) > 16 {
		return false
	}
	for _, b := range []byte(x.Key) {
		if b < 33 || b > 126 {
			return false
		}
	}
	switch x.Do {
	case 1:
		return len(x.Data) <= 32
	case 2:
		return x.Lo <= x.N && x.N <= x.Hi
	case 4, 5:
		return x.N >= 0
	}
	return true
}

// done does x to m, as the chapter says it, and gives what it tells.
func done(m map[string]api.Cell, x api.Op) api.Answer {
	c, has := m[x.Key]
	switch {
	case !mayBe(x):
		return api.Answer{Err: api.ErrArg}
	case !has && x.Do != 1 && x.Do != 2:
		return api.Answer{Err: api.ErrNone}
	case has && x.Do == 2:
		return api.Answer{Err: api.ErrTaken}
	case has && (x.Do == 1 && c.Kind == 2 || x.Do >= 4 && c.Kind == 1):
		return api.Answer{Err: api.ErrKind}
	}
	switch x.Do {
	case 0:
		return api.Answer{Cell: c}
	case 1:
		m[x.Key] = sample.Record(x.Data...)
	case 2:
		m[x.Key] = sample.Counter(x.Lo, x.Hi, x.N)
	case 3:
		delete(m, x.Key)
	default:
		return counted(m, x)
	}
	return api.Answer{}
}

// counted does x, which adds to a counter of m or takes off from it.
func counted(m map[string]api.Cell, x api.Op) api.Answer {
	c := m[x.Key]
	by := big.NewInt(int64(x.N))
	if x.Do == 5 {
		by.Neg(by)
	}
	val := by.Add(by, big.NewInt(int64(c.Val)))
	if val.Cmp(big.NewInt(int64(c.Lo))) < 0 || val.Cmp(big.NewInt(int64(c.Hi))) > 0 {
		return api.Answer{Err: api.ErrBounds}
	}
	m[x.Key] = sample.Counter(c.Lo, c.Hi, int(val.Int64()))
	return api.Answer{}
}

// P9.1

// checks fails unless Check of x tells want.
func checks(t *testing.T, x api.Op, want api.Errno) {
	t.Helper()
	if got := Check(x); got != want {
		t.Errorf("Check(%v) = %d, want %d", x, got, want)
	}
}

func TestCheckOfDo(t *testing.T) {
	for _, do := range sample.Dos() {
		checks(t, full(do), api.OK)
		checks(t, api.Op{Do: do, Key: "a"}, api.OK)
	}
	for _, do := range sample.OtherDos() {
		checks(t, full(do), api.ErrArg)
		checks(t, api.Op{Do: do, Key: "a"}, api.ErrArg)
	}
	checks(t, api.Op{}, api.ErrArg)
}

func TestCheckOfKey(t *testing.T) {
	for _, do := range sample.Dos() {
		x := full(do)
		for _, x.Key = range sample.Keys() {
			checks(t, x, api.OK)
		}
		for _, x.Key = range sample.WrongKeys() {
			checks(t, x, api.ErrArg)
			checks(t, api.Op{Do: do, Key: x.Key}, api.ErrArg)
		}
	}
}

// How many bytes there are is asked of DoWrite alone.
func TestCheckOfData(t *testing.T) {
	for _, n := range []int{0, 1, 31, 32, 33, 34, 64, 255, 256, 257, 288, 512, 1 << 16, 1<<16 + 1, 1<<16 + 32} {
		for _, do := range sample.Dos() {
			x := full(do)
			x.Data = sample.Some(n)
			want := api.OK
			if do == api.DoWrite && n > 32 {
				want = api.ErrArg
			}
			checks(t, x, want)
		}
	}
	checks(t, sample.Write("a"), api.OK)
	checks(t, api.Op{Do: api.DoWrite, Key: "a", Data: []byte{}}, api.OK)
}

// The bounds are asked of DoCreate alone.
func TestCheckOfBounds(t *testing.T) {
	for _, lo := range numbers() {
		for _, n := range numbers() {
			for _, hi := range numbers() {
				want := api.ErrArg
				if lo <= n && n <= hi {
					want = api.OK
				}
				checks(t, sample.Create("a", lo, hi, n), want)
				for _, do := range []int{api.DoRead, api.DoWrite, api.DoDrop} {
					checks(t, api.Op{Do: do, Key: "a", Lo: lo, Hi: hi, N: n}, api.OK)
				}
				for _, do := range []int{api.DoInc, api.DoDec} {
					checks(t, api.Op{Do: do, Key: "a", Lo: lo, Hi: hi, N: 3}, api.OK)
				}
			}
		}
	}
	checks(t, sample.Create("a", 3, 3, 3), api.OK)
	checks(t, sample.Create("a", 4, 5, 3), api.ErrArg)
	checks(t, sample.Create("a", 0, 2, 3), api.ErrArg)
	checks(t, sample.Create("a", 5, 0, 3), api.ErrArg)
}

// That N is not below 0 is asked of DoInc and DoDec alone.
func TestCheckOfN(t *testing.T) {
	for _, n := range numbers() {
		want := api.OK
		if n < 0 {
			want = api.ErrArg
		}
		checks(t, sample.Inc("a", n), want)
		checks(t, sample.Dec("a", n), want)
		for _, do := range []int{api.DoRead, api.DoWrite, api.DoDrop} {
			checks(t, api.Op{Do: do, Key: "a", N: n}, api.OK)
		}
		checks(t, sample.Create("a", math.MinInt, math.MaxInt, n), api.OK)
	}
}

func TestCheckOfEveryOp(t *testing.T) {
	for _, x := range everyOp() {
		want := api.ErrArg
		if mayBe(x) {
			want = api.OK
		}
		checks(t, x, want)
	}
}

// plains fails unless Plain of x is just want, and Plain of that, too.
func plains(t *testing.T, x, want api.Op) {
	t.Helper()
	for _, y := range []api.Op{x, want} {
		if got := Plain(y); !sample.LikeOp(got, want) {
			t.Errorf("Plain(%v) = %v, want %v", y, got, want)
		}
	}
}

func TestPlain(t *testing.T) {
	plains(t, full(api.DoRead), sample.Read("k"))
	plains(t, full(api.DoWrite), sample.Write("k", 7, 0, 9))
	plains(t, full(api.DoCreate), sample.Create("k", -3, 12, 5))
	plains(t, full(api.DoDrop), sample.Drop("k"))
	plains(t, full(api.DoInc), sample.Inc("k", 5))
	plains(t, full(api.DoDec), sample.Dec("k", 5))
	for _, do := range sample.OtherDos() {
		plains(t, full(do), api.Op{Do: do, Key: "k"})
	}
	plains(t, api.Op{}, api.Op{})
	for _, do := range append(sample.Dos(), sample.OtherDos()...) {
		plains(t, api.Op{Do: do}, api.Op{Do: do})
		plains(t, api.Op{Do: do, Key: "k"}, api.Op{Do: do, Key: "k"})
	}
}

// Whether an operation may be is of no matter.
func TestPlainOfEveryOp(t *testing.T) {
	for _, x := range everyOp() {
		want := api.Op{Do: x.Do, Key: x.Key}
		switch x.Do {
		case 1:
			want.Data = x.Data
		case 2:
			want.Lo, want.Hi, want.N = x.Lo, x.Hi, x.N
		case 4, 5:
			want.N = x.N
		}
		plains(t, x, want)
	}
}

// Fields that the Do does not name are of no matter.
func TestPlainDoesTheSame(t *testing.T) {
	for _, x := range everyOp() {
		checks(t, Plain(x), Check(x))
	}
	for _, s := range sample.States() {
		for _, do := range append(sample.Dos(), -1, 6) {
			x := full(do)
			for _, x.Key = range []string{"a", "m", "z"} {
				then, told := behind(s, x)
				steps(t, s, x, then, told)
				steps(t, s, Plain(x), then, told)
			}
		}
	}
}

// P9.2

// behind gives the state behind x, done to s, and what it tells.
func behind(s []api.Pair, x api.Op) ([]api.Pair, api.Answer) {
	m := cellsOf(s)
	told := done(m, x)
	return sample.StateOf(m), told
}

// steps fails unless Step of s and x is just then and told.
func steps(t *testing.T, s []api.Pair, x api.Op, then []api.Pair, told api.Answer) {
	t.Helper()
	got, a := Step(s, x)
	if !sample.LikeState(got, then) || !sample.LikeAnswer(a, told) {
		t.Errorf("Step(%v, %v) = %v, %v, want %v, %v", s, x, got, a, then, told)
	}
	if (told.Err != api.OK || x.Do != api.DoRead) && a.Cell.Data != nil {
		t.Errorf("Step(%v, %v): a list beside %d", s, x, told.Err)
	}
}

// refuses fails unless Step of s and x tells err, and leaves s as it is.
func refuses(t *testing.T, s []api.Pair, x api.Op, err api.Errno) {
	t.Helper()
	steps(t, s, x, sample.Twin(s), api.Answer{Err: err})
}

// turns fails unless x, done to s, has no error, and the state is then this one.
func turns(t *testing.T, s []api.Pair, x api.Op, then ...api.Pair) {
	t.Helper()
	steps(t, s, x, then, api.Answer{})
}

// about gives states in which k has c, if it has something: alone, and ahead
// of, between and behind others.
func about(k string, c api.Cell) [][]api.Pair {
	rec, cnt := sample.Record(9), sample.Counter(1, 9, 4)
	low := []api.Pair{sample.Pair("!", rec), sample.Pair("Zz", cnt)}
	high := []api.Pair{sample.Pair(k+"!", cnt), sample.Pair("~", rec)}
	var l [][]api.Pair
	for _, x := range [][]api.Pair{nil, low[:1], low[1:], low} {
		for _, y := range [][]api.Pair{nil, high[:1], high[1:], high} {
			l = append(l, around(x, k, c, y))
		}
	}
	return l
}

// around gives a state of x, what k has, if it has something, and y.
func around(x []api.Pair, k string, c api.Cell, y []api.Pair) []api.Pair {
	if c.Kind == api.KindNone {
		return slices.Concat(x, y)
	}
	return slices.Concat(x, sample.Only(k, c), y)
}

// turnsAbout fails unless x makes c of what its key has, wherever that stands.
func turnsAbout(t *testing.T, had api.Cell, x api.Op, c api.Cell) {
	t.Helper()
	then := about(x.Key, c)
	for i, s := range about(x.Key, had) {
		turns(t, s, x, then[i]...)
	}
}

// refusesAbout fails unless x is told err, wherever what its key has stands.
func refusesAbout(t *testing.T, had api.Cell, x api.Op, err api.Errno) {
	t.Helper()
	for _, s := range about(x.Key, had) {
		refuses(t, s, x, err)
	}
}

// things gives what a key may have: a record, a counter.
func things() []api.Cell {
	return []api.Cell{
		sample.Record(), sample.Record(0), sample.Record('a', 'b'), sample.Record(sample.Some(32)...),
		sample.Counter(0, 0, 0), sample.Counter(0, 5, 3), sample.Counter(-7, -3, -5), sample.Counter(math.MinInt, math.MaxInt, 0),
	}
}

func TestStepOfRead(t *testing.T) {
	refusesAbout(t, api.Cell{}, sample.Read("m"), api.ErrNone)
	for _, c := range append(things(), sample.Cells()...) {
		for _, s := range about("m", c) {
			steps(t, s, sample.Read("m"), s, api.Answer{Cell: c})
			refuses(t, s, sample.Read("m0"), api.ErrNone)
			refuses(t, s, sample.Read("l"), api.ErrNone)
		}
	}
}

func TestStepOfWrite(t *testing.T) {
	for _, data := range [][]byte{nil, {}, {0}, {1, 2, 3}, sample.Some(31), sample.Some(32), make([]byte, 32)} {
		x := sample.Write("m", data...)
		turnsAbout(t, api.Cell{}, x, sample.Record(data...))
		for _, c := range things() {
			if c.Kind == api.KindCounter {
				refusesAbout(t, c, x, api.ErrKind)
			} else {
				turnsAbout(t, c, x, sample.Record(data...))
			}
		}
	}
}

func TestStepOfCreate(t *testing.T) {
	for _, c := range sample.Cells() {
		if c.Kind == api.KindCounter {
			turnsAbout(t, api.Cell{}, sample.Create("m", c.Lo, c.Hi, c.Val), c)
		}
	}
	for _, c := range things() {
		refusesAbout(t, c, sample.Create("m", 0, 5, 3), api.ErrTaken)
		refusesAbout(t, c, sample.Create("m", c.Lo, c.Hi, c.Val), api.ErrTaken)
	}
}

func TestStepOfDrop(t *testing.T) {
	refusesAbout(t, api.Cell{}, sample.Drop("m"), api.ErrNone)
	for _, c := range append(things(), sample.Cells()...) {
		turnsAbout(t, c, sample.Drop("m"), api.Cell{})
	}
}

func TestStepOfIncAndDec(t *testing.T) {
	for _, n := range []int{0, 1, math.MaxInt} {
		for _, x := range []api.Op{sample.Inc("m", n), sample.Dec("m", n)} {
			refusesAbout(t, api.Cell{}, x, api.ErrNone)
			for _, c := range things() {
				if c.Kind == api.KindRecord {
					refusesAbout(t, c, x, api.ErrKind)
				}
			}
		}
	}
	c := sample.Counter(-1, 5, 3)
	for n := range 10 {
		if n <= 2 {
			turnsAbout(t, c, sample.Inc("m", n), sample.Counter(-1, 5, 3+n))
		} else {
			refusesAbout(t, c, sample.Inc("m", n), api.ErrBounds)
		}
		if n <= 4 {
			turnsAbout(t, c, sample.Dec("m", n), sample.Counter(-1, 5, 3-n))
		} else {
			refusesAbout(t, c, sample.Dec("m", n), api.ErrBounds)
		}
	}
}

// Sums that go round would be within the bounds again.
func TestStepOfGreatNumbers(t *testing.T) {
	const least, most = math.MinInt, math.MaxInt
	for _, x := range []struct {
		val     int
		x       api.Op
		lo, hi  int
		then    int
		refused bool
	}{
		{val: most, x: sample.Inc("m", 0), lo: least, hi: most, then: most},
		{val: most, x: sample.Inc("m", 1), lo: least, hi: most, refused: true},
		{val: most, x: sample.Inc("m", most), lo: least, hi: most, refused: true},
		{val: 1, x: sample.Inc("m", most), lo: least, hi: most, refused: true},
		{val: 1, x: sample.Inc("m", most-1), lo: least, hi: most, then: most},
		{val: 0, x: sample.Inc("m", most), lo: least, hi: most, then: most},
		{val: least, x: sample.Inc("m", most), lo: least, hi: most, then: -1},
		{val: most, x: sample.Dec("m", most), lo: least, hi: most, then: 0},
		{val: least, x: sample.Dec("m", 0), lo: least, hi: most, then: least},
		{val: least, x: sample.Dec("m", 1), lo: least, hi: most, refused: true},
		{val: least, x: sample.Dec("m", most), lo: least, hi: most, refused: true},
		{val: -2, x: sample.Dec("m", most), lo: least, hi: most, refused: true},
		{val: -1, x: sample.Dec("m", most), lo: least, hi: most, then: least},
		{val: 5, x: sample.Inc("m", most), lo: least, hi: 5, refused: true},
		{val: -5, x: sample.Dec("m", most), lo: -5, hi: most, refused: true},
		{val: most, x: sample.Inc("m", 0), lo: most, hi: most, then: most},
		{val: most, x: sample.Dec("m", 1), lo: most, hi: most, refused: true},
		{val: least, x: sample.Inc("m", 1), lo: least, hi: least, refused: true},
	} {
		c := sample.Counter(x.lo, x.hi, x.val)
		if x.refused {
			refusesAbout(t, c, x.x, api.ErrBounds)
		} else {
			turnsAbout(t, c, x.x, sample.Counter(x.lo, x.hi, x.then))
		}
	}
}

func TestStepOfAnyCounter(t *testing.T) {
	ns := numbers()
	for i, lo := range ns {
		for j, val := range ns[i:] {
			for _, hi := range ns[i+j:] {
				for _, n := range ns {
					for _, x := range []api.Op{sample.Inc("m", n), sample.Dec("m", n)} {
						s := sample.Only("m", sample.Counter(lo, hi, val))
						then, told := behind(s, x)
						steps(t, s, x, then, told)
					}
				}
			}
		}
	}
}

// An operation that may not be is told that first.
func TestStepTellsChecksErrorFirst(t *testing.T) {
	rec, cnt := sample.Record(1), sample.Counter(0, 5, 3)
	for _, c := range []api.Cell{{}, rec, cnt} {
		refusesAbout(t, c, sample.Write("m", sample.Some(33)...), api.ErrArg)
		refusesAbout(t, c, sample.Create("m", 4, 5, 3), api.ErrArg)
		refusesAbout(t, c, sample.Create("m", 0, 2, 3), api.ErrArg)
		refusesAbout(t, c, sample.Inc("m", -1), api.ErrArg)
		refusesAbout(t, c, sample.Dec("m", -1), api.ErrArg)
		refusesAbout(t, c, sample.Inc("m", math.MinInt), api.ErrArg)
		refusesAbout(t, c, sample.Dec("m", math.MinInt), api.ErrArg)
		for _, do := range sample.OtherDos() {
			refusesAbout(t, c, full(do), api.ErrArg)
			refusesAbout(t, c, api.Op{Do: do, Key: "m"}, api.ErrArg)
		}
	}
	for _, k := range sample.WrongKeys() {
		for _, do := range sample.Dos() {
			for _, s := range sample.States() {
				refuses(t, s, api.Op{Do: do, Key: k, Data: sample.Some(2), Hi: 5, N: 3}, api.ErrArg)
			}
		}
	}
}

func TestStepOfEveryOp(t *testing.T) {
	for _, s := range sample.States() {
		for _, x := range everyOp() {
			then, told := behind(s, x)
			steps(t, s, x, then, told)
		}
	}
}

// A key is put where it belongs, byte by byte.
func TestStepKeepsTheOrder(t *testing.T) {
	ks := sample.Keys()
	for by := range len(ks) {
		m := map[string]api.Cell{}
		var s []api.Pair
		for i := range ks {
			k := ks[(i*7+by)%len(ks)]
			x := sample.Write(k, byte(i))
			m[k] = sample.Record(byte(i))
			turns(t, s, x, sample.StateOf(m)...)
			s, _ = Step(s, x)
		}
		for i := range ks {
			k := ks[(i*11+by)%len(ks)]
			delete(m, k)
			turns(t, s, sample.Drop(k), sample.StateOf(m)...)
			s, _ = Step(s, sample.Drop(k))
		}
		if len(s) != 0 {
			t.Errorf("%v is left", s)
		}
	}
}

// Of lists that are no states nothing is asked but an end.
func TestStepOfNoStateEnds(t *testing.T) {
	l := everyOp()
	for i, s := range sample.WrongStates() {
		for j := i % 7; j < len(l); j += 7 {
			Step(s, l[j])
		}
		for _, do := range sample.Dos() {
			for _, p := range s {
				Step(s, api.Op{Do: do, Key: p.Key, N: 1, Hi: 1})
			}
			Step(s, full(do))
		}
		Run(s, l[i*50:i*50+50])
	}
}

// runs fails unless Run of s and l is what one Step behind the other is, and what
// the chapter says.
func runs(t *testing.T, s []api.Pair, l ...api.Op) {
	t.Helper()
	m := cellsOf(s)
	state := s
	var told []api.Answer
	for _, x := range l {
		told = append(told, done(m, x))
		then, a := Step(state, x)
		if !sample.LikeState(then, sample.StateOf(m)) || !sample.LikeAnswer(a, told[len(told)-1]) {
			t.Errorf("Step(%v, %v) = %v, %v, want %v, %v", state, x, then, a, sample.StateOf(m), told[len(told)-1])
		}
		state = then
	}
	got, answers := Run(s, l)
	if !sample.LikeState(got, state) || !slices.EqualFunc(answers, told, sample.LikeAnswer) {
		t.Errorf("Run(%v, %v) = %v, %v, want %v, %v", s, l, got, answers, state, told)
	}
}

func TestRun(t *testing.T) {
	for _, s := range sample.States() {
		runs(t, s)
		runs(t, s, []api.Op{}...)
		for _, x := range sample.FewOps() {
			runs(t, s, x)
			runs(t, s, x, x)
			runs(t, s, x, sample.Read(x.Key))
		}
		runs(t, s, sample.FewOps()...)
		l := sample.FewOps()
		slices.Reverse(l)
		runs(t, s, l...)
	}
}

func TestRunTellsOneAnswerEach(t *testing.T) {
	l := []api.Op{sample.Read("a"), sample.Write("a", 1), sample.Read("a"), sample.Inc("a", 1), sample.Drop("a"), sample.Read("a"), {Do: 9}}
	s, told := Run(nil, l)
	want := []api.Answer{{Err: api.ErrNone}, {}, {Cell: sample.Record(1)}, {Err: api.ErrKind}, {}, {Err: api.ErrNone}, {Err: api.ErrArg}}
	if len(s) != 0 || !slices.EqualFunc(told, want, sample.LikeAnswer) {
		t.Errorf("%v, %v, want %v", s, told, want)
	}
	s, told = Run(sample.Only("a", sample.Record(1)), nil)
	if !sample.LikeState(s, sample.Only("a", sample.Record(1))) || len(told) != 0 {
		t.Errorf("%v, %v", s, told)
	}
}

func TestRunOfManyOps(t *testing.T) {
	for seed := range 20 {
		for _, s := range [][]api.Pair{nil, sample.GreatState()} {
			runs(t, s, sample.AnyOps(300, seed)...)
		}
	}
}

// P9.3

// finds fails unless Find of s and k tells just c and has.
func finds(t *testing.T, s []api.Pair, k string, c api.Cell, has bool) {
	t.Helper()
	got, ok := Find(s, k)
	if !sample.LikeCell(got, c) || ok != has || !ok && got.Data != nil {
		t.Errorf("Find(%v, %q) = %v, %t, want %v, %t", s, k, got, ok, c, has)
	}
}

func TestFind(t *testing.T) {
	for _, s := range append(sample.States(), sample.WrongStates()...) {
		for _, k := range append(append(sample.Keys(), sample.WrongKeys()...), "m", "m1", "z", "n", "l", "M", "m\x00") {
			i := slices.IndexFunc(s, func(p api.Pair) bool { return p.Key == k })
			if i < 0 {
				finds(t, s, k, api.Cell{}, false)
			} else {
				finds(t, s, k, s[i].Cell, true)
			}
		}
	}
	for _, c := range append(sample.Cells(), sample.WrongCells()...) {
		for _, s := range [][]api.Pair{sample.Only("m", c), {sample.Pair("a", sample.Record(9)), sample.Pair("m", c), sample.Pair("z", sample.Record(8))}, {sample.Pair("z", sample.Record(9)), sample.Pair("m", c)}} {
			finds(t, s, "m", c, true)
			finds(t, s, "", api.Cell{}, false)
			finds(t, s, "mm", api.Cell{}, false)
			finds(t, s, "l", api.Cell{}, false)
		}
	}
}

// The first one with the key counts.
func TestFindOfAKeyThatStandsTwice(t *testing.T) {
	one, two := sample.Record(1), sample.Counter(0, 5, 3)
	finds(t, []api.Pair{sample.Pair("a", one), sample.Pair("a", two)}, "a", one, true)
	finds(t, []api.Pair{sample.Pair("a", two), sample.Pair("a", one)}, "a", two, true)
	finds(t, []api.Pair{sample.Pair("b", two), sample.Pair("a", one), sample.Pair("c", two), sample.Pair("a", two)}, "a", one, true)
	finds(t, []api.Pair{sample.Pair("", two), sample.Pair("", one)}, "", two, true)
	finds(t, []api.Pair{{}, sample.Pair("", one)}, "", api.Cell{}, true)
	finds(t, slices.Repeat(sample.Only("a", two), 100), "a", two, true)
	finds(t, append(sample.Only("a", one), slices.Repeat(sample.Only("a", two), 100)...), "a", one, true)
	finds(t, append(slices.Repeat(sample.Only("z", two), 100), sample.Pair("a", one)), "a", one, true)
}

// same fails unless Same of a and b, and of b and a, tells want.
func same(t *testing.T, a, b []api.Pair, want bool) {
	t.Helper()
	if Same(a, b) != want || Same(b, a) != want {
		t.Errorf("Same(%v, %v), want %t", a, b, want)
	}
}

func TestSame(t *testing.T) {
	all := append(sample.States(), sample.WrongStates()...)
	for _, a := range all {
		same(t, a, sample.Twin(a), true)
		for _, b := range all {
			same(t, a, b, sample.LikeState(a, b))
		}
	}
}

// unlike gives cells that are unlike c in one field each.
func unlike(c api.Cell) []api.Cell {
	var l []api.Cell
	for _, by := range []int{1, -1, 256, 1 << 32, math.MinInt} {
		for i := range 4 {
			x := c
			*[]*int{&x.Kind, &x.Lo, &x.Hi, &x.Val}[i] += by
			l = append(l, x)
		}
	}
	for i := range c.Data {
		x := c
		x.Data = bytes.Clone(c.Data)
		x.Data[i] ^= 0x80
		l = append(l, x)
	}
	longer, none := c, c
	longer.Data = append(bytes.Clone(c.Data), 0)
	if none.Data = nil; len(c.Data) > 0 {
		l = append(l, none)
	}
	return append(l, longer)
}

func TestSameOfUnlikeFields(t *testing.T) {
	for _, c := range append(sample.Cells(), sample.WrongCells()...) {
		s := []api.Pair{sample.Pair("a", c), sample.Pair("m", c), sample.Pair("z", c)}
		for i := range s {
			for _, x := range unlike(c) {
				u := sample.Twin(s)
				u[i].Cell = x
				same(t, s, u, false)
				same(t, s[i:i+1], u[i:i+1], false)
			}
			for _, k := range []string{"", "b", "A", "aa", "mm", "m ", "m\x00"} {
				u := sample.Twin(s)
				u[i].Key = k
				same(t, s, u, false)
			}
		}
		same(t, s, s[:2], false)
		same(t, s, s[1:], false)
		same(t, s, nil, false)
		same(t, s, append(sample.Twin(s), api.Pair{}), false)
		same(t, s, append(sample.Twin(s), s[2]), false)
		same(t, s, []api.Pair{s[0], s[2], s[1]}, false)
		same(t, s, []api.Pair{s[1], s[0], s[2]}, false)
	}
	same(t, sample.Only("a", api.Cell{}), nil, false)
	same(t, []api.Pair{{}}, []api.Pair{}, false)
	same(t, []api.Pair{{}}, []api.Pair{{}, {}}, false)
}

// sameAnswer fails unless SameAnswer of a and b, and of b and a, tells want.
func sameAnswer(t *testing.T, a, b api.Answer, want bool) {
	t.Helper()
	if SameAnswer(a, b) != want || SameAnswer(b, a) != want {
		t.Errorf("SameAnswer(%v, %v), want %t", a, b, want)
	}
}

func TestSameAnswer(t *testing.T) {
	var all []api.Answer
	for _, c := range append(sample.Cells(), sample.WrongCells()...) {
		for _, err := range []api.Errno{api.OK, api.ErrArg, api.ErrNone, api.ErrState, -1, 1 << 32} {
			a := api.Answer{Err: err, Cell: c}
			all = append(all, a)
			for _, x := range unlike(c) {
				sameAnswer(t, a, api.Answer{Err: err, Cell: x}, false)
			}
			c.Data = bytes.Clone(c.Data)
			sameAnswer(t, a, api.Answer{Err: err, Cell: c}, true)
			sameAnswer(t, a, api.Answer{Err: err + 1, Cell: c}, false)
			sameAnswer(t, a, api.Answer{Err: err + 256, Cell: c}, false)
		}
	}
	for _, a := range all {
		for _, b := range all {
			sameAnswer(t, a, b, sample.LikeAnswer(a, b))
		}
	}
}

// rights fails unless Right of s tells want.
func rights(t *testing.T, want bool, s ...api.Pair) {
	t.Helper()
	if Right(s) != want {
		t.Errorf("Right(%v), want %t", s, want)
	}
}

func TestRight(t *testing.T) {
	rights(t, true)
	rights(t, true, []api.Pair{}...)
	for _, s := range sample.States() {
		rights(t, true, s...)
	}
	for _, s := range sample.WrongStates() {
		rights(t, false, s...)
	}
	for _, k := range sample.Keys() {
		for _, c := range sample.Cells() {
			rights(t, true, sample.Pair(k, c))
		}
		for _, c := range sample.WrongCells() {
			rights(t, false, sample.Pair(k, c))
		}
	}
	for _, k := range sample.WrongKeys() {
		for _, c := range sample.Cells() {
			rights(t, false, sample.Pair(k, c))
		}
	}
}

// Keys rise byte by byte, not by length.
func TestRightOfTheOrder(t *testing.T) {
	c := sample.Record(1)
	texts := append(sample.Keys(), "aa", "aB", "Aa", "bb", "a!", "a~", "0", "9", "~!", "zzzzzzzzzzzzzzzz")
	for _, j := range texts {
		for _, k := range texts {
			rights(t, j < k, sample.Pair(j, c), sample.Pair(k, c))
			rights(t, j < k && k < "~~~~~~~~~~~~~~~~", sample.Pair(j, c), sample.Pair(k, c), sample.Pair("~~~~~~~~~~~~~~~~", c))
			rights(t, "!" < j && j < k, sample.Pair("!", c), sample.Pair(j, c), sample.Pair(k, c))
		}
	}
	rights(t, true, sample.Pair("aaa", c), sample.Pair("b", c))
	rights(t, false, sample.Pair("b", c), sample.Pair("aaa", c))
	rights(t, true, sample.Pair("a", c), sample.Pair("aa", c), sample.Pair("b", c), sample.Pair("ba", c))
	rights(t, false, sample.Pair("a", c), sample.Pair("b", c), sample.Pair("aa", c), sample.Pair("ba", c))
}

// One that may not be is enough, wherever it stands.
func TestRightOfOneWrongPair(t *testing.T) {
	s := sample.GreatState()
	for i := range s {
		for _, c := range sample.WrongCells() {
			u := slices.Clone(s)
			u[i].Cell = c
			rights(t, false, u...)
		}
		u := slices.Clone(s)
		u[i].Key += "\x7f"
		rights(t, false, u...)
		u = slices.Insert(slices.Clone(s), i, s[i])
		rights(t, false, u...)
		rights(t, true, slices.Delete(slices.Clone(s), i, i+1)...)
	}
}

// P9.4

// What is Right stays so, and each counter stays within its bounds, which only
// DoCreate sets.
func TestWhatIsRightStaysSo(t *testing.T) {
	for seed := range 20 {
		for _, s := range sample.States() {
			for _, x := range sample.AnyOps(200, 100+seed) {
				then, told := Step(s, x)
				if !Right(then) || told.Err != api.OK && !sample.LikeState(s, then) {
					t.Fatalf("Step(%v, %v) = %v, %v", s, x, then, told)
				}
				for _, p := range then {
					bounded(t, s, x, p)
				}
				s = then
			}
		}
	}
}

// bounded fails unless what p has, behind x was done to s, is within its bounds,
// and these are as they were.
func bounded(t *testing.T, s []api.Pair, x api.Op, p api.Pair) {
	t.Helper()
	c := p.Cell
	if c.Kind == api.KindRecord && len(c.Data) <= api.MaxData {
		return
	}
	had, has := Find(s, p.Key)
	created := !has && x.Do == api.DoCreate && x.Key == p.Key && c.Lo == x.Lo && c.Hi == x.Hi
	if c.Kind != api.KindCounter || c.Val < c.Lo || c.Val > c.Hi || !created && (had.Kind != c.Kind || had.Lo != c.Lo || had.Hi != c.Hi) {
		t.Errorf("%v, behind %v was done to %v", p, x, s)
	}
}

func TestRunStaysRight(t *testing.T) {
	for seed := range 50 {
		for _, s := range sample.States() {
			if then, _ := Run(s, sample.AnyOps(100, 500+seed)); !Right(then) {
				t.Errorf("%v, behind %d operations on %v", then, 100, s)
			}
		}
	}
	var s []api.Pair
	for _, x := range everyOp() {
		if s, _ = Step(s, x); !Right(s) {
			t.Fatalf("%v, behind %v", s, x)
		}
	}
}

// Memory

// scribble writes over all memory of s, its spare room too.
func scribble(s []api.Pair) {
	s = s[:cap(s)]
	for i := range s {
		sample.Scribble(s[i].Cell.Data)
		s[i] = sample.Pair("scribble", api.Cell{Kind: 9, Data: []byte{9}})
	}
}

// scribbleOps writes over all memory of l, its spare room too.
func scribbleOps(l []api.Op) {
	l = l[:cap(l)]
	for i := range l {
		sample.Scribble(l[i].Data)
		l[i] = full(9)
	}
}

func TestWhatIsHandedInStaysAsItWas(t *testing.T) {
	for _, was := range append(sample.States(), sample.WrongStates()...) {
		s, kept := sample.RoomyState(was)
		l, keptOps := sample.RoomyOps(append(sample.FewOps(), sample.AnyOps(20, len(was))...))
		for _, x := range l {
			Check(x)
			Plain(x)
			Step(s, x)
			if !kept() || !keptOps() {
				t.Fatalf("Step: %v and %v, was %v", s, x, was)
			}
			Find(s, x.Key)
		}
		Run(s, l)
		Run(s, l[:1])
		Same(s, was)
		Right(s)
		SameAnswer(api.Answer{Cell: sample.Record(1)}, api.Answer{Cell: sample.Record(2)})
		if !kept() || !keptOps() {
			t.Errorf("%v and %v, was %v", s, l, was)
		}
	}
}

// What Step answers has nothing of what was handed in, nor one part of it of the
// other.
func TestStepIsNewMemory(t *testing.T) {
	for _, was := range sample.States() {
		for _, x := range append(sample.FewOps(), sample.Read("m"), sample.Read("z"), sample.Write("z", 1, 2), sample.Write("m", 3), sample.Drop("m"), sample.Inc("m", 0), sample.Write("!", 4)) {
			want, told := behind(was, x)
			s, kept := sample.RoomyState(was)
			l, keptOps := sample.RoomyOps([]api.Op{x})
			then, a := Step(s, l[0])
			sample.Scribble(a.Cell.Data)
			if !sample.LikeState(then, want) || !kept() || !keptOps() {
				t.Errorf("Step(%v, %v): the answer's cell shares memory", was, x)
			}
			then, a = Step(s, l[0])
			scribble(then)
			if !sample.LikeAnswer(a, told) || !kept() || !keptOps() {
				t.Errorf("Step(%v, %v): the state shares memory", was, x)
			}
			then, a = Step(s, l[0])
			scribble(s)
			scribbleOps(l)
			if !sample.LikeState(then, want) || !sample.LikeAnswer(a, told) {
				t.Errorf("Step(%v, %v): what was handed in is kept", was, x)
			}
		}
	}
}

func TestRunIsNewMemory(t *testing.T) {
	for _, was := range sample.States() {
		for _, ops := range [][]api.Op{nil, sample.FewOps(), sample.AnyOps(50, 3), {sample.Read("m"), sample.Read("m"), sample.Write("m", 1), sample.Read("m")}, slices.Repeat([]api.Op{sample.Read("a")}, 4)} {
			m := cellsOf(was)
			var told []api.Answer
			for _, x := range ops {
				told = append(told, done(m, x))
			}
			s, kept := sample.RoomyState(was)
			l, keptOps := sample.RoomyOps(ops)
			then, answers := Run(s, l)
			for i := range answers {
				sample.Scribble(answers[i].Cell.Data)
				answers[i] = api.Answer{}
				if !slices.EqualFunc(answers[i+1:], told[i+1:], sample.LikeAnswer) || !sample.LikeState(then, sample.StateOf(m)) {
					t.Fatalf("Run(%v, %v): the answer %d shares memory", was, ops, i)
				}
			}
			then, answers = Run(s, l)
			scribble(then)
			if !slices.EqualFunc(answers, told, sample.LikeAnswer) || !kept() || !keptOps() {
				t.Errorf("Run(%v, %v): the state shares memory", was, ops)
			}
			then, answers = Run(s, l)
			scribble(s)
			scribbleOps(l)
			if !sample.LikeState(then, sample.StateOf(m)) || !slices.EqualFunc(answers, told, sample.LikeAnswer) {
				t.Errorf("Run(%v, %v): what was handed in is kept", was, ops)
			}
		}
	}
}

// No two lists of a state share memory.
func TestPairsAreApart(t *testing.T) {
	for _, was := range sample.States() {
		then, _ := Run(was, []api.Op{sample.Write("x", 1, 2), sample.Write("y", 1, 2), sample.Drop("a"), sample.Write("a", 9, 9)})
		want := sample.Twin(then)
		for i := range then {
			sample.Scribble(then[i].Cell.Data)
			then[i].Cell.Data, want[i].Cell.Data = nil, nil
			if !sample.LikeState(then, want) {
				t.Errorf("the list %d shares memory: %v, was %v", i, then, want)
			}
		}
	}
}

func TestFindAndPlainAreNewMemory(t *testing.T) {
	for _, was := range sample.States() {
		for _, p := range was {
			s, kept := sample.RoomyState(was)
			c, _ := Find(s, p.Key)
			other, _ := Find(s, p.Key)
			sample.Scribble(c.Data)
			if !kept() || !sample.LikeCell(other, p.Cell) {
				t.Errorf("Find(%v, %q) shares memory", was, p.Key)
			}
			scribble(s)
			if !sample.LikeCell(other, p.Cell) {
				t.Errorf("Find(%v, %q): what was handed in is kept", was, p.Key)
			}
		}
	}
	for _, n := range []int{0, 1, 2, 32, 33, 300} {
		x := sample.Write("a", sample.Some(n)...)
		l, keptOps := sample.RoomyOps([]api.Op{x})
		y, z := Plain(l[0]), Plain(l[0])
		sample.Scribble(y.Data)
		if !keptOps() || !sample.LikeOp(z, x) {
			t.Errorf("Plain(%v) shares memory", x)
		}
		scribbleOps(l)
		if !sample.LikeOp(z, x) {
			t.Errorf("Plain(%v): what was handed in is kept", x)
		}
	}
}

func TestNilAndEmptyAreAlike(t *testing.T) {
	none, empty := sample.Record(), api.Cell{Kind: api.KindRecord, Data: []byte{}}
	same(t, nil, []api.Pair{}, true)
	same(t, sample.Only("a", none), sample.Only("a", empty), true)
	sameAnswer(t, api.Answer{Cell: none}, api.Answer{Cell: empty}, true)
	sameAnswer(t, api.Answer{}, api.Answer{Cell: api.Cell{Data: []byte{}}}, true)
	rights(t, true, sample.Pair("a", empty))
	rights(t, true, sample.Pair("a", api.Cell{Kind: api.KindCounter, Data: []byte{}}))
	for _, x := range everyOp() {
		s, a := Step(nil, x)
		u, b := Step([]api.Pair{}, x)
		if !sample.LikeState(s, u) || !sample.LikeAnswer(a, b) {
			t.Errorf("%v: %v, %v, and %v, %v", x, s, a, u, b)
		}
	}
	x, y := sample.Write("a"), api.Op{Do: api.DoWrite, Key: "a", Data: []byte{}}
	turns(t, nil, x, sample.Pair("a", none))
	turns(t, nil, y, sample.Pair("a", none))
	plains(t, x, y)
	turns(t, sample.Only("a", api.Cell{Kind: api.KindCounter, Data: []byte{}, Hi: 5}), sample.Inc("a", 5), sample.Pair("a", sample.Counter(0, 5, 5)))
}

// Answers hang on the arguments alone.
func TestCallsTellTheSameAgain(t *testing.T) {
	for _, s := range sample.States() {
		for _, x := range sample.FewOps() {
			then, a := Step(s, x)
			for range 2 {
				u, b := Step(s, x)
				if !sample.LikeState(then, u) || !sample.LikeAnswer(a, b) || Check(x) != Check(x) || !sample.LikeOp(Plain(x), Plain(x)) {
					t.Errorf("Step(%v, %v) = %v, %v, and %v, %v", s, x, then, a, u, b)
				}
			}
		}
		then, told := Run(s, sample.FewOps())
		u, again := Run(s, sample.FewOps())
		if !sample.LikeState(then, u) || !slices.EqualFunc(told, again, sample.LikeAnswer) {
			t.Errorf("Run(%v) = %v, %v, and %v, %v", s, then, told, u, again)
		}
	}
}

func TestExample(t *testing.T) {
	s, a := Step(nil, sample.Create("a", 0, 5, 3))
	if !sample.LikeState(s, sample.Only("a", sample.Counter(0, 5, 3))) || a.Err != api.OK {
		t.Errorf("%v, %v", s, a)
	}
	refuses(t, s, sample.Inc("a", 3), api.ErrBounds)
}
