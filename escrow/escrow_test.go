package escrow

import (
	"math"
	"math/big"
	"slices"
	"strings"
	"testing"

	"moneyer/api"
	"moneyer/sample"
	"moneyer/wide"
)

const least, most = math.MinInt, math.MaxInt

const inc, dec = api.DoInc, api.DoDec

// note is one call of Note.
type note struct {
	txn int
	key string
	do  int
	n   int
}

// book is a ledger as the chapter's words tell it: all that was noted, and is not
// cleared.
type book []note

// may tells whether x may be noted.
func (x note) may() bool {
	return (x.do == 4 || x.do == 5) && x.n >= 0
}

// without gives b without those of which gone tells true.
func (b book) without(gone func(x note) bool) book {
	return slices.DeleteFunc(slices.Clone(b), gone)
}

// cleared gives b behind Clear.
func (b book) cleared(txn int, k string) book {
	return b.without(func(x note) bool { return x.txn == txn && x.key == k })
}

// ended gives b behind End.
func (b book) ended(txn int) book {
	return b.without(func(x note) bool { return x.txn == txn })
}

// total gives all that is pending of k by this do.
func (b book) total(k string, do int) *big.Int {
	sum := new(big.Int)
	for _, x := range b {
		if x.key == k && x.do == do {
			sum.Add(sum, big.NewInt(int64(x.n)))
		}
	}
	return sum
}

// pairs tells of how many pairs something is in b.
func (b book) pairs() int {
	m := map[note]bool{}
	for _, x := range b {
		m[note{txn: x.txn, key: x.key}] = true
	}
	return len(m)
}

// mayBe tells whether c is a counter that may be.
func mayBe(c api.Cell) bool {
	return c.Kind == 2 && len(c.Data) == 0 && c.Lo <= c.Val && c.Val <= c.Hi
}

// ask gives what Ask tells.
func (b book) ask(k string, c api.Cell, do, n int) api.Errno {
	switch {
	case !note{do: do, n: n}.may():
		return api.ErrArg
	case !mayBe(c):
		return api.ErrKind
	}
	val := big.NewInt(int64(c.Val))
	if do == 4 {
		val.Add(val, b.total(k, 5))
		val.Add(val, big.NewInt(int64(n)))
		if val.Cmp(big.NewInt(int64(c.Hi))) > 0 {
			return api.ErrBounds
		}
		return api.OK
	}
	val.Sub(val, b.total(k, 4))
	val.Sub(val, big.NewInt(int64(n)))
	if val.Cmp(big.NewInt(int64(c.Lo))) < 0 {
		return api.ErrBounds
	}
	return api.OK
}

// sum gives the Sum of x, that is not below 0.
func sum(x *big.Int) wide.Sum {
	var s wide.Sum
	for i := x.BitLen() - 1; i >= 0; i-- {
		s = s.Join(s).Plus(int(x.Bit(i)))
	}
	return s
}

// written gives a ledger in which these are noted, one behind the other.
func written(t *testing.T, l ...note) *Ledger {
	t.Helper()
	g := New()
	for _, x := range l {
		if !g.Note(x.txn, x.key, x.do, x.n) {
			t.Fatalf("Note(%v) is false", x)
		}
	}
	return g
}

// pending fails unless this is pending of k.
func pending(t *testing.T, g *Ledger, k string, added, off wide.Sum) {
	t.Helper()
	if a, b := g.Pending(k); a != added || b != off {
		t.Errorf("Pending(%q) = %v, %v, want %v, %v", k, a, b, added, off)
	}
}

// holds fails unless this many are added to k, and taken off.
func holds(t *testing.T, g *Ledger, k string, added, off int) {
	t.Helper()
	pending(t, g, k, wide.Of(added), wide.Of(off))
}

// length fails unless g has this many pairs.
func length(t *testing.T, g *Ledger, want int) {
	t.Helper()
	if got := g.Len(); got != want {
		t.Errorf("Len() = %d, want %d", got, want)
	}
}

// asks fails unless Ask tells want.
func asks(t *testing.T, g *Ledger, k string, c api.Cell, do, n int, want api.Errno) {
	t.Helper()
	if got := g.Ask(k, c, do, n); got != want {
		t.Errorf("Ask(%q, %v, %d, %d) = %d, want %d", k, c, do, n, got, want)
	}
}

// like fails unless g tells what b does, of each of these keys.
func like(t *testing.T, g *Ledger, b book, keys ...string) {
	t.Helper()
	length(t, g, b.pairs())
	for _, k := range keys {
		pending(t, g, k, sum(b.total(k, 4)), sum(b.total(k, 5)))
	}
}

// otherDos gives numbers that neither add nor take off.
func otherDos() []int {
	return append([]int{0, 1, 2, 3, -4, 4 + 256, 4 + 1<<32, 5 - 1<<32}, sample.OtherDos()...)
}

// belows gives numbers below 0.
func belows() []int {
	return []int{-1, -2, -5, -256, -1 << 31, -1 << 32, -1<<32 + 1, -most, least + 1, least}
}

// amounts gives numbers that may be added, and taken off.
func amounts() []int {
	return []int{0, 1, 2, 3, 5, 255, 256, 1<<31 - 1, 1 << 32, 1<<53 + 1, 1 << 62, most - 1, most}
}

// txns gives numbers of transactions.
func txns() []int {
	return []int{0, 1, 2, -1, -2, 15, 16, 256, 1 << 32, -1 << 32, least, least + 1, most, most - 1}
}

// keys gives texts that are keys, and some that are none.
func keys() []string {
	return slices.Concat(sample.Keys(), sample.WrongKeys(), []string{"A", "aa", "a\x00", "\x00", "1", "-1"})
}

// P11.1

func TestNew(t *testing.T) {
	g := New()
	if g == nil {
		t.Fatal("New is nil")
	}
	length(t, g, 0)
	for _, k := range keys() {
		pending(t, g, k, wide.Sum{}, wide.Sum{})
		asks(t, g, k, sample.Counter(0, 5, 0), inc, 5, api.OK)
		asks(t, g, k, sample.Counter(0, 5, 5), dec, 5, api.OK)
	}
	length(t, g, 0)
}

// What is done to one ledger is of no matter for another one.
func TestLedgersAreApart(t *testing.T) {
	a, b := New(), New()
	a.Note(1, "a", inc, 3)
	b.Note(1, "a", dec, 4)
	b.Note(2, "b", inc, 5)
	holds(t, a, "a", 3, 0)
	holds(t, b, "a", 0, 4)
	a.End(1)
	length(t, a, 0)
	length(t, b, 2)
	length(t, New(), 0)
	holds(t, New(), "a", 0, 0)
	b.Clear(1, "a")
	holds(t, b, "b", 5, 0)
}

func TestNote(t *testing.T) {
	for _, n := range amounts() {
		holds(t, written(t, note{1, "a", inc, n}), "a", n, 0)
		holds(t, written(t, note{1, "a", dec, n}), "a", 0, n)
		g := written(t, note{1, "a", inc, n}, note{1, "a", dec, n})
		holds(t, g, "a", n, n)
		holds(t, g, "b", 0, 0)
		length(t, g, 1)
	}
}

// What may not be noted is not, neither ahead of what is nor behind it.
func TestNoteOfWhatMayNotBe(t *testing.T) {
	refuses := func(g *Ledger, do, n int) {
		t.Helper()
		for _, k := range []string{"a", "b", ""} {
			for _, txn := range []int{1, 2, 0} {
				if g.Note(txn, k, do, n) {
					t.Errorf("Note(%d, %q, %d, %d) is true", txn, k, do, n)
				}
			}
		}
	}
	fresh, g := New(), written(t, note{1, "a", inc, 3}, note{1, "a", dec, 4})
	for _, do := range otherDos() {
		for _, n := range append(amounts(), belows()...) {
			refuses(fresh, do, n)
			refuses(g, do, n)
		}
	}
	for _, n := range belows() {
		for _, do := range []int{inc, dec} {
			refuses(fresh, do, n)
			refuses(g, do, n)
		}
	}
	length(t, fresh, 0)
	length(t, g, 1)
	holds(t, fresh, "a", 0, 0)
	holds(t, g, "a", 3, 4)
	holds(t, g, "b", 0, 0)
	holds(t, g, "", 0, 0)
}

func TestNoteOfThePairAgain(t *testing.T) {
	g := written(t, note{1, "a", inc, 3}, note{1, "a", inc, 4})
	holds(t, g, "a", 7, 0)
	g.Note(1, "a", dec, 5)
	holds(t, g, "a", 7, 5)
	g.Note(1, "a", dec, 1)
	g.Note(1, "a", inc, 0)
	holds(t, g, "a", 7, 6)
	length(t, g, 1)
}

func TestNoteOfOneKeyBySeveral(t *testing.T) {
	g := written(t, note{1, "a", inc, 3}, note{2, "a", inc, 4}, note{3, "a", dec, 5}, note{4, "a", dec, 6}, note{1, "a", dec, 7})
	holds(t, g, "a", 7, 18)
	length(t, g, 4)
}

func TestNoteOfSeveralKeysByOne(t *testing.T) {
	g := written(t, note{1, "a", inc, 3}, note{1, "b", inc, 4}, note{1, "c", dec, 5}, note{1, "ab", dec, 6})
	holds(t, g, "a", 3, 0)
	holds(t, g, "b", 4, 0)
	holds(t, g, "c", 0, 5)
	holds(t, g, "ab", 0, 6)
	holds(t, g, "", 0, 0)
	length(t, g, 4)
}

// Neither a key nor a transaction's number is asked whether it may be, and none
// is taken for another one.
func TestNoteOfEachKeyAndTransaction(t *testing.T) {
	g, b := New(), book{}
	for i, k := range keys() {
		for j, txn := range txns() {
			x := note{txn, k, inc + (i+j)%2, 1 + i*100 + j}
			b = append(b, x)
			if !g.Note(x.txn, x.key, x.do, x.n) {
				t.Errorf("Note(%v) is false", x)
			}
		}
	}
	like(t, g, b, keys()...)
	for _, k := range keys() {
		for _, txn := range txns() {
			b = b.cleared(txn, k)
			g.Clear(txn, k)
			length(t, g, b.pairs())
		}
		holds(t, g, k, 0, 0)
	}
	like(t, g, nil, keys()...)
}

// full gives what two transactions have noted of each of three keys.
func full() book {
	return book{
		{1, "a", inc, 1}, {1, "b", dec, 2}, {1, "c", inc, 4}, {1, "c", dec, 8},
		{2, "a", inc, 16}, {2, "b", dec, 32}, {2, "c", dec, 64}, {2, "a", dec, 128},
	}
}

func TestClear(t *testing.T) {
	g := written(t, full()...)
	length(t, g, 6)
	g.Clear(1, "c")
	like(t, g, full().cleared(1, "c"), "a", "b", "c")
	holds(t, g, "a", 17, 128)
	holds(t, g, "b", 0, 34)
	holds(t, g, "c", 0, 64)
	length(t, g, 5)
	g.Clear(1, "c")
	holds(t, g, "c", 0, 64)
	length(t, g, 5)
	g.Clear(2, "c")
	holds(t, g, "c", 0, 0)
	holds(t, g, "a", 17, 128)
	length(t, g, 4)
	g.Note(1, "c", inc, 9)
	holds(t, g, "c", 9, 0)
	length(t, g, 5)
}

func TestClearOfWhatIsNotThere(t *testing.T) {
	g := written(t, full()...)
	for _, k := range []string{"", "A", "ab", "aa", "d", "a\x00", "a b"} {
		for _, txn := range txns() {
			g.Clear(txn, k)
		}
	}
	for _, txn := range []int{0, -1, 3, least, most, 1 + 1<<32} {
		for _, k := range []string{"a", "b", "c"} {
			g.Clear(txn, k)
		}
	}
	like(t, g, full(), "a", "b", "c", "")
	fresh := New()
	fresh.Clear(1, "a")
	like(t, fresh, nil, "a")
}

func TestEnd(t *testing.T) {
	g := written(t, full()...)
	g.End(1)
	holds(t, g, "a", 16, 128)
	holds(t, g, "b", 0, 32)
	holds(t, g, "c", 0, 64)
	length(t, g, 3)
	g.End(1)
	like(t, g, full().ended(1), "a", "b", "c")
	g.Note(1, "b", inc, 9)
	holds(t, g, "b", 9, 32)
	length(t, g, 4)
	g.End(2)
	holds(t, g, "a", 0, 0)
	holds(t, g, "b", 9, 0)
	length(t, g, 1)
	g.End(1)
	like(t, g, nil, "a", "b", "c")
}

func TestEndOfWhoIsNotThere(t *testing.T) {
	g := written(t, full()...)
	for _, txn := range []int{0, -1, -2, 3, least, most, 1 + 1<<32, 2 - 1<<32} {
		g.End(txn)
	}
	like(t, g, full(), "a", "b", "c")
	fresh := New()
	fresh.End(0)
	fresh.End(1)
	like(t, fresh, nil, "a", "")
}

// Of one of the many that have noted much, all of it goes, and of the others
// nothing.
func TestEndOfOneOfMany(t *testing.T) {
	g, b := New(), book{}
	for i := range 40 {
		for _, txn := range txns() {
			x := note{txn, "k" + strings.Repeat("x", i), inc + i%2, i}
			b = append(b, x)
			g.Note(x.txn, x.key, x.do, x.n)
		}
	}
	for _, txn := range txns() {
		g.End(txn)
		b = b.ended(txn)
		like(t, g, b, "k", "kx", "kxx", "kxxxxx", "k"+strings.Repeat("x", 39), "x")
	}
	length(t, g, 0)
}

// What is pending goes past the numbers of 64 bits, the one as the other.
func TestPendingOfGreatSums(t *testing.T) {
	g, b := New(), book{}
	for txn := range 10 {
		for _, n := range []int{most, most, 1, most - 1} {
			for _, do := range []int{inc, dec} {
				x := note{txn, "a", do, n}
				b = append(b, x)
				g.Note(x.txn, x.key, x.do, x.n)
			}
			g.Note(txn, "a", inc, txn)
			b = append(b, note{txn, "a", inc, txn})
			like(t, g, b, "a", "b")
		}
	}
	added, off := g.Pending("a")
	for _, s := range []wide.Sum{added, off} {
		if _, ok := s.Int(); ok || !wide.Of(most).Less(s) {
			t.Errorf("%v is no more than the greatest number", s)
		}
	}
	for txn := range 9 {
		g.End(txn)
		b = b.ended(txn)
		like(t, g, b, "a", "b")
	}
}

func TestPendingJustPastTheGreatest(t *testing.T) {
	g := written(t, note{1, "a", inc, most}, note{2, "a", dec, most})
	holds(t, g, "a", most, most)
	g.Note(2, "a", inc, 1)
	pending(t, g, "a", wide.Of(most).Plus(1), wide.Of(most))
	g.Note(1, "a", dec, 2)
	pending(t, g, "a", wide.Of(most).Plus(1), wide.Of(most).Plus(2))
	g.End(2)
	holds(t, g, "a", most, 2)
}

// 0 is noted, too: of it there is a pair, and nothing is pending.
func TestLen(t *testing.T) {
	g := New()
	g.Note(1, "a", inc, 0)
	length(t, g, 1)
	holds(t, g, "a", 0, 0)
	g.Note(1, "a", inc, 0)
	g.Note(1, "a", dec, 0)
	g.Note(1, "a", dec, 5)
	length(t, g, 1)
	g.Note(2, "a", dec, 0)
	length(t, g, 2)
	g.Note(1, "b", inc, 0)
	g.Note(0, "", dec, 0)
	length(t, g, 4)
	g.Clear(1, "a")
	length(t, g, 3)
	holds(t, g, "a", 0, 0)
	g.Clear(1, "a")
	length(t, g, 3)
	g.Note(1, "a", dec, 0)
	length(t, g, 4)
	g.End(1)
	length(t, g, 2)
	g.End(0)
	g.Clear(2, "a")
	length(t, g, 0)
}

// What is asked notes nothing, and tells the same again.
func TestAskingChangesNothing(t *testing.T) {
	g := written(t, full()...)
	for range 3 {
		for _, k := range []string{"a", "b", "c", "d"} {
			for _, n := range append(amounts(), belows()...) {
				for do := -1; do < 7; do++ {
					c := sample.Counter(-9, 200, 3)
					asks(t, g, k, c, do, n, full().ask(k, c, do, n))
				}
			}
		}
		like(t, g, full(), "a", "b", "c", "d")
	}
}

// P11.2

func TestAskOfANilLedger(t *testing.T) {
	var g *Ledger
	for _, c := range slices.Concat(sample.Cells(), sample.WrongCells()) {
		for _, do := range append([]int{inc, dec}, otherDos()...) {
			for _, n := range []int{0, 1, -1, least, most} {
				asks(t, g, "a", c, do, n, api.ErrNil)
				asks(t, g, "", c, do, n, api.ErrNil)
			}
		}
	}
}

func TestANilLedger(t *testing.T) {
	var g *Ledger
	for _, n := range append(amounts(), belows()...) {
		for do := -1; do < 7; do++ {
			if g.Note(1, "a", do, n) {
				t.Errorf("Note of nil, of %d and %d, is true", do, n)
			}
		}
	}
	g.Clear(1, "a")
	g.End(1)
	pending(t, g, "a", wide.Sum{}, wide.Sum{})
	pending(t, g, "", wide.Sum{}, wide.Sum{})
	length(t, g, 0)
}

// What a ledger tells that New did not make is open; each call ends.
func TestTheZeroLedgerEnds(t *testing.T) {
	for range 3 {
		var g Ledger
		g.Clear(1, "a")
		g.End(1)
		g.Pending("a")
		g.Ask("a", sample.Counter(0, 5, 3), inc, 1)
		g.Len()
		g.Note(1, "a", inc, 1)
		g.Note(1, "a", 7, 1)
		g.Clear(1, "a")
		g.End(1)
	}
}

func TestAskOfWhatMayNotBe(t *testing.T) {
	cells := slices.Concat(sample.Cells(), sample.WrongCells())
	for _, g := range []*Ledger{New(), written(t, full()...)} {
		for _, c := range cells {
			for _, do := range otherDos() {
				for _, n := range []int{0, 1, -1, least, most} {
					asks(t, g, "a", c, do, n, api.ErrArg)
				}
			}
			for _, n := range belows() {
				asks(t, g, "a", c, inc, n, api.ErrArg)
				asks(t, g, "a", c, dec, n, api.ErrArg)
			}
		}
	}
}

func TestAskOfNoCounter(t *testing.T) {
	var none []api.Cell
	for _, c := range slices.Concat(sample.Cells(), sample.WrongCells()) {
		if !mayBe(c) {
			none = append(none, c)
		}
	}
	none = append(none,
		api.Cell{Kind: 2, Hi: 5, Val: 3, Data: []byte{0}}, api.Cell{Kind: 2, Hi: 5, Val: 3, Data: sample.Some(33)},
		api.Cell{Kind: 3, Hi: 5, Val: 3}, api.Cell{Kind: 1, Hi: 5, Val: 3}, api.Cell{Kind: 258, Hi: 5, Val: 3}, api.Cell{Kind: -2, Hi: 5, Val: 3},
		sample.Counter(least, most-1, most), sample.Counter(least+1, most, least),
	)
	for _, g := range []*Ledger{New(), written(t, full()...)} {
		for _, c := range none {
			for _, n := range amounts() {
				asks(t, g, "a", c, inc, n, api.ErrKind)
				asks(t, g, "a", c, dec, n, api.ErrKind)
			}
		}
	}
}

// fit fails unless n is the most that may be done to c; n below 0 tells that
// there is none, not 0 even.
func fit(t *testing.T, g *Ledger, c api.Cell, do, n int) {
	t.Helper()
	for _, x := range append(amounts(), n, n+1, n-1) {
		if x < 0 {
			continue
		}
		want := api.OK
		if x > n {
			want = api.ErrBounds
		}
		asks(t, g, "a", c, do, x, want)
	}
}

func TestAskWithNothingPending(t *testing.T) {
	g := written(t, note{1, "b", inc, 3}, note{1, "", dec, 4}, note{0, "aa", inc, most}, note{0, "A", dec, most})
	g.Note(1, "a", inc, 0)
	g.Note(2, "a", dec, 0)
	for _, x := range []struct{ lo, hi, val, more, less int }{
		{0, 5, 3, 2, 3},
		{0, 5, 0, 5, 0},
		{0, 5, 5, 0, 5},
		{0, 0, 0, 0, 0},
		{-7, -3, -5, 2, 2},
		{-7, -3, -7, 4, 0},
		{-7, -3, -3, 0, 4},
		{-1, 258, 0, 258, 1},
		{least, most, -1, most, most},
		{least, -1, least, most, 0},
		{least + 1, 0, 0, 0, most},
		{0, most, 0, most, 0},
		{1, most, 1, most - 1, 0},
		{most, most, most, 0, 0},
		{least, least, least, 0, 0},
	} {
		c := sample.Counter(x.lo, x.hi, x.val)
		fit(t, g, c, inc, x.more)
		fit(t, g, c, dec, x.less)
		fit(t, New(), c, inc, x.more)
		fit(t, New(), c, dec, x.less)
	}
}

// Sums that go round would be within the bounds again.
func TestAskAtTheEndsOfTheInts(t *testing.T) {
	for _, x := range []struct{ val, more, less int }{
		{0, most, most}, {1, most - 1, most}, {-1, most, most}, {-2, most, most - 1}, {most, 0, most}, {least, most, 0}, {most - 3, 3, most}, {least + 3, most, 3},
	} {
		c := sample.Counter(least, most, x.val)
		fit(t, New(), c, inc, x.more)
		fit(t, New(), c, dec, x.less)
	}
}

func TestAskWithOneKindPending(t *testing.T) {
	g := written(t, note{1, "a", inc, 2}, note{2, "b", dec, 4})
	for val, less := range []int{-2, -1, 0, 1, 2, 3} {
		fit(t, g, sample.Counter(0, 5, val), inc, 5-val)
		fit(t, g, sample.Counter(0, 5, val), dec, less)
	}
	g = written(t, note{1, "a", dec, 2}, note{2, "b", inc, 4})
	for val, more := range []int{3, 2, 1, 0, -1, -2} {
		fit(t, g, sample.Counter(0, 5, val), inc, more)
		fit(t, g, sample.Counter(0, 5, val), dec, val)
	}
}

// What was added makes no room for what is added, nor the other way round.
func TestAskWithBothPending(t *testing.T) {
	g := written(t, note{1, "a", inc, 1}, note{2, "a", dec, 2}, note{3, "b", inc, 9}, note{3, "b", dec, 9})
	for val := range 10 {
		fit(t, g, sample.Counter(0, 9, val), inc, 9-val-2)
		fit(t, g, sample.Counter(0, 9, val), dec, val-1)
	}
	g.Note(4, "a", inc, 2)
	g.Note(4, "a", dec, 2)
	for val := range 10 {
		fit(t, g, sample.Counter(0, 9, val), inc, 9-val-4)
		fit(t, g, sample.Counter(0, 9, val), dec, val-3)
	}
	g.End(4)
	g.Clear(2, "a")
	for val := range 10 {
		fit(t, g, sample.Counter(0, 9, val), inc, 9-val)
		fit(t, g, sample.Counter(0, 9, val), dec, val-1)
	}
}

// What is pending alone may be past the bounds, and past the ints.
func TestAskWithMuchPending(t *testing.T) {
	g := written(t, note{1, "a", inc, most}, note{2, "a", dec, most})
	fit(t, g, sample.Counter(least, most, 0), inc, 0)
	fit(t, g, sample.Counter(least, most, 0), dec, 1)
	fit(t, g, sample.Counter(least, most, -2), inc, 2)
	fit(t, g, sample.Counter(least, most, least), inc, most)
	fit(t, g, sample.Counter(least, most, most), dec, most)
	fit(t, g, sample.Counter(least, most, 1), inc, -1)
	fit(t, g, sample.Counter(least, most, -2), dec, -1)
	g.Note(1, "a", inc, 1)
	g.Note(3, "a", dec, 1)
	fit(t, g, sample.Counter(least, most, -1), inc, 0)
	fit(t, g, sample.Counter(least, most, 0), dec, 0)
	fit(t, g, sample.Counter(least, most, 0), inc, -1)
	fit(t, g, sample.Counter(least, most, -1), dec, -1)
	for txn := range 6 {
		g.Note(txn, "a", inc, most)
		g.Note(txn, "a", dec, most)
	}
	for _, val := range []int{0, 3, -3, most, least} {
		fit(t, g, sample.Counter(least, most, val), inc, -1)
		fit(t, g, sample.Counter(least, most, val), dec, -1)
	}
}

// Keys that are none, and empty ones, are asked as others are.
func TestAskOfEachKey(t *testing.T) {
	c := sample.Counter(0, 5, 3)
	for _, k := range keys() {
		g := written(t, note{1, "other", dec, 2}, note{2, k, inc, 1}, note{1, k, dec, 1})
		asks(t, g, k, c, inc, 1, api.OK)
		asks(t, g, k, c, inc, 2, api.ErrBounds)
		asks(t, g, k, c, dec, 2, api.OK)
		asks(t, g, k, c, dec, 3, api.ErrBounds)
		asks(t, g, "another", c, inc, 2, api.OK)
		asks(t, g, "another", c, dec, 3, api.OK)
	}
}

// A counter may have an empty list, with room behind it or not.
func TestAskOfACounterWithAnEmptyList(t *testing.T) {
	c := sample.Counter(0, 5, 3)
	for range 2 {
		asks(t, New(), "a", c, inc, 2, api.OK)
		asks(t, New(), "a", c, inc, 3, api.ErrBounds)
		c.Data = make([]byte, 0, 40)
	}
}

// chance gives numbers not below 0 that look like nothing, by each seed always the
// same.
func chance(seed int) func() int {
	x := uint64(seed)
	return func() int {
		x = x*6364136223846793005 + 1442695040888963407
		return int(x >> 34)
	}
}

// Scripts of all calls, against the chapter's words.
func TestScripts(t *testing.T) {
	few := []string{"a", "b", "", "a b"}
	seen := map[api.Errno]int{}
	for script := range 150 {
		next := chance(script)
		ns := append(amounts(), -1, least)
		bounds := []int{least, -300, -1, 0, 5, 600, most}
		g, b := New(), book{}
		for range 60 {
			txn, k, do, n := next()%4, few[next()%len(few)], 3+next()%4, ns[next()%len(ns)]
			x := note{txn, k, do, n}
			switch next() % 8 {
			case 0:
				g.Clear(txn, k)
				b = b.cleared(txn, k)
			case 1:
				g.End(txn)
				b = b.ended(txn)
			default:
				if got := g.Note(txn, k, do, n); got != x.may() {
					t.Fatalf("Note(%v) is %t", x, got)
				}
				if x.may() {
					b = append(b, x)
				}
			}
			like(t, g, b, few...)
			c := sample.Counter(bounds[next()%len(bounds)], bounds[next()%len(bounds)], bounds[next()%len(bounds)])
			for _, do := range []int{inc, dec, do} {
				want := b.ask(k, c, do, n)
				asks(t, g, k, c, do, n, want)
				seen[want]++
			}
		}
	}
	for _, err := range []api.Errno{api.OK, api.ErrArg, api.ErrKind, api.ErrBounds} {
		if seen[err] < 500 {
			t.Errorf("too few tell %d: %v", err, seen)
		}
	}
}

// P11.3

// vault is counters, and what is under way on them.
type vault struct {
	g     *Ledger
	cells map[string]api.Cell
	did   book
	order []int // the transactions of did, each once
}

// opened gives a vault of these counters.
func opened(cells map[string]api.Cell) *vault {
	return &vault{g: New(), cells: cells}
}

// move does x, if it is allowed, and tells whether it is. A transaction that has
// done nothing does not end.
func (v *vault) move(x note) bool {
	switch x.do {
	case api.DoCommit, api.DoAbort:
		if !slices.Contains(v.order, x.txn) {
			return false
		}
		v.end(x)
		return true
	}
	c := v.cells[x.key]
	if v.g.Ask(x.key, c, x.do, x.n) != api.OK {
		return false
	}
	v.g.Note(x.txn, x.key, x.do, x.n)
	v.shift(x, 1)
	v.did = append(v.did, x)
	if !slices.Contains(v.order, x.txn) {
		v.order = append(v.order, x.txn)
	}
	return true
}

// shift does x, or takes it back, by 1 or by -1.
func (v *vault) shift(x note, by int) {
	c := v.cells[x.key]
	if x.do == dec {
		by = -by
	}
	c.Val += by * x.n
	v.cells[x.key] = c
}

// end ends a transaction: what it did stays, or is taken back, the last first.
func (v *vault) end(x note) {
	if x.do == api.DoAbort {
		for _, y := range slices.Backward(v.did) {
			if y.txn == x.txn {
				v.shift(y, -1)
				v.g.Clear(y.txn, y.key)
			}
		}
	} else {
		v.g.End(x.txn)
	}
	v.did = v.did.ended(x.txn)
	v.order = slices.DeleteFunc(v.order, func(txn int) bool { return txn == x.txn })
}

// check fails unless each counter is within its bounds for every choice of who
// takes back, and the ledger knows just those that are under way.
func (v *vault) check(t *testing.T) {
	t.Helper()
	for choice := range 1 << len(v.order) {
		for k, c := range v.cells {
			val := big.NewInt(int64(c.Val))
			for i, txn := range v.order {
				if choice>>i&1 == 1 {
					own := v.did.without(func(x note) bool { return x.txn != txn })
					val.Sub(val, own.total(k, inc))
					val.Add(val, own.total(k, dec))
				}
			}
			if val.Cmp(big.NewInt(int64(c.Lo))) < 0 || val.Cmp(big.NewInt(int64(c.Hi))) > 0 {
				t.Fatalf("%q %v is %v, if choice %b of %v takes back %v", k, c, val, choice, v.order, v.did)
			}
		}
	}
	like(t, v.g, v.did, "a", "b")
}

// small gives what three may do to a counter, in steps up to 2, and how they end.
func small() []note {
	var l []note
	for txn := range 3 {
		for _, do := range []int{inc, dec} {
			l = append(l, note{txn, "a", do, 1}, note{txn, "a", do, 2})
		}
		l = append(l, note{txn: txn, do: api.DoCommit}, note{txn: txn, do: api.DoAbort})
	}
	return l
}

// Each row of up to four steps, and each choice of who takes back behind it.
func TestBoundsHoldInEachShortScript(t *testing.T) {
	steps, tried := small(), 0
	var walk func(done []note)
	walk = func(done []note) {
		v := opened(map[string]api.Cell{"a": sample.Counter(0, 4, 2)})
		for _, x := range done {
			if !v.move(x) {
				return // the row without it is walked, too
			}
		}
		v.check(t)
		tried++
		if len(done) < 4 {
			for _, x := range steps {
				walk(append(slices.Clone(done), x))
			}
		}
	}
	walk(nil)
	if tried < 3000 {
		t.Errorf("%d rows alone", tried)
	}
}

// wander does a script of many steps to two counters, and counts what happened.
func wander(t *testing.T, v *vault, ns []int, seed int, seen map[string]int) {
	t.Helper()
	next := chance(seed)
	dos := []int{inc, inc, inc, inc, inc, dec, dec, dec, dec, dec, api.DoCommit, api.DoAbort}
	names := map[int]string{inc: "done", dec: "done", api.DoCommit: "committed", api.DoAbort: "aborted"}
	for range 120 {
		x := note{next()%5 - 2, []string{"a", "b"}[next()%2], dos[next()%len(dos)], ns[next()%len(ns)]}
		if v.move(x) {
			seen[names[x.do]]++
		} else {
			seen["refused"]++
		}
		v.check(t)
	}
}

func TestBoundsHoldInLongScripts(t *testing.T) {
	great := []int{0, 1, 2, 1 << 61, 1 << 62, 1<<62 + 1, most - 1, most}
	for _, x := range []struct {
		a, b api.Cell
		ns   []int
	}{
		{sample.Counter(0, 9, 4), sample.Counter(-20, 20, -20), []int{0, 1, 2, 3, 4, 5}},
		{sample.Counter(0, 0, 0), sample.Counter(-3, 3, 3), []int{0, 1, 2}},
		{sample.Counter(least, most, 0), sample.Counter(least, most, least), great},
		{sample.Counter(least, -1, -7), sample.Counter(0, most, most), great},
	} {
		seen := map[string]int{}
		for seed := range 60 {
			wander(t, opened(map[string]api.Cell{"a": x.a, "b": x.b}), x.ns, seed, seen)
		}
		for _, what := range []string{"done", "refused", "committed", "aborted"} {
			if seen[what] < 200 {
				t.Errorf("too few %s: %v", what, seen)
			}
		}
	}
}

// What is told ErrBounds might pass a bound where each transaction does one kind
// of thing alone: some choice of who takes back then leads past it.
func TestNoneIsRefusedForNothing(t *testing.T) {
	for val := range 6 {
		c := sample.Counter(0, 5, val)
		for added := range 7 {
			for off := range 7 {
				g := written(t, note{1, "a", inc, added}, note{2, "a", dec, off})
				for n := range 9 {
					asks(t, g, "a", c, inc, n, past(val+off+n > 5))
					asks(t, g, "a", c, dec, n, past(val-added-n < 0))
				}
			}
		}
	}
}

// past gives ErrBounds, if a bound is passed.
func past(is bool) api.Errno {
	if is {
		return api.ErrBounds
	}
	return api.OK
}

// Memory

func TestWhatIsHandedInStaysAsItWas(t *testing.T) {
	g := written(t, full()...)
	for _, was := range slices.Concat(sample.Cells(), sample.WrongCells()) {
		c := was
		data, whole := sample.Roomy(was.Data...)
		c.Data = data
		kept := slices.Clone(whole)
		k := strings.Clone("a")
		for _, n := range []int{0, 1, -1, most} {
			for do := 3; do < 7; do++ {
				g.Ask(k, c, do, n)
			}
		}
		if !sample.LikeCell(c, was) || !slices.Equal(whole, kept) || k != "a" {
			t.Errorf("%v, was %v", c, was)
		}
	}
}

// A cell that was asked with, or a text whose bytes are used again, is not
// looked at any more.
func TestWhatIsHandedInIsNotKept(t *testing.T) {
	g := New()
	b := []byte("a")
	g.Note(1, string(b), inc, 3)
	b[0] = 'b'
	holds(t, g, "a", 3, 0)
	holds(t, g, "b", 0, 0)
	c := sample.Counter(0, 5, 5)
	asks(t, g, "a", c, dec, 2, api.OK)
	c.Lo, c.Val = 4, 4
	asks(t, g, "a", c, dec, 2, api.ErrBounds)
	asks(t, g, "a", sample.Counter(0, 5, 5), dec, 2, api.OK)
}

// A Sum that was answered stays as it was.
func TestPendingIsAnAnswerOfItsOwn(t *testing.T) {
	g := written(t, note{1, "a", inc, 3}, note{1, "a", dec, 4})
	added, off := g.Pending("a")
	g.Note(1, "a", inc, 1)
	g.End(1)
	if added != wide.Of(3) || off != wide.Of(4) {
		t.Errorf("%v, %v", added, off)
	}
	holds(t, g, "a", 0, 0)
}

// From arguments alone

// The same notes, in any order, are the same ledger.
func TestTheOrderIsOfNoMatter(t *testing.T) {
	var b book
	for i, k := range keys()[:20] {
		for j, txn := range txns() {
			n := []int{most, 1, 0, most - 1, 1 << 62, 7}[(i+j)%6]
			b = append(b, note{txn, k, inc + (i*j)%2, n}, note{txn, "a", inc + (i+j)%2, n})
		}
	}
	for seed := range 12 {
		next := chance(seed)
		turned := slices.Clone(b)
		for i := range turned {
			j := next() % (i + 1)
			turned[i], turned[j] = turned[j], turned[i]
		}
		g := written(t, turned...)
		like(t, g, b, append(keys()[:20], "other")...)
		for range 5 {
			for _, k := range keys()[:20] {
				c := sample.Counter(least, most, -7)
				asks(t, g, k, c, inc, 1<<62, b.ask(k, c, inc, 1<<62))
				asks(t, g, k, c, dec, 1<<62, b.ask(k, c, dec, 1<<62))
			}
		}
		for i, txn := range txns() {
			if i%2 == 0 {
				g.End(txn)
			}
		}
		odd := b.without(func(x note) bool { return slices.Index(txns(), x.txn)%2 == 0 })
		like(t, g, odd, append(keys()[:20], "other")...)
	}
}

func TestExample(t *testing.T) {
	g := New()
	asks(t, g, "a", sample.Counter(0, 5, 3), inc, 2, api.OK)
	g.Note(1, "a", inc, 2)
	asks(t, g, "a", sample.Counter(0, 5, 5), dec, 4, api.ErrBounds)
	asks(t, g, "a", sample.Counter(0, 5, 5), dec, 3, api.OK)
}
