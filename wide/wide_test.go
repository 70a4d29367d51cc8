package wide

import (
	"math"
	"math/big"
	"testing"
)

// edges gives numbers of 64 bits: the ends, what lies about them, about 0 and
// about the powers of 2, and many more, rising or not.
func edges() []int {
	l := []int{0, 1, -1, 2, -2, 3, -3, 7, -10, 1000, -1000}
	for _, k := range []uint{8, 31, 32, 33, 52, 53, 61, 62} {
		p := 1 << k
		l = append(l, p-1, p, p+1, -p-1, -p, -p+1)
	}
	l = append(l, math.MaxInt, math.MaxInt-1, math.MaxInt-2, math.MinInt, math.MinInt+1, math.MinInt+2)
	return append(l, some(30)...)
}

// some gives n numbers that look like nothing, always the same.
func some(n int) []int {
	x := uint64(n) + 1
	l := make([]int, n)
	for i := range l {
		x = x*6364136223846793005 + 1442695040888963407
		l[i] = int(x)
	}
	return l
}

// power gives 2^k.
func power(k int) *big.Int {
	return new(big.Int).Lsh(big.NewInt(1), uint(k))
}

// plus gives x and n together.
func plus(x *big.Int, n int64) *big.Int {
	return new(big.Int).Add(x, big.NewInt(n))
}

// minus gives 0 less x.
func minus(x *big.Int) *big.Int {
	return new(big.Int).Neg(x)
}

// told gives x as Int tells it: 0 and false, if it is no number of 64 bits.
func told(x *big.Int) (int, bool) {
	if !x.IsInt64() {
		return 0, false
	}
	return int(x.Int64()), true
}

// doubled gives s joined to itself k times.
func doubled(s Sum, k int) Sum {
	for range k {
		s = s.Join(s)
	}
	return s
}

// joined gives the Sum of x, made of its bits by Plus and Join.
func joined(x *big.Int) Sum {
	var s Sum
	for i := x.BitLen() - 1; i >= 0; i-- {
		s = s.Join(s)
		switch {
		case new(big.Int).Abs(x).Bit(i) == 0:
		case x.Sign() > 0:
			s = s.Plus(1)
		default:
			s = s.Plus(-1)
		}
	}
	return s
}

// greats gives numbers from -2^100 to 2^100, rising, each once.
func greats() []*big.Int {
	var below, above []*big.Int
	above = append(above, big.NewInt(1), big.NewInt(2), big.NewInt(3))
	for k := 3; k <= 100; k++ {
		above = append(above, plus(power(k), -1), power(k))
		if k < 100 {
			above = append(above, plus(power(k), 1))
		}
	}
	for i := len(above) - 1; i >= 0; i-- {
		below = append(below, minus(above[i]))
	}
	return append(append(below, new(big.Int)), above...)
}

// P3.1

func TestAddAndSub(t *testing.T) {
	for _, x := range []struct {
		a, b   int
		sum    int
		sumOK  bool
		diff   int
		diffOK bool
	}{
		{0, 0, 0, true, 0, true},
		{3, 5, 8, true, -2, true},
		{-3, 5, 2, true, -8, true},
		{3, -5, -2, true, 8, true},
		{-3, -5, -8, true, 2, true},
		{math.MaxInt, 0, math.MaxInt, true, math.MaxInt, true},
		{0, math.MaxInt, math.MaxInt, true, -math.MaxInt, true},
		{math.MinInt, 0, math.MinInt, true, math.MinInt, true},
		{0, math.MinInt, math.MinInt, true, 0, false},
		{-1, math.MinInt, 0, false, math.MaxInt, true},
		{1, math.MinInt, math.MinInt + 1, true, 0, false},
		{math.MaxInt, 1, 0, false, math.MaxInt - 1, true},
		{1, math.MaxInt, 0, false, math.MinInt + 2, true},
		{math.MaxInt, -1, math.MaxInt - 1, true, 0, false},
		{-1, math.MaxInt, math.MaxInt - 1, true, math.MinInt, true},
		{-2, math.MaxInt, math.MaxInt - 2, true, 0, false},
		{math.MinInt, 1, math.MinInt + 1, true, 0, false},
		{math.MinInt, -1, 0, false, math.MinInt + 1, true},
		{math.MaxInt, math.MaxInt, 0, false, 0, true},
		{math.MinInt, math.MinInt, 0, false, 0, true},
		{math.MaxInt, math.MinInt, -1, true, 0, false},
		{math.MinInt, math.MaxInt, -1, true, 0, false},
		{math.MaxInt - 1, 1, math.MaxInt, true, math.MaxInt - 2, true},
		{math.MinInt + 1, -1, math.MinInt, true, math.MinInt + 2, true},
		{1 << 62, 1 << 62, 0, false, 0, true},
		{1 << 62, 1<<62 - 1, math.MaxInt, true, 1, true},
		{-1 << 62, -1 << 62, math.MinInt, true, 0, true},
		{-1 << 62, -1<<62 - 1, 0, false, 1, true},
		{-1 << 62, 1 << 62, 0, true, math.MinInt, true},
		{-1<<62 - 1, 1 << 62, -1, true, 0, false},
		{1 << 62, -1 << 62, 0, true, 0, false},
		{1<<62 - 1, -1 << 62, -1, true, math.MaxInt, true},
	} {
		if n, ok := Add(x.a, x.b); n != x.sum || ok != x.sumOK {
			t.Errorf("Add(%d, %d) = %d, %v, want %d, %v", x.a, x.b, n, ok, x.sum, x.sumOK)
		}
		if n, ok := Sub(x.a, x.b); n != x.diff || ok != x.diffOK {
			t.Errorf("Sub(%d, %d) = %d, %v, want %d, %v", x.a, x.b, n, ok, x.diff, x.diffOK)
		}
	}
}

func TestAddAndSubOfEdges(t *testing.T) {
	for _, a := range edges() {
		for _, b := range edges() {
			x, y := big.NewInt(int64(a)), big.NewInt(int64(b))
			want, wantOK := told(new(big.Int).Add(x, y))
			if n, ok := Add(a, b); n != want || ok != wantOK {
				t.Errorf("Add(%d, %d) = %d, %v, want %d, %v", a, b, n, ok, want, wantOK)
			}
			want, wantOK = told(new(big.Int).Sub(x, y))
			if n, ok := Sub(a, b); n != want || ok != wantOK {
				t.Errorf("Sub(%d, %d) = %d, %v, want %d, %v", a, b, n, ok, want, wantOK)
			}
		}
	}
}

// P3.2

func TestTheZeroSum(t *testing.T) {
	var zero Sum
	if n, ok := zero.Int(); n != 0 || !ok {
		t.Errorf("Int of the zero Sum = %d, %v", n, ok)
	}
	if zero != Of(0) || Of(0) != Of(7).Minus(7) || Of(0) != Of(-7).Plus(7) || zero != zero.Join(zero) {
		t.Error("0 is not the zero Sum")
	}
	if zero.Less(zero) || zero.Less(Of(-1)) || !zero.Less(Of(1)) || Of(1).Less(zero) || !Of(-1).Less(zero) {
		t.Error("Less of the zero Sum")
	}
	for _, n := range edges() {
		s := Of(n)
		if zero.Plus(n) != s || zero.Join(s) != s || s.Join(zero) != s || s.Plus(0) != s || s.Minus(0) != s {
			t.Errorf("%d and 0", n)
		}
		if zero.Minus(n) != Of(-1).Minus(n).Plus(1) || zero.Minus(n).Join(s) != zero {
			t.Errorf("0 less %d", n)
		}
	}
}

func TestOfAndInt(t *testing.T) {
	for i, n := range edges() {
		if got, ok := Of(n).Int(); got != n || !ok {
			t.Errorf("Of(%d).Int() = %d, %v", n, got, ok)
		}
		for j, m := range edges() {
			if (Of(n) == Of(m)) != (n == m) {
				t.Errorf("Of(%d) and Of(%d), places %d and %d", n, m, i, j)
			}
		}
	}
}

func TestExample(t *testing.T) {
	if n, ok := Add(math.MaxInt, 1); n != 0 || ok {
		t.Errorf("Add = %d, %v", n, ok)
	}
	if n, ok := Of(math.MaxInt).Plus(1).Minus(1).Int(); n != math.MaxInt || !ok {
		t.Errorf("there and back = %d, %v", n, ok)
	}
}

func TestPlusMinusAndJoin(t *testing.T) {
	for _, a := range edges() {
		for _, b := range edges() {
			x, y := big.NewInt(int64(a)), big.NewInt(int64(b))
			sum, diff := joined(new(big.Int).Add(x, y)), joined(new(big.Int).Sub(x, y))
			if Of(a).Plus(b) != sum || Of(a).Join(Of(b)) != sum {
				t.Errorf("%d and %d together", a, b)
			}
			if Of(a).Minus(b) != diff {
				t.Errorf("%d less %d", a, b)
			}
		}
	}
}

// What is asked of a Sum leaves it as it was.
func TestASumStays(t *testing.T) {
	for _, n := range edges() {
		s, u := Of(n), Of(math.MaxInt).Plus(n)
		s.Plus(5)
		s.Minus(5)
		s.Join(u)
		s.Less(u)
		s.Int()
		if s != Of(n) || u != Of(math.MaxInt).Plus(n) {
			t.Errorf("of %d", n)
		}
	}
}

// Int just inside the numbers of 64 bits, and just outside.
func TestIntAtTheEnds(t *testing.T) {
	for _, end := range []int{math.MaxInt, math.MinInt} {
		for by := -300; by <= 300; by++ {
			want, wantOK := told(plus(big.NewInt(int64(end)), int64(by)))
			for i, s := range []Sum{Of(end).Plus(by), Of(end).Minus(-by), Of(by).Plus(end), Of(by).Join(Of(end))} {
				if n, ok := s.Int(); n != want || ok != wantOK {
					t.Errorf("%d and %d, way %d: %d, %v, want %d, %v", end, by, i, n, ok, want, wantOK)
				}
			}
		}
	}
}

// What lies above 64 bits is told neither as its lowest bits, nor as an end.
func TestIntOfGreatOnes(t *testing.T) {
	for _, x := range greats() {
		want, wantOK := told(x)
		if n, ok := joined(x).Int(); n != want || ok != wantOK {
			t.Errorf("%v: %d, %v, want %d, %v", x, n, ok, want, wantOK)
		}
	}
}

func TestUpToTheLimit(t *testing.T) {
	most := doubled(Of(1), 100)
	least := doubled(Of(-1), 100)
	if most == least || most.Join(least) != Of(0) || least.Join(most) != Of(0) {
		t.Error("2^100 and -2^100")
	}
	if !least.Less(most) || most.Less(least) || !least.Less(Of(math.MinInt)) || !Of(math.MaxInt).Less(most) {
		t.Error("Less at the limit")
	}
	for _, s := range []Sum{most, least, most.Minus(1), least.Plus(1)} {
		if n, ok := s.Int(); n != 0 || ok {
			t.Errorf("%v: %d, %v", s, n, ok)
		}
	}
	for _, n := range edges() {
		if n < 0 {
			continue
		}
		if got, ok := most.Minus(n).Join(least).Plus(n).Int(); got != 0 || !ok {
			t.Errorf("2^100 less %d: %d, %v", n, got, ok)
		}
		if got, ok := least.Plus(n).Join(most).Int(); got != n || !ok {
			t.Errorf("-2^100 and %d: %d, %v", n, got, ok)
		}
		if most.Minus(n).Less(most) != (n > 0) || most.Less(most.Minus(n)) {
			t.Errorf("Less of 2^100 less %d", n)
		}
		if least.Less(least.Plus(n)) != (n > 0) || least.Plus(n).Less(least) {
			t.Errorf("Less of -2^100 and %d", n)
		}
	}
}

// The same number on ways that use Plus, Minus and Join for its parts: 2^100 is
// 2^37 times 2^63.
func TestTheLimitOnOtherWays(t *testing.T) {
	most, least := doubled(Of(1), 100), doubled(Of(-1), 100)
	for i, s := range []Sum{
		doubled(Of(0).Minus(math.MinInt), 37),
		doubled(Of(math.MaxInt).Plus(1), 37),
		doubled(Of(1<<62).Plus(1<<62), 37),
		doubled(Of(math.MaxInt), 37).Join(doubled(Of(1), 37)),
		doubled(doubled(Of(1<<50), 10), 40),
		doubled(Of(1), 99).Join(doubled(Of(1), 99)),
		most.Minus(math.MaxInt).Plus(math.MaxInt),
		most.Plus(math.MinInt).Minus(math.MinInt),
	} {
		if s != most {
			t.Errorf("2^100, way %d", i)
		}
	}
	for i, s := range []Sum{
		doubled(Of(math.MinInt), 37),
		doubled(Of(0).Plus(math.MinInt), 37),
		doubled(Of(-math.MaxInt).Minus(1), 37),
		doubled(Of(-1<<62).Minus(1<<62), 37),
		doubled(Of(0).Minus(math.MaxInt), 37).Join(doubled(Of(0).Minus(1), 37)),
		doubled(Of(-1), 99).Join(doubled(Of(-1), 99)),
		least.Plus(math.MaxInt).Minus(math.MaxInt),
		least.Minus(math.MinInt).Plus(math.MinInt),
	} {
		if s != least {
			t.Errorf("-2^100, way %d", i)
		}
	}
}

// Many steps of the greatest numbers, without any joining.
func TestManySteps(t *testing.T) {
	const n = 5000
	var up, down, under Sum
	for range n {
		up = up.Plus(math.MaxInt)
		down = down.Minus(math.MinInt)
		under = under.Plus(math.MinInt)
	}
	x := new(big.Int).Mul(big.NewInt(n), power(63))
	if up != joined(plus(x, -n)) || down != joined(x) || under != joined(minus(x)) {
		t.Error("they are not what they are joined to be")
	}
	if up.Plus(n) != down || !up.Plus(n-1).Less(down) || down.Join(under) != Of(0) {
		t.Error("they do not go together")
	}
}

// Of numbers that rise each Sum is less than those behind it, and equal to none.
func TestLess(t *testing.T) {
	var sums []Sum
	all := greats()
	for i, x := range all {
		if i > 0 && all[i-1].Cmp(x) >= 0 {
			t.Fatalf("%v is ahead of %v", all[i-1], x)
		}
		sums = append(sums, joined(x))
	}
	for i, s := range sums {
		for j, u := range sums {
			if s.Less(u) != (i < j) {
				t.Errorf("%v less than %v: %v", all[i], all[j], s.Less(u))
			}
			if (s == u) != (i == j) {
				t.Errorf("%v and %v: %v", all[i], all[j], s == u)
			}
		}
	}
}

func TestLessOfEdges(t *testing.T) {
	for _, a := range edges() {
		for _, b := range edges() {
			if got := Of(a).Less(Of(b)); got != (a < b) {
				t.Errorf("%d less than %d: %v", a, b, got)
			}
			// The same above 64 bits, and below them.
			for _, far := range []Sum{doubled(Of(1), 80), doubled(Of(-1), 80), doubled(Of(3), 64), doubled(Of(-3), 64)} {
				if got := far.Plus(a).Less(far.Plus(b)); got != (a < b) {
					t.Errorf("%d less than %d, far off at %v: %v", a, b, far, got)
				}
			}
		}
	}
}

// Ones that differ only in what lies above 64 bits, below 0 too.
func TestLessByWhatLiesAbove(t *testing.T) {
	one := doubled(Of(1), 64)
	for _, n := range edges() {
		s := Of(n)
		for range 5 {
			u := s.Join(one)
			if !s.Less(u) || u.Less(s) || s == u || u.Less(u) {
				t.Errorf("of %d: %v and %v", n, s, u)
			}
			s = u
		}
		s = Of(n)
		for range 5 {
			u := s.Join(doubled(Of(-1), 64))
			if s.Less(u) || !u.Less(s) || s == u || u.Less(u) {
				t.Errorf("of %d: %v and %v", n, s, u)
			}
			s = u
		}
	}
}

// P3.3

// orders calls what for each order of l.
func orders(l []int, what func([]int)) {
	var place func(k int)
	place = func(k int) {
		if k == len(l) {
			what(l)
			return
		}
		for i := k; i < len(l); i++ {
			l[k], l[i] = l[i], l[k]
			place(k + 1)
			l[k], l[i] = l[i], l[k]
		}
	}
	place(0)
}

// lists gives few numbers each, whose sums pass the ends here and there.
func lists() [][]int {
	return [][]int{
		{0, 1, -1, 2, -2, 3},
		{math.MaxInt, math.MaxInt, math.MinInt, math.MinInt, 1, 1},
		{math.MaxInt, 1, math.MaxInt, 1, math.MinInt, -1},
		{math.MinInt, math.MinInt, math.MinInt, -1, 1, 0},
		{math.MinInt, -1, math.MaxInt, 1, 1 << 62, -1 << 62},
		some(6),
	}
}

// total gives the sum of l.
func total(l []int) *big.Int {
	x := new(big.Int)
	for _, n := range l {
		x.Add(x, big.NewInt(int64(n)))
	}
	return x
}

func TestTheSameNumbersInAnyOrder(t *testing.T) {
	for _, list := range lists() {
		up := joined(total(list))
		down := joined(minus(total(list)))
		orders(list, func(l []int) {
			var added, off, joinedUp, right Sum
			for i, n := range l {
				added = added.Plus(n)
				off = off.Minus(n)
				joinedUp = joinedUp.Join(Of(n))
				right = Of(l[len(l)-1-i]).Join(right)
			}
			half := Of(l[0]).Plus(l[1]).Plus(l[2]).Join(Of(l[3]).Plus(l[4]).Plus(l[5]))
			if added != up || joinedUp != up || right != up || half != up {
				t.Errorf("%v: other than in another order", l)
			}
			if off != down {
				t.Errorf("%v taken off: other than in another order", l)
			}
		})
	}
}

// Some are added and the others taken off, by any choice, in any order.
func TestAddedAndTakenOffInAnyOrder(t *testing.T) {
	for _, list := range lists() {
		for choice := range 1 << len(list) {
			want := new(big.Int)
			for i, n := range list {
				if choice>>i&1 == 1 {
					want.Sub(want, big.NewInt(int64(n)))
				} else {
					want.Add(want, big.NewInt(int64(n)))
				}
			}
			sum := joined(want)
			orders([]int{0, 1, 2, 3, 4, 5}, func(places []int) {
				var s Sum
				for _, i := range places {
					if choice>>i&1 == 1 {
						s = s.Minus(list[i])
					} else {
						s = s.Plus(list[i])
					}
				}
				if s != sum {
					t.Errorf("%v, %b taken off, in the order %v: %v, want %v", list, choice, places, s, sum)
				}
			})
		}
	}
}

// What is taken off again leaves nothing, wherever in between.
func TestThereAndBack(t *testing.T) {
	for _, far := range []Sum{{}, Of(math.MaxInt), Of(math.MinInt), doubled(Of(1), 90), doubled(Of(-1), 90)} {
		s := far
		for _, n := range edges() {
			s = s.Plus(n)
		}
		for _, n := range edges() {
			s = s.Minus(n)
		}
		if s != far {
			t.Errorf("from %v on: %v", far, s)
		}
		for _, n := range edges() {
			if far.Plus(n).Minus(n) != far || far.Minus(n).Plus(n) != far || far.Join(Of(n)).Minus(n) != far {
				t.Errorf("%d there and back from %v", n, far)
			}
		}
	}
}

// Great ones are joined in any order, too.
func TestGreatOnesInAnyOrder(t *testing.T) {
	parts := []Sum{
		doubled(Of(1), 98),
		doubled(Of(-3), 96),
		doubled(Of(math.MinInt), 20),
		doubled(Of(math.MaxInt), 30).Plus(5),
		Of(math.MinInt),
		Of(-1),
	}
	want := new(big.Int)
	want.Add(want, power(98))
	want.Sub(want, new(big.Int).Mul(big.NewInt(3), power(96)))
	want.Sub(want, power(83))
	want.Add(want, power(93))
	want.Sub(want, power(30))
	want = plus(want, 5)
	want.Sub(want, power(63))
	want = plus(want, -1)
	sum := joined(want)
	orders([]int{0, 1, 2, 3, 4, 5}, func(places []int) {
		var left Sum
		for _, i := range places {
			left = left.Join(parts[i])
		}
		pairs := parts[places[0]].Join(parts[places[1]]).Join(parts[places[2]].Join(parts[places[3]])).Join(parts[places[4]].Join(parts[places[5]]))
		if left != sum || pairs != sum {
			t.Errorf("in the order %v: %v and %v, want %v", places, left, pairs, sum)
		}
	})
}
