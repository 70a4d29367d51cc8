package modes

import (
	"math"
	"slices"
	"strings"
	"testing"

	"moneyer/api"
	"moneyer/model"
	"moneyer/sample"
)

const least, most = math.MinInt, math.MaxInt

// all gives the four modes.
func all() []int {
	return []int{api.ModeRead, api.ModeWrite, api.ModeInc, api.ModeDec}
}

// others gives numbers that are no modes.
func others() []int {
	return []int{
		-1, 4, -2, -3, -4, 5, 6, 7, 8, 16, 31, 32, 62, 63, 64, 65, 66, 67, 68, 127, 128, 255, 256, 257, 258, 259,
		-60, -61, -62, -63, -64, -252, -253, -254, -256, 1 << 32, 1<<32 + 1, 1<<32 + 2, 1<<32 + 3, 1 << 62,
		-1 << 32, -1<<32 + 3, least, least + 1, least + 2, least + 3, most, most - 1,
	}
}

// sets gives each set of modes, alone and with bits of no mode.
func sets() []int {
	var l []int
	for modes := range 16 {
		for _, rest := range []int{0, 16, 32, 1<<32 | 1<<8, 1 << 62, 1<<63 - 16, least, least | 16, least | 1<<40, -16, -32} {
			l = append(l, rest|modes)
		}
	}
	return l
}

// goes tells whether the modes a and b go together.
func goes(a, b int) bool {
	return slices.Contains([][2]int{{0, 0}, {2, 2}, {2, 3}, {3, 2}, {3, 3}}, [2]int{a, b})
}

// of tells the mode of one of the six Dos.
func of(do int) int {
	return []int{0, 1, 1, 1, 2, 3}[do]
}

// P10.1

func TestOf(t *testing.T) {
	for do, want := range map[int]int{
		api.DoRead: api.ModeRead, api.DoWrite: api.ModeWrite, api.DoCreate: api.ModeWrite, api.DoDrop: api.ModeWrite,
		api.DoInc: api.ModeInc, api.DoDec: api.ModeDec,
		-1: -1, 6: -1, least: -1, most: -1,
	} {
		if got := Of(do); got != want {
			t.Errorf("Of(%d) = %d, want %d", do, got, want)
		}
	}
	for _, do := range sample.OtherDos() {
		if got := Of(do); got != -1 {
			t.Errorf("Of(%d) = %d, want -1", do, got)
		}
	}
}

func TestCompat(t *testing.T) {
	for _, a := range all() {
		for _, b := range all() {
			if got := Compat(a, b); got != goes(a, b) {
				t.Errorf("Compat(%d, %d) = %t", a, b, got)
			}
		}
	}
}

func TestCompatOfNoModes(t *testing.T) {
	for _, a := range others() {
		for _, b := range append(all(), others()...) {
			if Compat(a, b) || Compat(b, a) {
				t.Errorf("Compat of %d and %d", a, b)
			}
		}
	}
}

// commutes fails unless Commute of a and b tells want.
func commutes(t *testing.T, a, b api.Op, want bool) {
	t.Helper()
	if Commute(a, b) != want {
		t.Errorf("Commute(%v, %v), want %t", a, b, want)
	}
}

func TestCommute(t *testing.T) {
	for _, a := range sample.Dos() {
		for _, b := range sample.Dos() {
			commutes(t, api.Op{Do: a, Key: "a"}, api.Op{Do: b, Key: "a"}, goes(of(a), of(b)))
			commutes(t, api.Op{Do: a, Key: "a"}, api.Op{Do: b, Key: "b"}, true)
			commutes(t, api.Op{Do: a}, api.Op{Do: b}, goes(of(a), of(b)))
		}
	}
}

// That keys are unlike helps none that is no operation.
func TestCommuteOfOtherDos(t *testing.T) {
	for _, a := range sample.OtherDos() {
		for _, b := range append(sample.Dos(), sample.OtherDos()...) {
			for _, k := range []string{"a", "b", "", "A", "aa", "a b"} {
				commutes(t, api.Op{Do: a, Key: "a"}, api.Op{Do: b, Key: k}, false)
				commutes(t, api.Op{Do: b, Key: k}, api.Op{Do: a, Key: "a"}, false)
			}
		}
	}
}

// Keys are held against each other as they are, whether they are keys or not.
func TestCommuteOfKeys(t *testing.T) {
	l := append(append(sample.Keys(), sample.WrongKeys()...), "A", "B", "aa", "a\x00b", strings.Repeat("k", 17)+"l")
	for i, j := range l {
		for _, k := range l {
			// Bytes of its own, so that it is no other one's text.
			own := strings.Clone(k)
			commutes(t, sample.Write(j), sample.Write(own), j != k)
			commutes(t, sample.Read(j), sample.Inc(own, i), j != k)
			commutes(t, sample.Inc(j, i), sample.Dec(own, 1), true)
		}
	}
}

// filled gives operations of these Do and Key, with all kinds of other fields.
func filled(do int, k string) []api.Op {
	var l []api.Op
	for i, n := range []int{0, 1, -1, 5, least, most} {
		l = append(l, api.Op{Do: do, Key: k, N: n}, api.Op{Do: do, Key: k, Lo: n, Hi: -n, N: 3},
			api.Op{Do: do, Key: k, Data: sample.Some(11 * i), Lo: least, Hi: most, N: n})
	}
	return l
}

// Fields beside Do and Key are of no matter, nor is whether an operation may be.
func TestCommuteOfOtherFields(t *testing.T) {
	for _, do := range append(sample.Dos(), -1, 6) {
		for _, by := range sample.Dos() {
			for _, a := range filled(do, "a") {
				for _, b := range filled(by, "a") {
					here := do >= 0 && do < 6
					commutes(t, a, b, here && goes(of(do), of(by)))
					commutes(t, b, a, here && goes(of(by), of(do)))
					b.Key = "b"
					commutes(t, a, b, here)
					commutes(t, b, a, here)
				}
			}
		}
	}
}

// P10.2

// withs fails unless With of set and mode tells want.
func withs(t *testing.T, set, mode, want int) {
	t.Helper()
	if got := With(set, mode); got != want {
		t.Errorf("With(%d, %d) = %d, want %d", set, mode, got, want)
	}
}

func TestWith(t *testing.T) {
	for mode, bit := range []int{1, 2, 4, 8} {
		withs(t, 0, mode, bit)
		withs(t, bit, mode, bit)
		withs(t, 15, mode, 15)
		withs(t, 15-bit, mode, 15)
		withs(t, 16, mode, 16+bit)
		withs(t, -1, mode, -1)
		withs(t, -1-bit, mode, -1)
		withs(t, least, mode, least+bit)
		withs(t, most, mode, most)
		withs(t, most-bit, mode, most)
	}
	withs(t, 1, api.ModeWrite, 3)
	withs(t, 4, api.ModeDec, 12)
	withs(t, 12, api.ModeRead, 13)
}

// With adds the mode's bit, and leaves all the others as they are.
func TestWithOfEachBit(t *testing.T) {
	for _, set := range sets() {
		for _, mode := range all() {
			got := With(set, mode)
			for i := range 64 {
				if want := uint64(set)>>i&1 == 1 || i == mode; uint64(got)>>i&1 == 1 != want {
					t.Errorf("With(%d, %d) = %d: bit %d, want %t", set, mode, got, i, want)
				}
			}
		}
		for _, mode := range others() {
			withs(t, set, mode, set)
		}
	}
}

// has fails unless Has of set and mode tells want.
func has(t *testing.T, set, mode int, want bool) {
	t.Helper()
	if Has(set, mode) != want {
		t.Errorf("Has(%d, %d), want %t", set, mode, want)
	}
}

func TestHas(t *testing.T) {
	for mode, bit := range []int{1, 2, 4, 8} {
		for _, set := range []int{bit, 15, bit + 16, -1, most, least + bit, bit - 16} {
			has(t, set, mode, true)
		}
		for _, set := range []int{0, 15 - bit, 16, -16, -1 - bit, most - bit, least, least + 16, 1 << 62, 1 << 32} {
			has(t, set, mode, false)
		}
	}
	for _, set := range sets() {
		for i := range 64 {
			has(t, set, i, i < 4 && uint64(set)>>i&1 == 1)
		}
		for _, mode := range others() {
			has(t, set, mode, false)
		}
	}
}

// fits fails unless Fits of set, whatever else it has, and mode tells want.
func fits(t *testing.T, set, mode int, want bool) {
	t.Helper()
	for _, rest := range []int{0, 16, 1 << 32, 1 << 62, most - 15, least, -16} {
		if Fits(rest|set, mode) != want {
			t.Errorf("Fits(%d, %d), want %t", rest|set, mode, want)
		}
	}
}

func TestFits(t *testing.T) {
	// Of each set from none on: what fits, as a set.
	for set, what := range []int{
		0b1111, 0b0001, 0, 0, 0b1100, 0, 0, 0,
		0b1100, 0, 0, 0, 0b1100, 0, 0, 0,
	} {
		for _, mode := range all() {
			fits(t, set, mode, what>>mode&1 == 1)
		}
		for _, mode := range others() {
			fits(t, set, mode, false)
		}
	}
	if Fits(0, -1) || Fits(0, 4) || Fits(0, least) || Fits(0, most) {
		t.Error("no mode fits the empty set")
	}
}

// What fits goes together with each mode of the set.
func TestFitsIsCompatWithEach(t *testing.T) {
	for _, set := range sets() {
		for _, mode := range all() {
			want := true
			for _, other := range all() {
				want = want && (!Has(set, other) || Compat(mode, other))
			}
			if Fits(set, mode) != want {
				t.Errorf("Fits(%d, %d), want %t", set, mode, want)
			}
		}
	}
}

// P10.3

// swaps fails unless Swap of s, a and b, and of s, b and a, tells want.
func swaps(t *testing.T, s []api.Pair, a, b api.Op, want bool) {
	t.Helper()
	if Swap(s, a, b) != want || Swap(s, b, a) != want {
		t.Errorf("Swap(%v, %v, %v), want %t", s, a, b, want)
	}
}

// rec and cnt give the states in which a is a record, and the counter 3 from 0
// to 5.
func rec() []api.Pair { return sample.Only("a", sample.Record(1)) }
func cnt() []api.Pair { return sample.Only("a", sample.Counter(0, 5, 3)) }

// at gives the state in which a is the counter val from 0 to 5.
func at(val int) []api.Pair { return sample.Only("a", sample.Counter(0, 5, val)) }

// nothings gives states in which a has nothing.
func nothings() [][]api.Pair {
	return [][]api.Pair{nil, {}, sample.Only("b", sample.Record(7)), {sample.Pair("!", sample.Record()), sample.Pair("b", sample.Counter(0, 5, 3))}}
}

func TestSwapOnRecords(t *testing.T) {
	swaps(t, rec(), sample.Read("a"), sample.Read("a"), true)
	swaps(t, rec(), sample.Read("a"), sample.Write("a", 2), false)
	swaps(t, rec(), sample.Read("a"), sample.Write("a", 1, 0), false)
	swaps(t, rec(), sample.Read("a"), sample.Write("a", 1), true)
	swaps(t, rec(), sample.Read("a"), sample.Drop("a"), false)
	swaps(t, rec(), sample.Read("a"), sample.Create("a", 0, 5, 3), true)
	swaps(t, rec(), sample.Read("a"), sample.Inc("a", 1), true)
	swaps(t, rec(), sample.Write("a", 2), sample.Write("a", 3), false)
	swaps(t, rec(), sample.Write("a", 2), sample.Write("a", 2), true)
	swaps(t, rec(), sample.Write("a", 2), sample.Drop("a"), false)
	swaps(t, rec(), sample.Write("a", 2), sample.Inc("a", 0), true)
	swaps(t, rec(), sample.Drop("a"), sample.Drop("a"), false)
	swaps(t, rec(), sample.Drop("a"), sample.Create("a", 0, 5, 3), false)
	swaps(t, rec(), sample.Drop("a"), sample.Dec("a", 0), false)
	swaps(t, rec(), sample.Inc("a", 1), sample.Dec("a", 1), true)
}

func TestSwapOnCounters(t *testing.T) {
	swaps(t, cnt(), sample.Read("a"), sample.Read("a"), true)
	swaps(t, cnt(), sample.Read("a"), sample.Inc("a", 1), false)
	swaps(t, cnt(), sample.Read("a"), sample.Dec("a", 1), false)
	swaps(t, cnt(), sample.Read("a"), sample.Inc("a", 0), true)
	swaps(t, cnt(), sample.Read("a"), sample.Inc("a", 3), true)
	swaps(t, cnt(), sample.Read("a"), sample.Write("a", 1), true)
	swaps(t, cnt(), sample.Read("a"), sample.Drop("a"), false)
	swaps(t, cnt(), sample.Write("a", 1), sample.Drop("a"), false)
	swaps(t, cnt(), sample.Write("a", 1), sample.Inc("a", 1), true)
	swaps(t, cnt(), sample.Create("a", 0, 1, 0), sample.Create("a", 0, 5, 3), true)
	swaps(t, cnt(), sample.Create("a", 0, 5, 3), sample.Drop("a"), false)
	swaps(t, cnt(), sample.Drop("a"), sample.Drop("a"), false)
	swaps(t, cnt(), sample.Drop("a"), sample.Inc("a", 1), false)
	swaps(t, cnt(), sample.Drop("a"), sample.Dec("a", 0), false)
}

func TestSwapOnNothing(t *testing.T) {
	for _, s := range nothings() {
		swaps(t, s, sample.Read("a"), sample.Read("a"), true)
		swaps(t, s, sample.Read("a"), sample.Write("a", 1), false)
		swaps(t, s, sample.Read("a"), sample.Create("a", 0, 5, 3), false)
		swaps(t, s, sample.Read("a"), sample.Drop("a"), true)
		swaps(t, s, sample.Read("a"), sample.Inc("a", 1), true)
		swaps(t, s, sample.Write("a", 1), sample.Write("a", 1), true)
		swaps(t, s, sample.Write("a", 1), sample.Write("a"), false)
		swaps(t, s, sample.Write("a", 1), sample.Create("a", 0, 5, 3), false)
		swaps(t, s, sample.Write("a", 1), sample.Drop("a"), false)
		swaps(t, s, sample.Write("a", 1), sample.Inc("a", 1), false)
		swaps(t, s, sample.Create("a", 0, 5, 3), sample.Create("a", 0, 5, 3), false)
		swaps(t, s, sample.Create("a", 0, 5, 3), sample.Drop("a"), false)
		swaps(t, s, sample.Create("a", 0, 5, 3), sample.Inc("a", 1), false)
		swaps(t, s, sample.Create("a", 0, 5, 3), sample.Dec("a", 0), false)
		swaps(t, s, sample.Drop("a"), sample.Drop("a"), true)
		swaps(t, s, sample.Drop("a"), sample.Inc("a", 1), true)
		swaps(t, s, sample.Inc("a", 1), sample.Dec("a", 1), true)
	}
}

// Whether a bound is passed may hang on the order.
func TestSwapAtBounds(t *testing.T) {
	swaps(t, cnt(), sample.Inc("a", 1), sample.Inc("a", 1), true)
	swaps(t, cnt(), sample.Inc("a", 2), sample.Dec("a", 3), true)
	swaps(t, cnt(), sample.Dec("a", 1), sample.Dec("a", 2), true)
	// Past the bound in one order alone.
	swaps(t, at(5), sample.Inc("a", 1), sample.Dec("a", 1), false)
	swaps(t, at(4), sample.Inc("a", 2), sample.Dec("a", 3), false)
	swaps(t, at(0), sample.Inc("a", 1), sample.Dec("a", 1), false)
	swaps(t, at(2), sample.Inc("a", 1), sample.Dec("a", 3), false)
	// In both orders, each time the one that is behind.
	swaps(t, cnt(), sample.Inc("a", 1), sample.Inc("a", 2), false)
	swaps(t, cnt(), sample.Dec("a", 2), sample.Dec("a", 3), false)
	// The state is the same then, and what is told is not: each time it is one of
	// two that are alike.
	swaps(t, at(4), sample.Inc("a", 1), sample.Inc("a", 1), false)
	swaps(t, at(1), sample.Dec("a", 1), sample.Dec("a", 1), false)
	// In both orders, each time the same one, or both.
	swaps(t, cnt(), sample.Inc("a", 1), sample.Inc("a", 3), true)
	swaps(t, cnt(), sample.Dec("a", 1), sample.Dec("a", 4), true)
	swaps(t, cnt(), sample.Inc("a", 1), sample.Dec("a", most), true)
	swaps(t, at(5), sample.Inc("a", 1), sample.Inc("a", most), true)
	swaps(t, at(5), sample.Inc("a", 3), sample.Inc("a", 4), true)
	swaps(t, at(0), sample.Dec("a", 1), sample.Dec("a", 2), true)
	swaps(t, at(3), sample.Inc("a", 9), sample.Dec("a", 9), true)
}

// Sums that go round would be within the bounds again.
func TestSwapOfGreatNumbers(t *testing.T) {
	s := sample.Only("a", sample.Counter(least, most, 0))
	swaps(t, s, sample.Inc("a", most), sample.Dec("a", most), true)
	swaps(t, s, sample.Inc("a", most), sample.Inc("a", 1), false)
	swaps(t, s, sample.Dec("a", most), sample.Dec("a", 1), true)
	swaps(t, s, sample.Dec("a", most), sample.Dec("a", 2), false)
	s = sample.Only("a", sample.Counter(least, most, most))
	swaps(t, s, sample.Inc("a", 1), sample.Inc("a", most), true)
	swaps(t, s, sample.Inc("a", 1), sample.Dec("a", 1), false)
	swaps(t, s, sample.Dec("a", 1), sample.Dec("a", most), true)
	s = sample.Only("a", sample.Counter(least, most, least))
	swaps(t, s, sample.Dec("a", 1), sample.Inc("a", 1), false)
	swaps(t, s, sample.Inc("a", most), sample.Inc("a", 1), true)
}

// Of two keys each has its own.
func TestSwapOfTwoKeys(t *testing.T) {
	whats := []api.Cell{{}, sample.Record(1), sample.Record(), sample.Counter(0, 5, 3), sample.Counter(least, most, 5)}
	for _, x := range whats {
		for _, y := range whats {
			m := map[string]api.Cell{"!": sample.Record(9)}
			if x.Kind != api.KindNone {
				m["a"] = x
			}
			if y.Kind != api.KindNone {
				m["b"] = y
			}
			s := sample.StateOf(m)
			for _, a := range ops("a") {
				for _, b := range ops("b") {
					swaps(t, s, a, b, true)
				}
			}
		}
	}
}

// ops gives operations on k of each Do, few of which may not be.
func ops(k string) []api.Op {
	return []api.Op{
		sample.Read(k), sample.Write(k, 1), sample.Write(k, 2, 3), sample.Write(k), sample.Create(k, 0, 5, 3), sample.Create(k, -9, 9, 3), sample.Drop(k),
		sample.Inc(k, 0), sample.Inc(k, 1), sample.Inc(k, 2), sample.Inc(k, 3), sample.Inc(k, most), sample.Dec(k, 0), sample.Dec(k, 1), sample.Dec(k, 3), sample.Dec(k, 4), sample.Dec(k, most),
		sample.Write(k, sample.Some(33)...), sample.Create(k, 4, 5, 3), sample.Inc(k, -1), sample.Dec(k, least), {Do: 6, Key: k}, {Do: -1, Key: k},
	}
}

// What is refused is refused on either side, and does nothing.
func TestSwapOfWhatMayNotBe(t *testing.T) {
	wrong := []api.Op{
		{Do: 6, Key: "a"}, {Do: -1, Key: "a"}, {Do: least, Key: "a"}, {Do: most, Key: "a"}, {}, sample.Read("a b"), sample.Write(""), sample.Write("a", sample.Some(33)...),
		sample.Create("a", 5, 0, 3), sample.Create("a", 0, 5, 6), sample.Inc("a", -1), sample.Dec("a", -1), sample.Inc("a", least), sample.Drop(strings.Repeat("k", 17)),
	}
	for _, s := range append(nothings(), rec(), cnt(), at(0), at(5)) {
		for _, a := range wrong {
			for _, b := range append(ops("a"), wrong...) {
				swaps(t, s, a, b, true)
			}
		}
	}
}

// swapped tells of two operations, done to s one behind the other in either
// order, whether one tells ErrBounds, and whether all is the same.
func swapped(s []api.Pair, a, b api.Op) (bool, bool) {
	one, a1 := model.Step(s, a)
	one, b2 := model.Step(one, b)
	other, b1 := model.Step(s, b)
	other, a2 := model.Step(other, a)
	bound := false
	for _, x := range []api.Answer{a1, a2, b1, b2} {
		bound = bound || x.Err == api.ErrBounds
	}
	return bound, sample.LikeAnswer(a1, a2) && sample.LikeAnswer(b1, b2) && sample.LikeState(one, other)
}

// manyStates gives states in which a and b have many things, and others.
func manyStates() [][]api.Pair {
	l := append(append(sample.States(), nothings()...), rec())
	for val := range 6 {
		l = append(l, at(val), []api.Pair{sample.Pair("a", sample.Counter(-3, val, val-3)), sample.Pair("b", sample.Counter(least, val, val))})
	}
	return l
}

// manyOps gives operations on a and b, and others.
func manyOps() []api.Op {
	return slices.Concat(ops("a"), ops("b"), sample.FewOps(), sample.AnyOps(30, 7))
}

func TestSwapOfManyOps(t *testing.T) {
	seen := map[bool]int{}
	for _, s := range manyStates() {
		for _, a := range manyOps() {
			for _, b := range manyOps() {
				_, want := swapped(s, a, b)
				seen[want]++
				if Swap(s, a, b) != want {
					t.Errorf("Swap(%v, %v, %v), want %t", s, a, b, want)
				}
			}
		}
	}
	if seen[true] < 1000 || seen[false] < 1000 {
		t.Errorf("too few of a kind: %v", seen)
	}
}

// Of lists that are no states nothing is asked but an end.
func TestSwapOfNoStateEnds(t *testing.T) {
	for _, s := range sample.WrongStates() {
		l := append(ops("m"), ops("a")...)
		for _, p := range s {
			l = append(l, sample.Read(p.Key), sample.Write(p.Key, 1), sample.Drop(p.Key), sample.Inc(p.Key, 1), sample.Dec(p.Key, most))
		}
		for i, a := range l {
			for _, b := range l[:i+1] {
				Swap(s, a, b)
				Swap(s, b, a)
			}
		}
	}
}

// P10.4

func TestWhatCommutesSwaps(t *testing.T) {
	held := map[int]int{}
	for _, s := range manyStates() {
		for _, a := range manyOps() {
			for _, b := range manyOps() {
				if bound, _ := swapped(s, a, b); bound || !Commute(a, b) {
					continue
				}
				held[With(0, Of(a.Do))|With(0, Of(b.Do))]++
				if !Swap(s, a, b) {
					t.Errorf("Commute(%v, %v), and no Swap of them on %v", a, b, s)
				}
			}
		}
	}
	for _, a := range all() {
		for _, b := range all() {
			if held[With(0, a)|With(0, b)] == 0 {
				t.Errorf("nothing of the modes %d and %d was tried", a, b)
			}
		}
	}
}

// A bound can be in the way of what commutes.
func TestABoundIsInTheWay(t *testing.T) {
	a, b := sample.Inc("a", 1), sample.Dec("a", 1)
	commutes(t, a, b, true)
	swaps(t, at(5), a, b, false)
	commutes(t, a, a, true)
	swaps(t, at(4), a, a, false)
}

func TestModesThatAreNotCompat(t *testing.T) {
	type try struct {
		s    []api.Pair
		a, b api.Op
	}
	// By the modes of a and of b.
	tries := map[[2]int]try{
		{0, 1}: {rec(), sample.Read("a"), sample.Write("a", 2)},
		{0, 2}: {cnt(), sample.Read("a"), sample.Inc("a", 1)},
		{0, 3}: {cnt(), sample.Read("a"), sample.Dec("a", 1)},
		{1, 1}: {nil, sample.Write("a", 1), sample.Write("a", 2)},
		{1, 2}: {cnt(), sample.Drop("a"), sample.Inc("a", 1)},
		{1, 3}: {cnt(), sample.Drop("a"), sample.Dec("a", 1)},
	}
	for _, x := range all() {
		for _, y := range all() {
			if Compat(x, y) {
				continue
			}
			c, ok := tries[[2]int{min(x, y), max(x, y)}]
			bound, same := swapped(c.s, c.a, c.b)
			if !ok || bound || same || Of(c.a.Do) != min(x, y) || Of(c.b.Do) != max(x, y) {
				t.Errorf("the modes %d and %d: %v is none that tells them apart", x, y, c)
			}
			swaps(t, c.s, c.a, c.b, false)
			commutes(t, c.a, c.b, false)
			commutes(t, c.b, c.a, false)
		}
	}
}

// P10.5

func TestBothWays(t *testing.T) {
	for _, a := range append(all(), others()...) {
		for _, b := range append(all(), others()...) {
			if Compat(a, b) != Compat(b, a) {
				t.Errorf("Compat(%d, %d) is not what it is the other way round", a, b)
			}
			if Fits(With(0, a), b) != Fits(With(0, b), a) && Has(15, a) && Has(15, b) {
				t.Errorf("Fits of %d and %d is not what it is the other way round", a, b)
			}
		}
	}
	for _, a := range manyOps() {
		for _, b := range manyOps() {
			commutes(t, a, b, Commute(b, a))
		}
	}
}

// orders gives every row of at most n of these modes, each as often as it likes.
func orders(n int, of ...int) [][]int {
	l := [][]int{nil}
	for i := 0; i < len(l); i++ {
		for _, mode := range of {
			if len(l[i]) < n {
				l = append(l, append(slices.Clone(l[i]), mode))
			}
		}
	}
	return l
}

func TestASetIsTheSameInAnyOrder(t *testing.T) {
	for _, start := range []int{0, 1, 10, 15, 16, -1, -16, least, most, most - 15} {
		for _, row := range orders(5, 0, 1, 2, 3, -1) {
			set, want := start, start
			for _, mode := range row {
				set = With(set, mode)
				if mode >= 0 {
					want |= []int{1, 2, 4, 8}[mode]
				}
			}
			if set != want {
				t.Errorf("%d with %v is %d, want %d", start, row, set, want)
			}
			for _, mode := range row {
				has(t, set, mode, mode >= 0)
			}
		}
	}
}

// Memory

func TestWhatIsHandedInStaysAsItWas(t *testing.T) {
	for _, was := range append(manyStates(), sample.WrongStates()...) {
		s, kept := sample.RoomyState(was)
		l, keptOps := sample.RoomyOps(append(ops("a"), sample.Write("m", 1, 2, 3), sample.Read("m"), sample.Drop("m"), sample.Inc("m", 1), sample.Write("z", sample.Some(32)...)))
		for _, a := range l {
			for _, b := range l {
				Swap(s, a, b)
				Commute(a, b)
			}
		}
		if !kept() || !keptOps() {
			t.Errorf("%v, was %v", s, was)
		}
	}
}

func TestNilAndEmptyAreAlike(t *testing.T) {
	for _, a := range manyOps() {
		for _, b := range manyOps() {
			if Swap(nil, a, b) != Swap([]api.Pair{}, a, b) {
				t.Errorf("Swap(nil, %v, %v) is not that of an empty list", a, b)
			}
		}
	}
	empty := api.Op{Do: api.DoWrite, Key: "a", Data: []byte{}}
	swaps(t, nil, sample.Write("a"), empty, true)
	swaps(t, []api.Pair{sample.Pair("a", api.Cell{Kind: api.KindRecord, Data: []byte{}})}, sample.Read("a"), sample.Write("a"), true)
	swaps(t, sample.Only("a", sample.Record()), sample.Read("a"), empty, true)
}

// Answers hang on the arguments alone.
func TestCallsTellTheSameAgain(t *testing.T) {
	s := at(5)
	for range 3 {
		swaps(t, s, sample.Inc("a", 1), sample.Dec("a", 1), false)
		swaps(t, s, sample.Dec("a", 1), sample.Dec("a", 1), true)
		fits(t, With(With(0, 2), 3), api.ModeInc, true)
		fits(t, With(0, 1), api.ModeRead, false)
	}
}

func TestExample(t *testing.T) {
	commutes(t, sample.Inc("a", 1), sample.Dec("a", 1), true)
	commutes(t, sample.Read("a"), sample.Inc("a", 1), false)
}
