package sample

import (
	"bytes"
	"maps"
	"math"
	"slices"

	"moneyer/api"
)

// Dos gives what operations do.
func Dos() []int {
	return []int{api.DoRead, api.DoWrite, api.DoCreate, api.DoDrop, api.DoInc, api.DoDec}
}

// OtherDos gives numbers of which there are no operations.
func OtherDos() []int {
	return []int{
		-1, 6, -2, -5, -6, 7, 8, 9, 127, 128, 255, 256, 257, 260, 1 << 16, 1<<16 + 1, 1 << 32, 1<<32 + 1, 1<<32 + 4, 1 << 62,
		-255, -256, -1 << 32, math.MinInt, math.MinInt + 1, math.MinInt + 4, math.MaxInt, math.MaxInt - 1,
	}
}

// Read gives the operation that reads k.
func Read(k string) api.Op {
	return api.Op{Do: api.DoRead, Key: k}
}

// Write gives the operation that makes k the record of these bytes.
func Write(k string, b ...byte) api.Op {
	return api.Op{Do: api.DoWrite, Key: k, Data: b}
}

// Create gives the operation that makes k the counter n from lo to hi.
func Create(k string, lo, hi, n int) api.Op {
	return api.Op{Do: api.DoCreate, Key: k, Lo: lo, Hi: hi, N: n}
}

// Drop gives the operation that leaves k nothing.
func Drop(k string) api.Op {
	return api.Op{Do: api.DoDrop, Key: k}
}

// Inc gives the operation that adds n to k.
func Inc(k string, n int) api.Op {
	return api.Op{Do: api.DoInc, Key: k, N: n}
}

// Dec gives the operation that takes n off from k.
func Dec(k string, n int) api.Op {
	return api.Op{Do: api.DoDec, Key: k, N: n}
}

// FewOps gives operations that have errors between them, done one behind the
// other.
func FewOps() []api.Op {
	return []api.Op{
		Create("a", 0, 5, 3), Inc("a", 3), Inc("a", 2), Read("a"), Write("a", 1), Dec("a", 6), Dec("a", 5), Inc("a", -1), Read("a"),
		Read("b"), Write("b", 1, 2), Read("b"), Inc("b", 1), Create("b", 0, 0, 0), Write("b"), Read("b"), Drop("b"), Drop("b"), Read("b"),
		Create("b", 5, 0, 3), Create("b", -5, 0, -3), Read("b"), {Do: 6, Key: "b"}, {Do: -1, Key: "b"}, Read("a b"), Drop("a"), Write("a", 7), Read("a"),
		Write("m", Some(33)...), Write("m", Some(32)...), Read("m"), Drop("m"), Create("m", math.MinInt, math.MaxInt, math.MaxInt), Inc("m", 1), Dec("m", 1), Read("m"),
	}
}

// AnyOps gives n operations that look like nothing, few of which may not be.
func AnyOps(n, seed int) []api.Op {
	b := Some(6*n + seed)[seed:]
	ks := Keys()
	ns := []int{math.MaxInt, math.MaxInt - 1, 0, 1, 2, 3, 5, 7, 11, 100, -1, -3, math.MinInt, math.MinInt + 1}
	var l []api.Op
	for i := range n {
		c := b[6*i:]
		x := api.Op{Do: int(c[0] % 6), Key: ks[int(c[1])%len(ks)], Data: Some(int(c[2] % 33)), Lo: ns[int(c[3])%len(ns)], Hi: ns[int(c[4])%len(ns)], N: ns[int(c[5])%len(ns)]}
		if x.Do == api.DoCreate {
			x.Lo, x.Hi = min(x.Lo, x.Hi), max(x.Lo, x.Hi)
		}
		l = append(l, x)
	}
	return l
}

// Pair gives that k has c.
func Pair(k string, c api.Cell) api.Pair {
	return api.Pair{Key: k, Cell: c}
}

// Only gives the state in which k alone has c.
func Only(k string, c api.Cell) []api.Pair {
	return []api.Pair{Pair(k, c)}
}

// States gives states that are Right.
func States() [][]api.Pair {
	rec, cnt := Record([]byte("ab")...), Counter(0, 5, 3)
	wide := Counter(math.MinInt, math.MaxInt, 2)
	l := [][]api.Pair{
		nil, {}, Only("m", rec), Only("m", cnt), Only("a", rec), Only("z", cnt), Only("m1", wide), Only("l", Record()),
		{Pair("a", rec), Pair("m", cnt), Pair("z", rec)}, {Pair("a", cnt), Pair("m", rec), Pair("z", cnt)}, {Pair("a", rec), Pair("z", cnt)},
		{Pair("m", cnt), Pair("m1", cnt), Pair("n", rec)}, {Pair("m", rec), Pair("m1", rec), Pair("n", cnt)}, {Pair("a", wide), Pair("b", rec), Pair("m", wide)},
		{Pair("!", Record(Some(32)...)), Pair("a", Record()), Pair("m", Record(Some(32)...))},
		{Pair("a", Counter(math.MinInt, math.MaxInt, math.MaxInt)), Pair("m", Counter(math.MinInt, math.MaxInt, math.MinInt)), Pair("z", Counter(-2, -1, -2))},
	}
	return append(l, GreatState())
}

// GreatState gives a state of many keys, with all kinds of cells.
func GreatState() []api.Pair {
	m := map[string]api.Cell{}
	cells := Cells()
	for i, k := range Keys() {
		m[k] = cells[i*5%len(cells)]
	}
	return StateOf(m)
}

// StateOf gives the state that m tells.
func StateOf(m map[string]api.Cell) []api.Pair {
	var s []api.Pair
	for _, k := range slices.Sorted(maps.Keys(m)) {
		s = append(s, Pair(k, m[k]))
	}
	return s
}

// WrongStates gives lists that are no states.
func WrongStates() [][]api.Pair {
	rec, cnt := Record(1, 2), Counter(0, 5, 3)
	l := [][]api.Pair{
		{Pair("a", rec), Pair("a", rec)}, {Pair("a", rec), Pair("a", cnt)}, {Pair("b", rec), Pair("a", cnt)}, {Pair("b", rec), Pair("ab", rec)}, {Pair("ab", rec), Pair("a", rec)},
		{Pair("a", rec), Pair("b", cnt), Pair("b", cnt)}, {Pair("a", rec), Pair("c", cnt), Pair("b", rec)}, {Pair("b", cnt), Pair("a", rec), Pair("c", rec)},
		{Pair("a", rec), Pair("b", rec), Pair("a", rec)}, {Pair("b", rec), Pair("a", cnt), Pair("b", cnt)}, {Pair("z", cnt), Pair("m", rec), Pair("a", cnt)},
		{Pair("a", rec), Pair("a", rec), Pair("b", rec)}, {Pair("~", rec), Pair("!", rec)}, {Pair("a", rec), Pair("A", rec)}, {Pair("b", rec), Pair("aaa", rec)},
		{{}}, {{}, {}}, {{}, Pair("a", rec)}, {Pair("a", rec), {}}, {Pair("", rec)}, {Pair("", rec), Pair("", cnt)},
	}
	for _, k := range WrongKeys() {
		l = append(l, Only(k, rec), Only(k, cnt), []api.Pair{Pair("!", rec), Pair(k, rec)}, []api.Pair{Pair(k, rec), Pair("~", rec)}, []api.Pair{Pair("a", rec), Pair("a"+k+"\x01", rec), Pair("b", cnt)})
	}
	for _, c := range WrongCells() {
		l = append(l, Only("m", c), []api.Pair{Pair("a", rec), Pair("m", c)}, []api.Pair{Pair("m", c), Pair("z", rec)}, []api.Pair{Pair("a", rec), Pair("m", c), Pair("z", cnt)})
	}
	return l
}

// LikeCell tells whether a and b have the same fields.
func LikeCell(a, b api.Cell) bool {
	return a.Kind == b.Kind && bytes.Equal(a.Data, b.Data) && a.Lo == b.Lo && a.Hi == b.Hi && a.Val == b.Val
}

// LikeAnswer tells whether a and b have the same fields.
func LikeAnswer(a, b api.Answer) bool {
	return a.Err == b.Err && LikeCell(a.Cell, b.Cell)
}

// LikeOp tells whether a and b have the same fields.
func LikeOp(a, b api.Op) bool {
	return a.Do == b.Do && a.Key == b.Key && bytes.Equal(a.Data, b.Data) && a.Lo == b.Lo && a.Hi == b.Hi && a.N == b.N
}

// LikeState tells whether s and t have the same pairs.
func LikeState(s, t []api.Pair) bool {
	return slices.EqualFunc(s, t, func(a, b api.Pair) bool {
		return a.Key == b.Key && LikeCell(a.Cell, b.Cell)
	})
}

// Twin gives s in memory of its own.
func Twin(s []api.Pair) []api.Pair {
	t := slices.Clone(s)
	for i := range t {
		t[i].Cell.Data = bytes.Clone(t[i].Cell.Data)
	}
	return t
}

// RoomyState gives s with spare room behind each of its lists, and a function
// that tells whether all of it is as it was.
func RoomyState(s []api.Pair) ([]api.Pair, func() bool) {
	whole := slices.Concat(s, slices.Repeat(Only("room", api.Cell{Kind: 7, Lo: 8}), 3))
	var datas, were [][]byte
	for i := range s {
		data, all := Roomy(s[i].Cell.Data...)
		whole[i].Cell.Data = data
		datas, were = append(datas, all), append(were, bytes.Clone(all))
	}
	was := Twin(whole)
	return whole[:len(s)], func() bool {
		return LikeState(whole, was) && slices.EqualFunc(datas, were, bytes.Equal)
	}
}

// RoomyOps gives l with spare room behind each of its lists, and a function that
// tells whether all of it is as it was.
func RoomyOps(l []api.Op) ([]api.Op, func() bool) {
	whole := slices.Concat(l, slices.Repeat([]api.Op{{Do: 9, Key: "room", Lo: -3, Hi: 12, N: 5}}, 2))
	var datas, were [][]byte
	for i := range l {
		data, all := Roomy(l[i].Data...)
		whole[i].Data = data
		datas, were = append(datas, all), append(were, bytes.Clone(all))
	}
	was := slices.Clone(whole)
	for i := range was {
		was[i].Data = bytes.Clone(was[i].Data)
	}
	return whole[:len(l)], func() bool {
		return slices.EqualFunc(whole, was, LikeOp) && slices.EqualFunc(datas, were, bytes.Equal)
	}
}
