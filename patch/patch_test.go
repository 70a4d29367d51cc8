package patch

import (
	"bytes"
	"encoding/binary"
	"math"
	"slices"
	"testing"

	"moneyer/api"
	"moneyer/page"
	"moneyer/sample"
)

// anyPage gives a page of bytes that look like nothing.
func anyPage(n int) page.Page {
	return page.Page(sample.Some(n + 512)[n:])
}

// with gives p with the bytes at these places unlike.
func with(p page.Page, at ...int) page.Page {
	for _, i := range at {
		p[i] ^= 0x5a
	}
	return p
}

// places gives the numbers from lo up to hi, by steps.
func places(lo, hi, step int) []int {
	var l []int
	for i := lo; i < hi; i += step {
		l = append(l, i)
	}
	return l
}

// run gives the run of these bytes.
func run(at int, b ...byte) api.Run {
	return api.Run{At: at, Data: b}
}

// long gives a run of n bytes.
func long(at, n int) api.Run {
	return api.Run{At: at, Data: sample.Some(n)}
}

// of gives the patch of a page that is not fresh.
func of(no int, l ...api.Run) api.Patch {
	return api.Patch{Page: no, Runs: l}
}

// fresh gives the patch of a fresh page.
func fresh(no int, l ...api.Run) api.Patch {
	return api.Patch{Page: no, Fresh: true, Runs: l}
}

// copied gives x in memory of its own.
func copied(x api.Patch) api.Patch {
	x.Runs = copiedRuns(x.Runs)
	return x
}

// copiedRuns gives l in memory of its own.
func copiedRuns(l []api.Run) []api.Run {
	l = slices.Clone(l)
	for i := range l {
		l[i].Data = bytes.Clone(l[i].Data)
	}
	return l
}

// likeRuns tells whether a and b are the same runs.
func likeRuns(a, b []api.Run) bool {
	if len(a) != len(b) {
		return false
	}
	for i, r := range a {
		if r.At != b[i].At || string(r.Data) != string(b[i].Data) {
			return false
		}
	}
	return true
}

// like tells whether a and b have the same fields.
func like(a, b api.Patch) bool {
	return a.Page == b.Page && a.Fresh == b.Fresh && likeRuns(a.Runs, b.Runs)
}

// scribble writes over all memory of l.
func scribble(l []api.Run) {
	for _, r := range l {
		sample.Scribble(r.Data)
	}
	l = l[:cap(l)]
	for i := range l {
		l[i] = api.Run{At: -7, Data: []byte{7}}
	}
}

// goods gives patches that may be.
func goods() []api.Patch {
	var seconds, thirds []api.Run
	for at := 12; at < 512; at += 2 {
		seconds = append(seconds, run(at, byte(at)))
	}
	for at := 13; at < 512; at += 3 {
		thirds = append(thirds, run(at, byte(at), byte(at>>1)))
	}
	thirds = thirds[:len(thirds)-1]
	l := []api.Patch{
		{}, fresh(0), of(65535), fresh(65535), of(258), {Runs: []api.Run{}},
		of(1, run(12, 0)), of(1, run(511, 0)), fresh(258, run(12, 1), run(511, 2)), of(256, long(12, 500)), fresh(255, long(12, 500)),
		of(3, run(12, 1), run(14, 2), run(16, 3, 4, 5)), of(4, long(12, 255), long(268, 244)), of(5, long(12, 256), long(269, 243)),
		of(6, long(13, 498)), of(7, long(100, 257), long(400, 3)), fresh(8, run(200, 0, 0, 0)), fresh(32768, long(12, 400), long(413, 99)),
		{Page: 9, Fresh: true, Runs: seconds}, {Page: 10, Runs: thirds}, of(511, run(508, 1), run(510, 1, 2)), of(257, run(257, 255, 255), run(261, 255)),
	}
	for n := range 40 {
		l = append(l, api.Patch{Page: n * 1677, Fresh: n%3 == 0, Runs: someRuns(n)})
	}
	return l
}

// someRuns gives runs that may be, of lengths and places that look like nothing.
func someRuns(n int) []api.Run {
	var l []api.Run
	at := 12
	for i, x := range sample.Some(n + 100)[n:] {
		at += int(x) % (n + 2)
		size := 1 + int(x)/7%(2*n+1)
		if at+size > 512 {
			break
		}
		l = append(l, api.Run{At: at, Data: sample.Some(size + i)[i:]})
		at += size + 1
	}
	return l
}

// wrongRuns gives lists of runs that may not be, of which numbers of two bytes
// tell.
func wrongRuns() [][]api.Run {
	return [][]api.Run{
		{run(12)}, {run(100)}, {run(511)}, {run(512)}, {run(0)}, {run(65535)}, {run(12, 1), run(14)}, {run(12), run(14, 1)}, {run(12, 1), run(14), run(16, 1)},
		{run(11, 1)}, {run(11, 1, 2)}, {run(0, 1)}, {long(0, 512)}, {long(11, 501)}, {run(10, 1, 2, 3, 4)}, {run(12, 1), run(0, 2)},
		{run(512, 1)}, {run(511, 1, 2)}, {long(12, 501)}, {long(13, 500)}, {long(12, 65535)}, {long(511, 256)}, {long(512, 512)}, {run(65535, 1)}, {run(65534, 1, 2)},
		{run(268, 1), run(12, 1)}, {long(65535, 65535)}, {run(13+256, 1), run(13, 1)}, {run(500, 1), run(510, 1, 2, 3)},
		{run(12, 1), run(13, 2)}, {run(12, 1, 2), run(14, 3)}, {run(12, 1, 2), run(13, 3)}, {run(12, 1, 2), run(12, 3)}, {run(12, 1), run(12, 1)},
		{run(14, 1), run(12, 1)}, {run(511, 1), run(12, 1)}, {run(40, 1, 2, 3, 4), run(41, 1)}, {run(40, 1, 2, 3, 4), run(38, 1)}, {run(40, 1, 2, 3, 4), run(38, 1, 2, 3)},
		{run(12, 1), run(20, 1), run(18, 1)}, {run(12, 1), run(20, 1), run(21, 1)}, {run(12, 1), run(20, 1), run(30, 1), run(25, 1)}, {run(510, 1), run(511, 1)},
		{long(12, 300), run(400, 1), run(350, 1)}, {long(12, 250), long(262, 250)}, {long(12, 499), run(511, 1)}, {long(12, 200), long(100, 200)},
	}
}

// farRuns gives lists of runs that may not be, at places that two bytes do not
// tell.
func farRuns() [][]api.Run {
	var l [][]api.Run
	for _, at := range []int{
		-1, -2, -12, -500, -512, -65536, -65524, 65536, 65548, 1<<32 + 12, math.MinInt, math.MinInt + 1, math.MinInt + 12, math.MinInt + 512,
		math.MaxInt, math.MaxInt - 1, math.MaxInt - 511, math.MaxInt - 512, 1 << 62, -1 << 62,
	} {
		for _, n := range []int{0, 1, 2, 12, 13, 500, 512, 513} {
			l = append(l, []api.Run{long(at, n)}, []api.Run{run(12, 1), long(at, n)}, []api.Run{long(at, n), run(12, 1)})
		}
	}
	return l
}

// wrongs gives patches that may not be.
func wrongs() []api.Patch {
	var l []api.Patch
	for _, no := range []int{-1, -2, -65535, -65536, 65536, 65537, 1 << 17, 1 << 32, 1<<32 + 3, math.MinInt, math.MaxInt} {
		l = append(l, of(no), fresh(no), of(no, run(12, 1)), fresh(no, run(12, 1), run(14, 1)))
	}
	for i, runs := range append(wrongRuns(), farRuns()...) {
		l = append(l, api.Patch{Page: i, Fresh: i%2 == 1, Runs: runs})
	}
	for _, n := range []int{251, 499, 500, 501, 502, 1000, 65536, 70000} {
		l = append(l, of(3, slices.Repeat([]api.Run{run(12, 1)}, n)...))
		var rising []api.Run
		for i := range n {
			rising = append(rising, run(12+2*i, 1))
		}
		l = append(l, of(3, rising...))
	}
	return l
}

// P8.1

// diffs fails unless Diff of a and b is just want.
func diffs(t *testing.T, a, b page.Page, want ...api.Run) {
	t.Helper()
	if got := Diff(a, b); !likeRuns(got, want) {
		t.Errorf("%v, want %v", got, want)
	}
}

func TestDiffOfOneByte(t *testing.T) {
	for n := range 3 {
		a := anyPage(n)
		diffs(t, a, a)
		for at := range 512 {
			b := with(a, at)
			if at < 12 {
				diffs(t, a, b)
				continue
			}
			diffs(t, a, b, run(at, b[at]))
			diffs(t, b, a, run(at, a[at]))
		}
	}
	diffs(t, page.Page{}, page.Page{})
	diffs(t, page.Page{}, page.Page{12: 1}, run(12, 1))
	diffs(t, page.Page{12: 1}, page.Page{}, run(12, 0))
	diffs(t, page.Page{}, page.Page{511: 255}, run(511, 255))
	diffs(t, page.Page{511: 255}, page.Page{511: 254}, run(511, 254))
}

// What is ahead of the byte 12 is of no matter, and is not written.
func TestDiffOfTheHead(t *testing.T) {
	a := anyPage(5)
	all := with(a, places(0, 12, 1)...)
	diffs(t, a, all)
	diffs(t, a, with(all, 12), run(12, with(a, 12)[12]))
	diffs(t, a, with(all, 14), run(14, with(a, 14)[14]))
	diffs(t, with(a, 11), with(a, 12, 13), api.Run{At: 12, Data: bytesOf(with(a, 12, 13), 12, 14)})
	diffs(t, page.New(3), page.Seal(page.New(3).WithLSN(-1)))
}

// bytesOf gives the bytes of p from lo up to hi.
func bytesOf(p page.Page, lo, hi int) []byte {
	return bytes.Clone(p[lo:hi])
}

// Up to 4 alike bytes between two unlike ones are told, too, of b.
func TestDiffOfTwoBytes(t *testing.T) {
	a := anyPage(7)
	for at := 12; at < 512; at++ {
		for behind := at + 1; behind < 512; behind++ {
			b := with(a, at, behind)
			if behind-at-1 <= 4 {
				diffs(t, a, b, api.Run{At: at, Data: bytesOf(b, at, behind+1)})
			} else {
				diffs(t, a, b, run(at, b[at]), run(behind, b[behind]))
			}
		}
	}
}

// How many are alike counts between neighbours alone.
func TestDiffOfManyBytes(t *testing.T) {
	a := anyPage(8)
	for step := 1; step <= 12; step++ {
		for lo := 12; lo < 20; lo++ {
			l := places(lo, 512, step)
			b := with(a, l...)
			if step <= 5 {
				diffs(t, a, b, api.Run{At: lo, Data: bytesOf(b, lo, l[len(l)-1]+1)})
				continue
			}
			var want []api.Run
			for _, at := range l {
				want = append(want, run(at, b[at]))
			}
			diffs(t, a, b, want...)
		}
	}
	all := with(a, places(0, 512, 1)...)
	diffs(t, a, all, api.Run{At: 12, Data: bytesOf(all, 12, 512)})
	second := with(a, places(1, 512, 2)...)
	diffs(t, a, second, api.Run{At: 13, Data: bytesOf(second, 13, 512)})
	second = with(a, places(0, 512, 2)...)
	diffs(t, a, second, api.Run{At: 12, Data: bytesOf(second, 12, 511)})
}

func TestDiffOfSeveralRuns(t *testing.T) {
	a := anyPage(9)
	b := with(a, 3, 12, 17, 23, 24, 25, 31, 36, 41, 47, 100, 106, 110, 509, 511)
	diffs(t, a, b,
		api.Run{At: 12, Data: bytesOf(b, 12, 18)}, api.Run{At: 23, Data: bytesOf(b, 23, 26)}, api.Run{At: 31, Data: bytesOf(b, 31, 42)},
		run(47, b[47]), run(100, b[100]), api.Run{At: 106, Data: bytesOf(b, 106, 111)}, api.Run{At: 509, Data: bytesOf(b, 509, 512)})
}

// pairs gives pages, two and two, that are unlike in few bytes, or in many.
func pairs() [][2]page.Page {
	l := [][2]page.Page{{}, {page.New(3), page.New(4)}, {anyPage(1), anyPage(2)}, {anyPage(1), anyPage(1)}}
	for n := range 300 {
		a := anyPage(n)
		b := a
		for at, x := range sample.Some(n + 1000)[n+488:] {
			if int(x) < n {
				b[at] ^= 1 + x%255
			}
		}
		l = append(l, [2]page.Page{a, b}, [2]page.Page{b, a})
	}
	p := page.New(9).WithSlot(2, sample.Live("a", sample.Counter(0, 5, 3)))
	return append(l, [2]page.Page{p, p.WithSlot(2, sample.Live("a", sample.Counter(0, 5, 4)))}, [2]page.Page{p, p.WithSlot(2, sample.Ghost("a", sample.Counter(0, 5, 3)))},
		[2]page.Page{page.New(9), p}, [2]page.Page{p, page.Seal(p.WithNext(-1).WithNote(-1))})
}

// marked tells of each byte whether a run has it: an unlike one, and an alike
// one if unlike ones stand on both its sides, no more than 4 alike ones between.
func marked(a, b page.Page) [513]bool {
	var told [513]bool
	for i := 12; i < 512; i++ {
		lo, hi := i, i
		for lo > 12 && a[lo] == b[lo] {
			lo--
		}
		for hi < 511 && a[hi] == b[hi] {
			hi++
		}
		told[i] = a[lo] != b[lo] && a[hi] != b[hi] && hi-lo-1 <= 4
	}
	return told
}

func TestDiffOfAnyPages(t *testing.T) {
	several := false
	for _, x := range pairs() {
		told := marked(x[0], x[1])
		var want []api.Run
		for lo := 12; lo < 512; lo++ {
			if told[lo] && !told[lo-1] {
				hi := lo + slices.Index(told[lo:], false)
				want = append(want, api.Run{At: lo, Data: bytesOf(x[1], lo, hi)})
			}
		}
		diffs(t, x[0], x[1], want...)
		several = several || len(want) > 3
	}
	if !several {
		t.Error("no pages with several runs were tried")
	}
}

// applies fails unless Apply of l to p is just want.
func applies(t *testing.T, p page.Page, want page.Page, l ...api.Run) {
	t.Helper()
	if got, err := Apply(p, l); err != api.OK || got != want {
		t.Errorf("Apply(%v) = %v, %d, want %v", l, got, err, want)
	}
}

// refuses fails unless Apply of l to p is ErrRange, and nothing else.
func refuses(t *testing.T, p page.Page, l ...api.Run) {
	t.Helper()
	if got, err := Apply(p, l); err != api.ErrRange || got != (page.Page{}) {
		t.Errorf("Apply(%v) = %v, %d", l, got, err)
	}
}

// laid gives p with b from at on.
func laid(p page.Page, at int, b []byte) page.Page {
	copy(p[at:], b)
	return p
}

func TestApply(t *testing.T) {
	for n := range 3 {
		p := anyPage(n)
		applies(t, p, p)
		applies(t, p, laid(p, 12, []byte{7}), run(12, 7))
		applies(t, p, laid(p, 511, []byte{7}), run(511, 7))
		applies(t, p, laid(p, 12, sample.Some(500)), long(12, 500))
		applies(t, p, laid(p, 510, []byte{0, 9}), run(510, 0, 9))
		applies(t, p, laid(laid(p, 40, []byte{1, 2}), 60, []byte{3}), run(40, 1, 2), run(60, 3))
		applies(t, p, laid(laid(p, 40, []byte{1, 2}), 60, []byte{3}), run(60, 3), run(40, 1, 2))
		applies(t, p, laid(p, 40, []byte{1, 2, 3}), run(40, 1, 2), run(42, 3))
	}
}

// A run is written if all of it is from the byte 12 up to the last one.
func TestApplyOfAllPlaces(t *testing.T) {
	p := anyPage(4)
	for at := -600; at < 1200; at++ {
		for _, n := range []int{0, 1, 2, 3, 11, 12, 13, 64, 255, 256, 257, 499, 500, 501, 511, 512, 513, 1024} {
			if n > 0 && at >= 12 && at+n-1 <= 511 {
				applies(t, p, laid(p, at, sample.Some(n)), long(at, n))
				applies(t, p, laid(laid(p, 511, []byte{3}), at, sample.Some(n)), run(511, 3), long(at, n))
			} else {
				refuses(t, p, long(at, n))
				refuses(t, p, run(12, 3), long(at, n))
				refuses(t, p, long(at, n), run(12, 3))
			}
		}
	}
}

func TestApplyOfFarPlaces(t *testing.T) {
	p := anyPage(4)
	for _, l := range farRuns() {
		refuses(t, p, l...)
	}
}

// Where runs lie one over the other, the later one stays; how they lie is of no
// matter else.
func TestApplyInOrder(t *testing.T) {
	p := anyPage(6)
	applies(t, p, laid(p, 40, []byte{1, 2, 9, 9, 9, 6}), run(40, 1, 2, 3, 4, 5, 6), run(42, 9, 9, 9))
	applies(t, p, laid(p, 40, []byte{1, 2, 3, 4, 5, 6}), run(42, 9, 9, 9), run(40, 1, 2, 3, 4, 5, 6))
	applies(t, p, laid(p, 40, []byte{1, 7, 8}), run(40, 1, 2), run(41, 7, 8))
	applies(t, p, laid(p, 40, []byte{1, 2, 8}), run(41, 7, 8), run(40, 1, 2))
	applies(t, p, laid(p, 12, []byte{3}), run(12, 1), run(12, 2), run(12, 3))
	for _, l := range wrongRuns() {
		want := p
		bad := false
		for _, r := range l {
			if len(r.Data) == 0 || r.At < 12 || r.At+len(r.Data) > 512 {
				bad = true
				break
			}
			want = laid(want, r.At, r.Data)
		}
		if bad {
			refuses(t, p, l...)
		} else {
			applies(t, p, want, l...)
		}
	}
}

func TestApplyOfMany(t *testing.T) {
	p := anyPage(6)
	l := slices.Repeat([]api.Run{run(12, 1), run(511, 2), run(12, 3)}, 1000)
	applies(t, p, laid(laid(p, 12, []byte{3}), 511, []byte{2}), l...)
	refuses(t, p, append(l, run(11, 1))...)
}

// P8.2

// checks fails unless Check of x tells want.
func checks(t *testing.T, x api.Patch, want api.Errno) {
	t.Helper()
	if got := Check(x); got != want {
		t.Errorf("Check(%v) = %d, want %d", x, got, want)
	}
}

func TestCheck(t *testing.T) {
	for _, x := range goods() {
		checks(t, x, api.OK)
	}
	for _, x := range wrongs() {
		checks(t, x, api.ErrArg)
	}
}

func TestCheckOfThePage(t *testing.T) {
	for no := -70000; no < 140000; no++ {
		want := api.ErrArg
		if no >= 0 && no <= 65535 {
			want = api.OK
		}
		checks(t, of(no), want)
		checks(t, fresh(no, run(12, 1)), want)
	}
}

func TestCheckOfOneRun(t *testing.T) {
	for at := -20; at < 600; at++ {
		for n := 0; n < 520; n++ {
			want := api.ErrArg
			if n > 0 && at >= 12 && at+n <= 512 {
				want = api.OK
			}
			checks(t, of(3, api.Run{At: at, Data: make([]byte, n)}), want)
		}
	}
}

// A byte at least stands between a run and the one ahead of it.
func TestCheckOfTwoRuns(t *testing.T) {
	for at := 12; at < 40; at++ {
		for n := 1; n < 6; n++ {
			for other := 12; other < 40; other++ {
				want := api.ErrArg
				if other > at+n {
					want = api.OK
				}
				first, second := long(at, n), run(other, 1)
				checks(t, of(3, first, second), want)
				checks(t, of(3, first, second, run(511, 1)), want)
				if at > 13 {
					checks(t, of(3, run(12, 1), first, second), want)
				}
			}
		}
	}
	checks(t, of(3, run(509, 1), run(511, 1)), api.OK)
	checks(t, of(3, run(510, 1), run(511, 1)), api.ErrArg)
	checks(t, of(3, long(12, 498), run(511, 1)), api.OK)
}

// As many runs as there is room for may be, each of one byte.
func TestCheckOfManyRuns(t *testing.T) {
	var l []api.Run
	for at := 12; at < 512; at += 2 {
		l = append(l, run(at, 1))
		checks(t, of(3, l...), api.OK)
	}
	checks(t, of(3, append(l, run(513, 1))...), api.ErrArg)
	checks(t, of(3, append(slices.Clone(l[:249]), run(509, 1))...), api.ErrArg)
	checks(t, of(3, append(slices.Clone(l[:249]), run(511, 1))...), api.OK)
}

// same fails unless Same of a and b, and of b and a, tells want.
func same(t *testing.T, a, b api.Patch, want bool) {
	t.Helper()
	if Same(a, b) != want || Same(b, a) != want {
		t.Errorf("Same(%v, %v), want %t", a, b, want)
	}
}

func TestSame(t *testing.T) {
	all := append(goods(), wrongs()...)
	for _, a := range all {
		same(t, a, copied(a), true)
	}
	for _, a := range goods() {
		for _, b := range all {
			same(t, a, b, like(a, b))
		}
	}
}

func TestSameOfUnlikeFields(t *testing.T) {
	x := of(3, run(20, 1, 2), run(40, 3), run(50, 4, 5, 6))
	for _, y := range []api.Patch{
		of(4, x.Runs...), of(-3, x.Runs...), of(3+1<<16, x.Runs...), of(3+1<<32, x.Runs...), fresh(3, x.Runs...), of(3), of(3, x.Runs[:2]...), of(3, x.Runs[1:]...),
		of(3, run(20, 1, 2), run(41, 3), run(50, 4, 5, 6)), of(3, run(-20, 1, 2), run(40, 3), run(50, 4, 5, 6)), of(3, run(20, 1, 2), run(40, 3), run(50+1<<32, 4, 5, 6)),
		of(3, run(20, 1, 2), run(40, 4), run(50, 4, 5, 6)), of(3, run(20, 1, 2), run(40, 3), run(50, 4, 5)), of(3, run(20, 1, 2), run(40, 3), run(50, 4, 5, 6, 0)),
		of(3, run(20, 1, 2), run(40, 3), run(50, 4, 5, 7)), of(3, run(20, 2, 1), run(40, 3), run(50, 4, 5, 6)), of(3, run(20), run(40, 3), run(50, 4, 5, 6)),
		of(3, run(40, 3), run(20, 1, 2), run(50, 4, 5, 6)), of(3, run(20, 1), run(21, 2), run(40, 3), run(50, 4, 5, 6)), of(3, append(copiedRuns(x.Runs), run(60, 1))...),
		of(3, append(copiedRuns(x.Runs), run(50, 4, 5, 6))...), of(3, append(copiedRuns(x.Runs), api.Run{})...),
	} {
		same(t, x, y, false)
	}
	same(t, of(math.MinInt), of(math.MaxInt), false)
	same(t, of(3, run(math.MinInt, 1)), of(3, run(math.MaxInt, 1)), false)
	same(t, of(3, run(0)), of(3), false)
}

// P8.3

// written gives the bytes of a patch, byte by byte, with this one as the third.
func written(no int, third byte, l []api.Run) []byte {
	b := binary.BigEndian.AppendUint16(nil, uint16(no))
	b = binary.BigEndian.AppendUint16(append(b, third), uint16(len(l)))
	for _, r := range l {
		b = binary.BigEndian.AppendUint16(b, uint16(r.At))
		b = binary.BigEndian.AppendUint16(b, uint16(len(r.Data)))
		b = append(b, r.Data...)
	}
	return b
}

// formed gives the bytes of x.
func formed(x api.Patch) []byte {
	if x.Fresh {
		return written(x.Page, 1, x.Runs)
	}
	return written(x.Page, 0, x.Runs)
}

// puts fails unless Put of x behind b is b, and behind it just want.
func puts(t *testing.T, b []byte, x api.Patch, want ...byte) {
	t.Helper()
	if got := Put(b, x); !bytes.Equal(got, slices.Concat(b, want)) {
		t.Errorf("Put(%v, %v) = %v, want %v behind it", b, x, got, want)
	}
}

// heads gives bytes that stand ahead of others.
func heads() [][]byte {
	return [][]byte{nil, {}, {0}, {1, 2, 3}, sample.Some(300), bytes.Repeat([]byte{255}, 9)}
}

func TestPut(t *testing.T) {
	for _, b := range heads() {
		puts(t, b, api.Patch{}, 0, 0, 0, 0, 0)
		puts(t, b, fresh(0), 0, 0, 1, 0, 0)
		puts(t, b, of(258), 1, 2, 0, 0, 0)
		puts(t, b, of(65535), 255, 255, 0, 0, 0)
		puts(t, b, fresh(258, run(12, 7)), 1, 2, 1, 0, 1, 0, 12, 0, 1, 7)
		puts(t, b, of(3, run(12, 7, 0), run(511, 255)), 0, 3, 0, 0, 2, 0, 12, 0, 2, 7, 0, 1, 255, 0, 1, 255)
		for _, x := range goods() {
			puts(t, b, x, formed(x)...)
		}
		for _, x := range wrongs() {
			puts(t, b, x)
		}
	}
}

func TestPutOfManyRuns(t *testing.T) {
	var l []api.Run
	for at := 12; at < 512; at += 2 {
		l = append(l, run(at, byte(at)))
	}
	got := Put(nil, of(3, l...))
	if len(got) != 5+250*5 || !bytes.Equal(got[:10], []byte{0, 3, 0, 0, 250, 0, 12, 0, 1, 12}) {
		t.Errorf("%d bytes: %v", len(got), got[:10])
	}
	got = Put(nil, of(3, long(12, 500)))
	if !bytes.Equal(got, slices.Concat([]byte{0, 3, 0, 0, 1, 0, 12, 1, 244}, sample.Some(500))) {
		t.Errorf("%v", got)
	}
}

// gets fails unless Get of b is just x, of so many bytes, and err.
func gets(t *testing.T, b []byte, x api.Patch, n int, err api.Errno) {
	t.Helper()
	got, m, e := Get(b)
	if !like(got, x) || m != n || e != err {
		t.Errorf("Get(%v) = %v, %d, %d, want %v, %d, %d", b, got, m, e, x, n, err)
	}
	if e != api.OK && cap(got.Runs) != 0 {
		t.Errorf("Get(%v): a list beside an error", b)
	}
}

func TestGet(t *testing.T) {
	gets(t, []byte{0, 0, 0, 0, 0}, api.Patch{}, 5, api.OK)
	gets(t, []byte{1, 2, 1, 0, 1, 0, 12, 0, 1, 7}, fresh(258, run(12, 7)), 10, api.OK)
	gets(t, []byte{255, 255, 0, 0, 2, 0, 12, 0, 2, 7, 0, 1, 255, 0, 1, 255, 9}, of(65535, run(12, 7, 0), run(511, 255)), 16, api.OK)
	for _, x := range goods() {
		b := formed(x)
		for _, behind := range heads() {
			gets(t, slices.Concat(b, behind), x, len(b), api.OK)
		}
	}
}

// Of every beginning bytes are missing.
func TestGetOfBeginnings(t *testing.T) {
	for _, x := range goods() {
		b := formed(x)
		for n := range b {
			gets(t, b[:n], api.Patch{}, 0, api.ErrShort)
			gets(t, b[:n:n], api.Patch{}, 0, api.ErrShort)
		}
	}
	gets(t, nil, api.Patch{}, 0, api.ErrShort)
	gets(t, []byte{}, api.Patch{}, 0, api.ErrShort)
}

// That bytes are missing is told, whatever those that are there tell.
func TestGetOfBytesThatEndTooEarly(t *testing.T) {
	for _, l := range wrongRuns() {
		for _, third := range []byte{0, 1, 2, 255} {
			b := written(3, third, l)
			for n := range b {
				gets(t, b[:n], api.Patch{}, 0, api.ErrShort)
			}
			gets(t, b, api.Patch{}, 0, api.ErrForm)
		}
	}
	for _, b := range [][]byte{
		{0, 0, 2}, {0, 0, 2, 0}, {0, 0, 0, 0, 1}, {0, 0, 255, 0, 1, 0, 12, 0, 1}, {0, 0, 0, 0, 1, 0, 12, 0, 2, 7}, {0, 0, 0, 0, 1, 0, 12, 1, 0, 7}, {0, 0, 0, 1, 0, 0, 12, 0, 1, 7},
		{0, 0, 0, 255, 255, 0, 12, 0, 1, 7}, {0, 0, 0, 0, 1, 255, 255, 255, 255}, bytes.Repeat([]byte{255}, 60000), {0, 0, 0, 0, 2, 0, 12, 0, 1, 7, 0, 14, 0, 1}, {0, 0, 0, 0, 2, 0, 12, 0, 0},
	} {
		gets(t, b, api.Patch{}, 0, api.ErrShort)
	}
}

func TestGetOfTheThirdByte(t *testing.T) {
	for _, x := range goods() {
		for third := range 256 {
			b := written(x.Page, byte(third), x.Runs)
			switch third {
			case 0, 1:
				gets(t, b, api.Patch{Page: x.Page, Fresh: third == 1, Runs: x.Runs}, len(b), api.OK)
			default:
				gets(t, b, api.Patch{}, 0, api.ErrForm)
				gets(t, append(b, 0, 1), api.Patch{}, 0, api.ErrForm)
				gets(t, b[:len(b)-1], api.Patch{}, 0, api.ErrShort)
			}
		}
	}
}

// Of bytes that count more runs than there can be.
func TestGetOfTooManyRuns(t *testing.T) {
	for _, n := range []int{251, 500, 501, 502, 512, 756, 65535} {
		for _, r := range []api.Run{run(12, 1), run(12)} {
			b := written(3, 0, slices.Repeat([]api.Run{r}, n))
			gets(t, b, api.Patch{}, 0, api.ErrForm)
			gets(t, b[:len(b)-1], api.Patch{}, 0, api.ErrShort)
		}
	}
}

// readOf gives what Get of b is, read byte by byte.
func readOf(b []byte) (api.Patch, int, api.Errno) {
	if len(b) < 5 {
		return api.Patch{}, 0, api.ErrShort
	}
	two := func(at int) int { return int(b[at])<<8 | int(b[at+1]) }
	x := api.Patch{Page: two(0), Fresh: b[2] == 1}
	at, bad, used := 5, b[2] > 1, 11
	for range two(3) {
		if at+4 > len(b) || at+4+two(at+2) > len(b) {
			return api.Patch{}, 0, api.ErrShort
		}
		r := api.Run{At: two(at), Data: b[at+4 : at+4+two(at+2)]}
		x.Runs = append(x.Runs, r)
		bad = bad || len(r.Data) == 0 || r.At <= used || r.At+len(r.Data) > 512
		at, used = at+4+len(r.Data), r.At+len(r.Data)
	}
	if bad {
		return api.Patch{}, 0, api.ErrForm
	}
	return x, at, api.OK
}

// With any one byte changed it is another patch, or none.
func TestGetOfChangedBytes(t *testing.T) {
	for _, x := range []api.Patch{
		of(3), fresh(258, run(12, 7)), of(3, run(12, 7, 0), run(15, 1)), of(3, run(14, 1, 2, 3), run(20, 0), run(22, 0, 12, 0, 1, 7)), of(65535, run(505, 1, 2), run(509, 3, 4)),
		of(9, run(256, 0, 1, 0, 1), run(270, 0, 1), run(511, 0)),
	} {
		for _, behind := range [][]byte{nil, {0}, sample.Some(9), bytes.Repeat([]byte{0, 1}, 300)} {
			b := slices.Concat(formed(x), behind)
			for at := range b {
				for by := 1; by < 256; by++ {
					b[at] ^= byte(by)
					want, n, err := readOf(b)
					gets(t, b, want, n, err)
					b[at] ^= byte(by)
				}
			}
		}
	}
}

func TestGetOfAnyBytes(t *testing.T) {
	for n := range 5000 {
		b := sample.Some(n + 40)[n:]
		b[3], b[4] = 0, b[4]%4
		for at := 5; at+1 < len(b); at += 2 {
			b[at] %= 2
			b[at+1] %= 32
		}
		want, size, err := readOf(b)
		gets(t, b, want, size, err)
	}
}

// P8.4

// Diff may be, leads from one page to the other, and is told by its bytes.
func TestDiffLeadsThere(t *testing.T) {
	for i, x := range pairs() {
		a, b := x[0], x[1]
		l := Diff(a, b)
		want := laid(b, 0, a[:12])
		applies(t, a, want, l...)
		applies(t, b, b, l...)
		diffs(t, want, b)
		y := api.Patch{Page: i, Fresh: i%2 == 0, Runs: l}
		checks(t, y, api.OK)
		gets(t, Put(nil, y), y, len(Put(nil, y)), api.OK)
	}
}

func TestGetOfPut(t *testing.T) {
	var all []byte
	for _, x := range goods() {
		was := len(all)
		all = Put(all, x)
		got, n, err := Get(all[was:])
		if !Same(got, x) || n != len(all)-was || err != api.OK {
			t.Errorf("%v, %d, %d, want %v", got, n, err, x)
		}
	}
	for _, x := range goods() {
		got, n, err := Get(all)
		if !Same(got, x) || err != api.OK {
			t.Errorf("%v, %d, %d, want %v", got, n, err, x)
		}
		all = all[n:]
	}
	if len(all) != 0 {
		t.Errorf("%v is left", all)
	}
}

// Memory

func TestPagesAndRunsStayAsTheyWere(t *testing.T) {
	for _, was := range append(goods(), wrongs()...) {
		l := was.Runs
		var wholes [][]byte
		runs := make([]api.Run, len(l), len(l)+5)
		for i, r := range l {
			data, whole := sample.Roomy(r.Data...)
			runs[i] = api.Run{At: r.At, Data: data}
			wholes = append(wholes, whole, bytes.Clone(whole))
		}
		p := anyPage(3)
		x := api.Patch{Page: 3, Runs: runs}
		Apply(p, runs)
		Check(x)
		Same(x, api.Patch{Page: 3, Runs: l})
		Put(nil, x)
		if p != anyPage(3) || !likeRuns(runs, l) || slices.ContainsFunc(runs[len(l):cap(runs)], func(r api.Run) bool { return r.At != 0 || r.Data != nil }) {
			t.Errorf("%v, was %v", runs, l)
		}
		for i := 0; i < len(wholes); i += 2 {
			if !bytes.Equal(wholes[i], wholes[i+1]) {
				t.Errorf("%v, was %v", wholes[i], wholes[i+1])
			}
		}
	}
	for _, x := range pairs() {
		a, b := x[0], x[1]
		Diff(a, b)
		if a != x[0] || b != x[1] {
			t.Errorf("%v and %v, were %v", a, b, x)
		}
	}
}

func TestBytesStayAsTheyWere(t *testing.T) {
	for _, x := range append(goods(), wrongs()...) {
		for _, head := range append(heads(), formed(fresh(258, run(12, 1), run(511, 2)))) {
			b, whole := sample.Roomy(head...)
			was := bytes.Clone(whole)
			got := Put(b, x)
			want := bytes.Clone(got)
			Get(b)
			if !bytes.Equal(whole, was) {
				t.Errorf("%v, was %v", whole, was)
			}
			sample.Scribble(b)
			if !bytes.Equal(got, want) {
				t.Errorf("%v, was %v", got, want)
			}
			copy(whole, was)
			sample.Scribble(got)
			if !bytes.Equal(whole, was) {
				t.Errorf("the answer shares memory: %v, was %v", whole, was)
			}
		}
	}
}

// What Put answers is neither the patch's memory nor another answer's.
func TestPutIsNewMemory(t *testing.T) {
	for _, x := range goods() {
		y := copied(x)
		got, other := Put(nil, y), Put([]byte{1}, y)
		scribble(y.Runs)
		if !bytes.Equal(got, formed(x)) {
			t.Errorf("%v, was %v", got, formed(x))
		}
		sample.Scribble(got)
		if !bytes.Equal(other[1:], formed(x)) {
			t.Errorf("%v, was %v", other, formed(x))
		}
	}
}

// apart fails unless the lists of l share no memory, spare room too.
func apart(t *testing.T, l []api.Run) {
	t.Helper()
	for i, r := range l {
		was := copiedRuns(l)
		sample.Scribble(r.Data)
		was[i].Data = r.Data
		if !likeRuns(l, was) {
			t.Errorf("the run %d shares memory: %v, was %v", i, l, was)
		}
	}
}

func TestDiffIsNewMemory(t *testing.T) {
	for _, x := range pairs() {
		a, b := x[0], x[1]
		l, other := Diff(a, b), Diff(a, b)
		was := copiedRuns(l)
		apart(t, l)
		scribble(l)
		if a != x[0] || b != x[1] || !likeRuns(other, was) {
			t.Errorf("%v, was %v", other, was)
		}
	}
}

func TestGetIsNewMemory(t *testing.T) {
	for _, x := range goods() {
		b, whole := sample.Roomy(formed(x)...)
		was := bytes.Clone(whole)
		got, _, _ := Get(b)
		other, _, _ := Get(b)
		apart(t, got.Runs)
		scribble(got.Runs)
		if !bytes.Equal(whole, was) || !like(other, x) {
			t.Errorf("%v, was %v", whole, was)
		}
		sample.Scribble(b)
		if !like(other, x) {
			t.Errorf("%v, was %v", other, x)
		}
	}
}

// A page is a value: what Apply answers has nothing of the runs.
func TestApplyIsNewMemory(t *testing.T) {
	l := []api.Run{run(12, 1, 2), run(40, 3)}
	got, _ := Apply(anyPage(3), l)
	was := got
	scribble(l)
	if got != was {
		t.Errorf("%v, was %v", got, was)
	}
}

func TestNilAndEmptyAreAlike(t *testing.T) {
	p := anyPage(3)
	applies(t, p, p, []api.Run{}...)
	same(t, api.Patch{}, api.Patch{Runs: []api.Run{}}, true)
	same(t, of(3, run(12)), of(3, api.Run{At: 12, Data: []byte{}}), true)
	for _, data := range [][]byte{nil, {}} {
		r := api.Run{At: 12, Data: data}
		refuses(t, p, r)
		checks(t, of(3, r), api.ErrArg)
		puts(t, nil, of(3, r))
	}
}

// Answers hang on the arguments alone.
func TestCallsTellTheSameAgain(t *testing.T) {
	for _, x := range append(goods(), wrongs()...) {
		p, err := Apply(anyPage(3), x.Runs)
		for range 2 {
			q, e := Apply(anyPage(3), x.Runs)
			if q != p || e != err || Check(x) != Check(x) || !bytes.Equal(Put(nil, x), Put(nil, x)) {
				t.Errorf("%v", x)
			}
		}
	}
}

func TestExample(t *testing.T) {
	a := anyPage(1)
	b := with(a, 40, 45, 51)
	diffs(t, a, b, api.Run{At: 40, Data: bytesOf(b, 40, 46)}, run(51, b[51]))
}
