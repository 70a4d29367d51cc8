package key

import (
	"hash/fnv"
	"math"
	"slices"
	"strings"
	"testing"

	"moneyer/api"
)

// some gives a text of n bytes that look like nothing, always the same.
func some(n int) string {
	b := make([]byte, n)
	x := uint32(n) + 1
	for i := range b {
		x = x*1664525 + 1013904223
		b[i] = byte(x >> 24)
	}
	return string(b)
}

// one gives the text of the byte x alone.
func one(x int) string {
	return string([]byte{byte(x)})
}

// texts gives texts of many lengths and kinds.
func texts() []string {
	l := []string{"", "a", "b", "ab", "ba", "aa", "key", "Key", "KEY", "foobar", "é", "日本", "\U0001F600"}
	for x := range 256 {
		l = append(l, one(x))
	}
	for n := range 40 {
		l = append(l, strings.Repeat("\x00", n), strings.Repeat("k", n), strings.Repeat("\xff", n), some(n))
	}
	for _, n := range []int{255, 256, 257, 1000, 1<<16 - 1, 1 << 16, 1<<16 + 1} {
		l = append(l, strings.Repeat("\x00", n), strings.Repeat("k", n), strings.Repeat("\xff", n), some(n))
	}
	return l
}

// P4.1

// told tells what Check is to answer, byte by byte.
func told(k string) api.Errno {
	if len(k) == 0 || len(k) > 16 {
		return api.ErrArg
	}
	for i := 0; i < len(k); i++ {
		if k[i] < 33 || k[i] > 126 {
			return api.ErrArg
		}
	}
	return api.OK
}

func TestCheck(t *testing.T) {
	for _, x := range []struct {
		k    string
		want api.Errno
	}{
		{"a", api.OK},
		{"!", api.OK},
		{"~", api.OK},
		{"!~", api.OK},
		{"account/7", api.OK},
		{"0", api.OK},
		{"\"", api.OK},
		{"\\", api.OK},
		{"0123456789abcde", api.OK},
		{"0123456789abcdef", api.OK},
		{"!!!!!!!!!!!!!!!!", api.OK},
		{"~~~~~~~~~~~~~~~~", api.OK},
		{"", api.ErrArg},
		{"0123456789abcdefg", api.ErrArg},
		{"0123456789abcdefgh", api.ErrArg},
		{" ", api.ErrArg},
		{"\x7f", api.ErrArg},
		{"\x00", api.ErrArg},
		{"a b", api.ErrArg},
		{" a", api.ErrArg},
		{"a ", api.ErrArg},
		{"a\n", api.ErrArg},
		{"a\tb", api.ErrArg},
		{"a\x00", api.ErrArg},
		{"a\x7f", api.ErrArg},
	} {
		if got := Check(x.k); got != x.want {
			t.Errorf("Check(%q) = %d, want %d", x.k, got, x.want)
		}
	}
}

func TestCheckOfEachLength(t *testing.T) {
	for n := range 40 {
		want := api.ErrArg
		if n >= 1 && n <= 16 {
			want = api.OK
		}
		for _, x := range []string{"!", "a", "Z", "5", "~"} {
			if got := Check(strings.Repeat(x, n)); got != want {
				t.Errorf("%d times %q: %d, want %d", n, x, got, want)
			}
		}
	}
	for _, n := range []int{255, 256, 257, 272, 1<<16 + 1, 1<<16 + 16} {
		if got := Check(strings.Repeat("k", n)); got != api.ErrArg {
			t.Errorf("%d bytes: %d", n, got)
		}
	}
}

// Each byte at each place of a key of each length, the others being ends of
// what a key may have.
func TestCheckOfEachByte(t *testing.T) {
	for x := range 256 {
		want := api.ErrArg
		if x >= 33 && x <= 126 {
			want = api.OK
		}
		for n := 1; n <= 16; n++ {
			for at := range n {
				for _, about := range []string{"!", "k", "~"} {
					k := strings.Repeat(about, at) + one(x) + strings.Repeat(about, n-at-1)
					if got := Check(k); got != want {
						t.Errorf("Check(%q) = %d, want %d", k, got, want)
					}
				}
			}
		}
	}
}

// Too long, or nothing at all, and wrong besides: it is the one error.
func TestCheckOfWrongOnesThatAreTooLong(t *testing.T) {
	for x := range 256 {
		for _, k := range []string{one(x) + strings.Repeat("k", 16), strings.Repeat("k", 8) + one(x) + strings.Repeat("k", 8), strings.Repeat("k", 16) + one(x), strings.Repeat(one(x), 17)} {
			if got := Check(k); got != api.ErrArg {
				t.Errorf("Check(%q) = %d", k, got)
			}
		}
	}
}

// Letters of several bytes, and bytes that are no letters: none has a place in
// a key, wherever it is, and whatever its lowest bits are.
func TestCheckOfBytesPastTheAlphabet(t *testing.T) {
	for _, x := range []string{
		"é", "ü", "ß", "\u0080", "\u00a1", "\u00ff",
		"\u0121", "\u0141", "\u017e", "\u0221", "\u2021", "\u4e41", "日",
		"\U00010041", "\U0001F600", "\U0010FF7E",
		"\ufffd", "\ufeff", "\uff01", "\uff21", "\uff5e", "\u2028",
		"\x80", "\xa1", "\xbf", "\xc0", "\xc3", "\xe1", "\xfe", "\xff",
		"\xc3(", "\xc0\xa1", "\xc1\xbe", "\xe0\x80\xa1", "\xf0\x80\x80\xa1",
		"\xed\xa0\x80", "\xf4\x90\x80\x80", "\xe6\x97", "\xf0\x9f\x98",
	} {
		for _, k := range []string{x, x + "a", "a" + x, "ab" + x + "cd", "0123456789ab" + x, x + "0123456789ab"} {
			if got := Check(k); got != api.ErrArg {
				t.Errorf("Check(%q) = %d", k, got)
			}
		}
		for n := range 20 {
			if got := Check(strings.Repeat(x, n)); got != api.ErrArg {
				t.Errorf("Check(%q) = %d", strings.Repeat(x, n), got)
			}
		}
	}
}

func TestCheckOfAllPairs(t *testing.T) {
	for x := range 256 {
		for y := range 256 {
			if k := one(x) + one(y); Check(k) != told(k) {
				t.Errorf("Check(%q) = %d, want %d", k, Check(k), told(k))
			}
		}
	}
}

func TestCheckOfMany(t *testing.T) {
	for _, k := range texts() {
		if got, want := Check(k), told(k); got != want {
			t.Errorf("Check(%q) = %d, want %d", k, got, want)
		}
	}
}

// P4.2

// follow gives what a hash that is h becomes with k behind it.
func follow(h uint32, k string) uint32 {
	n := int(h)
	for _, x := range []byte(k) {
		n = (n ^ int(x)) * 16777619 % (1 << 32)
	}
	return uint32(n)
}

func TestHash(t *testing.T) {
	for _, x := range []struct {
		k    string
		want uint32
	}{
		{"", 2166136261},
		{"a", 3826002220},
		{"b", 0xe70c2de5},
		{"c", 0xe60c2c52},
		{"fo", 0x6222e842},
		{"foo", 0xa9f37ed7},
		{"foob", 0x3f5076ef},
		{"fooba", 0x39aaa18a},
		{"foobar", 0xbf9cf968},
		{"\x00", 0x050c5d1f},
		{"a\x00", 0x2b24d044},
		{"\x00\x00\x00\x00", 0x4b95f515},
		{"\xff\x00\x00\x01", 0xc48fb86d},
	} {
		if got := Hash(x.k); got != x.want {
			t.Errorf("Hash(%q) = %d, want %d", x.k, got, x.want)
		}
	}
}

func TestHashOfMany(t *testing.T) {
	for _, k := range texts() {
		other := fnv.New32a()
		other.Write([]byte(k))
		got := Hash(k)
		if want := other.Sum32(); got != want {
			t.Errorf("Hash of %d bytes, %.20q: %d, want %d", len(k), k, got, want)
		}
		if want := follow(2166136261, k); got != want {
			t.Errorf("Hash of %d bytes, %.20q: %d, want %d as told", len(k), k, got, want)
		}
		if Hash(k) != got {
			t.Errorf("Hash of %d bytes, %.20q: another one the second time", len(k), k)
		}
	}
}

// Bytes are hashed as they are, whether or not they are letters.
func TestHashOfBytesPastTheAlphabet(t *testing.T) {
	for x := range 256 {
		for y := range 256 {
			k := one(x) + one(y)
			if got, want := Hash(k), follow(2166136261, k); got != want {
				t.Errorf("Hash(%q) = %d, want %d", k, got, want)
			}
		}
	}
	if Hash("\xff") == Hash("\xfe") || Hash("\xff") == Hash("\ufffd") || Hash("é") == Hash("\xe9") {
		t.Error("of those past the alphabet some are alike")
	}
}

// buckets gives numbers of buckets, from 1 on.
func buckets() []int {
	l := []int{7, 10, 100, 1000, 16777619, 2166136261, 3826002220, 3826002221}
	for k := range 63 {
		l = append(l, 1<<k, 1<<k+1, 1<<k|(1<<k-1))
	}
	for n := 1; n <= 33; n++ {
		l = append(l, n)
	}
	return append(l, math.MaxInt-1, math.MaxInt)
}

func TestBucket(t *testing.T) {
	for _, x := range []struct {
		k    string
		n    int
		want int
	}{
		{"a", 1, 0},
		{"a", 2, 0},
		{"b", 2, 1},
		{"a", 3, 1},
		{"a", 10, 0},
		{"a", 16, 12},
		{"b", 16, 5},
		{"", 16, 5},
		{"", 2, 1},
		{"a", 1000000000, 826002220},
		{"a", 1<<31 - 1, 3826002220 - (1<<31 - 1)},
		{"a", 1 << 31, 3826002220 - 1<<31},
		{"a", 3826002219, 1},
		{"a", 3826002220, 0},
		{"a", 3826002221, 3826002220},
		{"a", 1<<32 - 1, 3826002220},
		{"a", 1 << 32, 3826002220},
		{"a", 1<<32 + 1, 3826002220},
		{"a", 1<<33 + 2, 3826002220},
		{"a", 1 << 62, 3826002220},
		{"a", math.MaxInt, 3826002220},
		{"a", 0, 0},
		{"a", -1, 0},
		{"a", -2, 0},
		{"a", -16, 0},
		{"a", -1 << 31, 0},
		{"a", -1 << 32, 0},
		{"a", -1<<32 + 16, 0},
		{"a", -math.MaxInt, 0},
		{"a", math.MinInt, 0},
	} {
		if got := Bucket(x.k, x.n); got != x.want {
			t.Errorf("Bucket(%q, %d) = %d, want %d", x.k, x.n, got, x.want)
		}
	}
}

func TestBucketOfMany(t *testing.T) {
	for _, k := range texts() {
		if len(k) > 1000 {
			continue
		}
		h := uint64(Hash(k))
		for _, n := range buckets() {
			if got, want := Bucket(k, n), int(h%uint64(n)); got != want {
				t.Errorf("Bucket(%q, %d) = %d, want %d", k, n, got, want)
			}
			if got := Bucket(k, -n); got != 0 {
				t.Errorf("Bucket(%q, %d) = %d", k, -n, got)
			}
		}
		if Bucket(k, 0) != 0 || Bucket(k, math.MinInt) != 0 {
			t.Errorf("Bucket(%q) of none, or of fewer", k)
		}
	}
}

// P4.3

// below tells whether a is ahead of b, byte by byte.
func below(a, b string) bool {
	for i := 0; i < len(a) && i < len(b); i++ {
		if a[i] != b[i] {
			return a[i] < b[i]
		}
	}
	return len(a) < len(b)
}

// placed gives the texts of l, each put once where it belongs.
func placed(l []string) []string {
	var out []string
	for _, k := range l {
		at := 0
		for at < len(out) && below(out[at], k) {
			at++
		}
		if at == len(out) || out[at] != k {
			out = slices.Insert(out, at, k)
		}
	}
	return out
}

// lists gives lists of many lengths and kinds.
func lists() [][]string {
	l := [][]string{
		nil, {}, {""}, {"a"}, {"", ""}, {"a", "a"}, {"b", "a"}, {"a", "b"}, {"a", "", "a", ""},
		{"b", "a", "b", "a", "b", "a"},
		{"abc", "ab", "a", "", "abcd", "ab", "b"},
		{"a\x00", "a", "a\x00\x00", "\x00", "", "a\x01"},
		{"a~", "a!", "a", "a ", "a\x7f", "a\x80", "a\xff"},
		{"\xff", "\x80", "\x7f", "é", "\xe9", "z", "日", "\ufffd", "\uffff", "\U00010000", "\xf0", "\xed\xa0\x80", "A"},
		{"z", "Z", "y", "Y", "é", "e", "E", "10", "9", "1", "09", "_", "-"},
		texts()[:300],
	}
	for n := 2; n < 60; n++ {
		var wide, narrow []string
		bytes := some(3 * n)
		for i := range n {
			wide = append(wide, bytes[i:i+1+int(bytes[i])%3])
			narrow = append(narrow, strings.Repeat("k", int(bytes[i])%5)+one(int(bytes[i+n])%3+'j'))
		}
		l = append(l, wide, narrow)
	}
	return l
}

func TestSort(t *testing.T) {
	for _, x := range []struct{ l, want []string }{
		{nil, nil},
		{[]string{}, nil},
		{[]string{"a"}, []string{"a"}},
		{[]string{""}, []string{""}},
		{[]string{"", "", ""}, []string{""}},
		{[]string{"b", "a"}, []string{"a", "b"}},
		{[]string{"a", "a", "a"}, []string{"a"}},
		{[]string{"b", "a", "b", "c", "a"}, []string{"a", "b", "c"}},
		{[]string{"ab", "a", "abc", ""}, []string{"", "a", "ab", "abc"}},
		{[]string{"b", "aa", "a", "bb"}, []string{"a", "aa", "b", "bb"}},
		{[]string{"a", "B", "A", "b"}, []string{"A", "B", "a", "b"}},
		{[]string{"9", "10", "1", "09"}, []string{"09", "1", "10", "9"}},
		{[]string{"a\x01", "a", "a\x00"}, []string{"a", "a\x00", "a\x01"}},
		{[]string{"\xff", "\x7f", "\x80", "~"}, []string{"~", "\x7f", "\x80", "\xff"}},
		{[]string{"\xff", "é", "\xe9", "z"}, []string{"z", "é", "\xe9", "\xff"}},
		{[]string{"\U00010000", "\uffff", "\ufffd", "\xf8"}, []string{"\ufffd", "\uffff", "\U00010000", "\xf8"}},
		{[]string{"\xff", "\xfe", "\xff"}, []string{"\xfe", "\xff"}},
	} {
		if got := Sort(x.l); !slices.Equal(got, x.want) {
			t.Errorf("Sort(%q) = %q, want %q", x.l, got, x.want)
		}
	}
}

func TestSortOfMany(t *testing.T) {
	for _, l := range lists() {
		if got, want := Sort(l), placed(l); !slices.Equal(got, want) {
			t.Errorf("Sort(%q) = %q, want %q", l, got, want)
		}
	}
}

// Equal texts stand once, wherever in the memory their bytes are.
func TestSortOfEqualOnes(t *testing.T) {
	long := strings.Repeat("k", 1000)
	again := string([]byte(long))
	if got := Sort([]string{long, again, long[:999], again[:999], long[1:]}); !slices.Equal(got, []string{long[:999], long}) {
		t.Errorf("%d texts", len(got))
	}
}

// What Sort was handed stays, and what stands behind it too; nothing of the
// answer is its.
func TestSortLeavesWhatItWasHanded(t *testing.T) {
	for _, l := range lists() {
		room := append(slices.Clone(l), "behind", "\xff", "it")
		handed, was := room[:len(l)], slices.Clone(room)
		got := Sort(handed)
		if !slices.Equal(room, was) {
			t.Errorf("Sort(%q) has changed it: %q", l, room)
		}
		want := slices.Clone(got)
		got = append(got, "more")
		for i := range got[:cap(got)] {
			got[:cap(got)][i] = "other"
		}
		if !slices.Equal(room, was) {
			t.Errorf("Sort(%q) shares what it answers", l)
		}
		if again := Sort(handed); !slices.Equal(again, want) {
			t.Errorf("Sort(%q) = %q the second time, not %q", l, again, want)
		}
	}
}

// The answer's spare room is its own, even where it is as long as the list.
func TestSortGivesNewMemory(t *testing.T) {
	for _, l := range lists() {
		sorted := placed(l)
		room := append(slices.Clone(sorted), "behind")
		handed := room[:len(sorted)]
		got, other := Sort(handed), Sort(handed)
		for i := range handed {
			handed[i] = "changed"
		}
		if !slices.Equal(got, sorted) {
			t.Errorf("Sort(%q) has kept it", sorted)
		}
		for i := range got[:cap(got)] {
			got[:cap(got)][i] = "other"
		}
		if !slices.Equal(other, sorted) || room[len(sorted)] != "behind" {
			t.Errorf("two answers to Sort(%q) share their memory", sorted)
		}
	}
}

// P4.4

func TestSortOfWhatIsSorted(t *testing.T) {
	for _, l := range lists() {
		once := Sort(l)
		if twice := Sort(once); !slices.Equal(twice, once) {
			t.Errorf("Sort(%q) = %q", once, twice)
		}
		turned := slices.Clone(once)
		slices.Reverse(turned)
		if got := Sort(append(turned, l...)); !slices.Equal(got, once) {
			t.Errorf("Sort of %q, turned, and of what it is of = %q", once, got)
		}
	}
}

// The order in which texts are handed in is of no matter.
func TestSortOfEachOrder(t *testing.T) {
	l := []string{"a", "", "ab", "\xff", "a", "b"}
	want := []string{"", "a", "ab", "b", "\xff"}
	var place func(k int)
	place = func(k int) {
		if k == len(l) {
			if got := Sort(l); !slices.Equal(got, want) {
				t.Errorf("Sort(%q) = %q", l, got)
			}
			return
		}
		for i := k; i < len(l); i++ {
			l[k], l[i] = l[i], l[k]
			place(k + 1)
			l[k], l[i] = l[i], l[k]
		}
	}
	place(0)
}

// P4.5

func TestHashGoesOn(t *testing.T) {
	for i, k := range texts() {
		if len(k) > 1000 {
			continue
		}
		for _, behind := range texts()[:300] {
			if got, want := Hash(k+behind), follow(Hash(k), behind); got != want {
				t.Fatalf("text %d with %q behind it: %d, want %d", i, behind, got, want)
			}
		}
	}
	for _, n := range []int{16, 17, 1000, 1 << 16} {
		k := some(n)
		for _, at := range []int{0, 1, n / 2, n - 1, n} {
			if got, want := Hash(k), follow(Hash(k[:at]), k[at:]); got != want {
				t.Errorf("%d bytes, cut at %d: %d, want %d", n, at, got, want)
			}
		}
	}
}

func TestBucketIsOneOfThem(t *testing.T) {
	for _, k := range texts() {
		if len(k) > 1000 {
			continue
		}
		for _, n := range buckets() {
			if got := Bucket(k, n); got < 0 || got > n-1 {
				t.Errorf("Bucket(%q, %d) = %d", k, n, got)
			}
		}
	}
}

// Of a few buckets each one has some key.
func TestEachBucketHasSome(t *testing.T) {
	for n := 1; n <= 16; n++ {
		var found [16]bool
		for _, k := range texts() {
			found[Bucket(k, n)] = true
		}
		for b, ok := range found {
			if ok != (b < n) {
				t.Errorf("bucket %d of %d: %v", b, n, ok)
			}
		}
	}
}

// The chapter's example

func TestExample(t *testing.T) {
	if got := Hash("a"); got != 3826002220 {
		t.Errorf("Hash(\"a\") = %d", got)
	}
}
