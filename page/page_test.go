package page

import (
	"bytes"
	"encoding/binary"
	"hash/crc32"
	"math"
	"slices"
	"testing"

	"moneyer/api"
	"moneyer/sample"
	"moneyer/slot"
)

// anyPage gives a page of bytes that look like nothing.
func anyPage(n int) Page {
	return Page(sample.Some(n + 512)[n:])
}

// full gives a page of the same byte throughout.
func full(x byte) Page {
	return Page(bytes.Repeat([]byte{x}, 512))
}

// largest gives the item of the most bytes.
func largest() api.Item {
	return sample.Live("0123456789abcdef", sample.Record(bytes.Repeat([]byte{255}, 32)...))
}

// things gives items that may be, of each kind, and their bytes.
func things() ([]api.Item, [][64]byte) {
	l := []api.Item{
		{}, sample.Live("a", sample.Record()), sample.Ghost("a", sample.Record()), sample.Live("ab", sample.Record(0, 0, 1)), sample.Ghost("k1", sample.Record(sample.Some(32)...)),
		sample.Live("~", sample.Counter(0, 5, 3)), sample.Ghost("!~!", sample.Counter(-1, 258, 0)), largest(),
	}
	return l, [][64]byte{
		{}, {1, 1, 'a', 1}, {2, 1, 'a', 1}, {1, 2, 'a', 'b', 1, 3, 0, 0, 1},
		packed([]byte{2, 2, 'k', '1', 1, 32}, sample.Some(32)),
		{1, 1, '~', 2, 19: 5, 27: 3},
		{2, 3, '!', '~', '!', 2, 255, 255, 255, 255, 255, 255, 255, 255, 0, 0, 0, 0, 0, 0, 1, 2},
		packed([]byte("\x01\x100123456789abcdef\x01\x20"), bytes.Repeat([]byte{255}, 32)),
	}
}

// wrongs gives items that may not be.
func wrongs() []api.Item {
	return []api.Item{
		{Key: "a"}, {Cell: sample.Record()}, {Key: "a", Cell: sample.Record()}, {State: 1}, {State: 2}, {State: 3, Key: "a", Cell: sample.Record()},
		{State: -1, Key: "a", Cell: sample.Record()}, {State: 257, Key: "a", Cell: sample.Record()}, sample.Live("", sample.Record()), sample.Live("a b", sample.Record()),
		sample.Live("0123456789abcdefg", sample.Record()), sample.Live("a", api.Cell{}), sample.Live("a", sample.Record(sample.Some(33)...)), sample.Ghost("a", sample.Counter(0, 5, 6)),
		sample.Ghost("a", sample.Counter(5, 0, 3)), sample.Live("a", api.Cell{Kind: 3}), sample.Live("a", api.Cell{Kind: 1, Val: 1}),
	}
}

// noItems gives 64 bytes each that are no slot.
func noItems() [][64]byte {
	return [][64]byte{
		{0, 1}, {0, 1, 'a', 1}, {1}, {2}, {1, 1, 'a'}, {1, 1, 'a', 3}, {1, 1, ' ', 1}, {3, 1, 'a', 1}, {1, 1, 'a', 1, 33}, {1, 1, 'a', 2, 11: 1},
		{1, 1, 'a', 1, 63: 1}, {63: 1}, {0: 255, 63: 255}, packed(sample.Some(64)), packed(bytes.Repeat([]byte{1}, 64)), packed(bytes.Repeat([]byte{255}, 64)),
	}
}

// packed gives the bytes of l, and bytes 0 up to 64.
func packed(l ...[]byte) [64]byte {
	var b [64]byte
	copy(b[:], slices.Concat(l...))
	return b
}

// like tells whether a and b have the same fields.
func like(a, b api.Item) bool {
	return a.State == b.State && a.Key == b.Key && a.Cell.Kind == b.Cell.Kind && string(a.Cell.Data) == string(b.Cell.Data) &&
		a.Cell.Lo == b.Cell.Lo && a.Cell.Hi == b.Cell.Hi && a.Cell.Val == b.Cell.Val
}

// numbers gives numbers of each size and sign.
func numbers() []int {
	l := []int{math.MinInt, math.MinInt + 1, -1 << 48, -65537, -65536, -65535, -32768, -32767, -258, -257, -256, -255, -2, math.MaxInt - 1, math.MaxInt, 0x0102030405060708, -0x0102030405060708}
	for i := range 63 {
		l = append(l, 1<<i-1, 1<<i, 1<<i+1, -(1 << i))
	}
	for n := range 1000 {
		l = append(l, int(binary.BigEndian.Uint64(sample.Some(n + 8)[n:])))
	}
	return l
}

// pages gives pages of all sorts, such that may be and such that may not be.
func pages() []Page {
	l := []Page{{}, New(0), New(258), New(65535), full(1), full(128), full(255), sealed(New(7)), busy()}
	for n := range 20 {
		l = append(l, anyPage(n), sealed(anyPage(n+100)))
	}
	return l
}

// busy gives a page with all its parts in use.
func busy() Page {
	p := bare(513, 0x0102030405060708, 1027, -2)
	_, b := things()
	for i := range 7 {
		p = laid(p, i, b[i+1])
	}
	return sealed(p)
}

// bare gives the page of these numbers, byte by byte.
func bare(no, lsn, next, note int) Page {
	var p Page
	binary.BigEndian.PutUint64(p[4:12], uint64(lsn))
	binary.BigEndian.PutUint16(p[12:14], uint16(no))
	binary.BigEndian.PutUint16(p[14:16], uint16(next))
	binary.BigEndian.PutUint64(p[16:24], uint64(note))
	return p
}

// laid gives p with b as its slot i.
func laid(p Page, i int, b [64]byte) Page {
	copy(p[32+64*i:96+64*i], b[:])
	return p
}

// sealed gives p with its sum, taken otherwise.
func sealed(p Page) Page {
	binary.BigEndian.PutUint32(p[:4], crc32.Checksum(p[4:], crc32.MakeTable(crc32.Castagnoli)))
	return p
}

// changed gives p with one byte another one.
func changed(p Page, at int, by byte) Page {
	p[at] ^= by
	return p
}

// tells fails unless p tells just these numbers.
func tells(t *testing.T, p Page, no, lsn, next, note int) {
	t.Helper()
	if p.No() != no || p.LSN() != lsn || p.Next() != next || p.Note() != note {
		t.Errorf("%v: number %d, LSN %d, Next %d, Note %d, want %d, %d, %d, %d", p[:24], p.No(), p.LSN(), p.Next(), p.Note(), no, lsn, next, note)
	}
}

// has fails unless the slot i of p is just want, and err.
func has(t *testing.T, p Page, i int, want api.Item, err api.Errno) {
	t.Helper()
	x, e := p.Slot(i)
	if e != err || !like(x, want) {
		t.Errorf("Slot(%d) = %v, %d, want %v, %d", i, x, e, want, err)
	}
	if e != api.OK && cap(x.Cell.Data) != 0 {
		t.Errorf("Slot(%d): a list beside an error", i)
	}
}

// only fails unless p and q are alike but for the bytes from lo up to hi.
func only(t *testing.T, p, q Page, lo, hi int) {
	t.Helper()
	for i := range p {
		if p[i] != q[i] && (i < lo || i >= hi) {
			t.Errorf("byte %d is %d, was %d", i, q[i], p[i])
		}
	}
}

// P7.1

func TestNew(t *testing.T) {
	for _, x := range []struct {
		no     int
		hi, lo byte
	}{
		{0, 0, 0}, {1, 0, 1}, {255, 0, 255}, {256, 1, 0}, {258, 1, 2}, {1023, 3, 255}, {1024, 4, 0}, {32767, 127, 255}, {32768, 128, 0},
		{65534, 255, 254}, {65535, 255, 255}, {65536, 0, 0}, {65537, 0, 1}, {65536 + 258, 1, 2}, {1 << 32, 0, 0}, {1<<32 + 3, 0, 3},
		{math.MaxInt, 255, 255}, {-1, 255, 255}, {-2, 255, 254}, {-258, 254, 254}, {-65535, 0, 1}, {-65536, 0, 0}, {-65537, 255, 255},
		{math.MinInt, 0, 0}, {math.MinInt + 1, 0, 1},
	} {
		if got, want := New(x.no), (Page{12: x.hi, 13: x.lo}); got != want {
			t.Errorf("New(%d) = %v", x.no, got)
		}
		tells(t, New(x.no), int(x.hi)*256+int(x.lo), 0, 0, 0)
	}
}

func TestNewOfAllNumbers(t *testing.T) {
	for no := -70000; no < 140000; no++ {
		p := New(no)
		if p != bare(no, 0, 0, 0) || p.No() != (no%65536+65536)%65536 {
			t.Errorf("New(%d) = %v", no, p[:24])
		}
	}
	for _, no := range numbers() {
		if p := New(no); p != bare(no, 0, 0, 0) || p.No() != no&0xffff {
			t.Errorf("New(%d) = %v", no, p[:24])
		}
	}
}

// A new page has nothing, not even its sum.
func TestNewHasNothing(t *testing.T) {
	p := New(258)
	for i, x := range p {
		if i != 12 && i != 13 && x != 0 {
			t.Errorf("byte %d is %d", i, x)
		}
	}
	for i := range 7 {
		has(t, p, i, api.Item{}, api.OK)
	}
}

// Each number is read of just its own bytes, the greatest ahead.
func TestPlaces(t *testing.T) {
	var p Page
	for i := range p {
		p[i] = byte(i)
	}
	tells(t, p, 0x0c0d, 0x0405060708090a0b, 0x0e0f, 0x1011121314151617)
	for i := range p {
		p[i] = ^p[i]
	}
	tells(t, p, 0xf3f2, -0x0405060708090a0c, 0xf1f0, -0x1011121314151618)
}

func TestEachByteOfTheNumbers(t *testing.T) {
	for at := range 512 {
		for n := 1; n < 256; n++ {
			p := changed(Page{}, at, byte(n))
			var no, lsn, next, note int
			switch {
			case at >= 4 && at <= 11:
				lsn = n << (8 * (11 - at))
			case at == 12 || at == 13:
				no = n << (8 * (13 - at))
			case at == 14 || at == 15:
				next = n << (8 * (15 - at))
			case at >= 16 && at <= 23:
				note = n << (8 * (23 - at))
			}
			tells(t, p, no, lsn, next, note)
		}
	}
}

func TestNumbersOfAnyPage(t *testing.T) {
	for _, p := range pages() {
		at := func(i int) int { return int(binary.BigEndian.Uint64(p[i:])) }
		tells(t, p, int(p[12])<<8|int(p[13]), at(4), int(p[14])<<8|int(p[15]), at(16))
	}
	tells(t, full(255), 65535, -1, 65535, -1)
	tells(t, Page{4: 128, 12: 128, 14: 128, 16: 128}, 32768, math.MinInt, 32768, math.MinInt)
}

func TestWithLSN(t *testing.T) {
	for _, x := range []struct {
		n    int
		want [8]byte
	}{
		{0, [8]byte{}},
		{-1, [8]byte{255, 255, 255, 255, 255, 255, 255, 255}},
		{-2, [8]byte{255, 255, 255, 255, 255, 255, 255, 254}},
		{1, [8]byte{7: 1}},
		{258, [8]byte{6: 1, 7: 2}},
		{65536, [8]byte{5: 1}},
		{1 << 48, [8]byte{1: 1}},
		{0x0102030405060708, [8]byte{1, 2, 3, 4, 5, 6, 7, 8}},
		{math.MaxInt, [8]byte{127, 255, 255, 255, 255, 255, 255, 255}},
		{math.MinInt, [8]byte{128}},
	} {
		for _, p := range pages() {
			got := p.WithLSN(x.n)
			if [8]byte(got[4:12]) != x.want {
				t.Errorf("WithLSN(%d): %v", x.n, got[4:12])
			}
			only(t, p, got, 4, 12)
			tells(t, got, p.No(), x.n, p.Next(), p.Note())
			got = p.WithNote(x.n)
			if [8]byte(got[16:24]) != x.want {
				t.Errorf("WithNote(%d): %v", x.n, got[16:24])
			}
			only(t, p, got, 16, 24)
			tells(t, got, p.No(), p.LSN(), p.Next(), x.n)
		}
	}
}

func TestWithNext(t *testing.T) {
	for _, x := range []struct {
		n    int
		want [2]byte
	}{
		{0, [2]byte{}}, {1, [2]byte{0, 1}}, {258, [2]byte{1, 2}}, {65535, [2]byte{255, 255}}, {65536, [2]byte{}}, {65537, [2]byte{0, 1}},
		{1<<40 + 3, [2]byte{0, 3}}, {math.MaxInt, [2]byte{255, 255}}, {-1, [2]byte{255, 255}}, {-2, [2]byte{255, 254}}, {-65535, [2]byte{0, 1}},
		{-65536, [2]byte{}}, {-65537, [2]byte{255, 255}}, {math.MinInt, [2]byte{}}, {math.MinInt + 258, [2]byte{1, 2}},
	} {
		for _, p := range pages() {
			got := p.WithNext(x.n)
			if [2]byte(got[14:16]) != x.want {
				t.Errorf("WithNext(%d): %v", x.n, got[14:16])
			}
			only(t, p, got, 14, 16)
			tells(t, got, p.No(), p.LSN(), int(x.want[0])*256+int(x.want[1]), p.Note())
		}
	}
}

func TestWithOfManyNumbers(t *testing.T) {
	for _, n := range numbers() {
		if got := New(7).WithLSN(n); got != bare(7, n, 0, 0) {
			t.Errorf("WithLSN(%d) = %v", n, got[:24])
		}
		if got := New(7).WithNext(n); got != bare(7, 0, n, 0) {
			t.Errorf("WithNext(%d) = %v", n, got[:24])
		}
		if got := New(7).WithNote(n); got != bare(7, 0, 0, n) {
			t.Errorf("WithNote(%d) = %v", n, got[:24])
		}
		head := bare(-1, n, n+3, ^n)
		if got := full(255).WithLSN(n).WithNote(^n).WithNext(n + 3); !bytes.Equal(got[:24], slices.Concat([]byte{255, 255, 255, 255}, head[4:24])) {
			t.Errorf("of %d: %v", n, got[:24])
		}
	}
}

// P7.2

func TestSlot(t *testing.T) {
	items, told := things()
	for _, p := range pages() {
		for i := range 7 {
			for j, b := range told {
				has(t, laid(p, i, b), i, items[j], api.OK)
			}
		}
	}
	for i := range 7 {
		has(t, busy(), i, items[i+1], api.OK)
		has(t, Page{}, i, api.Item{}, api.OK)
	}
}

// otherSlots gives numbers that no slot has: such that the bytes of another
// part, or of another page, would be there.
func otherSlots() []int {
	return []int{
		-1, -2, -7, -8, -64, -256, -1 << 16, -1 << 32, -1 << 57, -1 << 58, -1<<58 + 1, math.MinInt, math.MinInt + 1,
		7, 8, 9, 13, 14, 63, 64, 255, 256, 257, 262, 1 << 16, 1 << 32, 1<<32 + 1, 1 << 57, 1 << 58, 1<<58 + 1, 1<<58 + 6, math.MaxInt - 1, math.MaxInt,
	}
}

func TestSlotOfNoPlace(t *testing.T) {
	for _, p := range append(pages(), Page(slices.Repeat([]byte{0, 1}, 256))) {
		for _, i := range otherSlots() {
			has(t, p, i, api.Item{}, api.ErrRange)
		}
	}
}

func TestSlotOfNoItem(t *testing.T) {
	for _, p := range pages() {
		for i := range 7 {
			for _, b := range noItems() {
				has(t, laid(p, i, b), i, api.Item{}, api.ErrForm)
			}
		}
	}
	for i := range 7 {
		has(t, full(1), i, api.Item{}, api.ErrForm)
		has(t, full(255), i, api.Item{}, api.ErrForm)
	}
}

// Just the 64 bytes of a slot tell what it is.
func TestSlotHasItsOwnBytes(t *testing.T) {
	was := busy()
	items, _ := things()
	for at := range 512 {
		for _, by := range []byte{1, 128, 255} {
			p := changed(was, at, by)
			for i := range 7 {
				lo := 32 + 64*i
				if at < lo || at >= lo+64 {
					has(t, p, i, items[i+1], api.OK)
					continue
				}
				want, err := slot.Get([64]byte(p[lo : lo+64]))
				has(t, p, i, want, err)
			}
		}
	}
}

func TestWithSlot(t *testing.T) {
	items, told := things()
	for _, p := range pages() {
		for i := range 7 {
			for j, x := range items {
				got := p.WithSlot(i, x)
				if got != laid(p, i, told[j]) {
					t.Errorf("WithSlot(%d, %v): %v", i, x, got)
				}
				only(t, p, got, 32+64*i, 96+64*i)
				has(t, got, i, x, api.OK)
			}
		}
	}
}

// One that may not be is written as an empty one.
func TestWithSlotOfWrongOnes(t *testing.T) {
	for _, p := range pages() {
		for i := range 7 {
			for _, x := range wrongs() {
				got := p.WithSlot(i, x)
				if got != laid(p, i, [64]byte{}) {
					t.Errorf("WithSlot(%d, %v): %v", i, x, got)
				}
				has(t, got, i, api.Item{}, api.OK)
			}
		}
	}
}

func TestWithSlotOfNoPlace(t *testing.T) {
	items, _ := things()
	for _, p := range pages() {
		for _, i := range otherSlots() {
			for _, x := range append(wrongs(), items...) {
				if got := p.WithSlot(i, x); got != p {
					t.Errorf("WithSlot(%d, %v): %v, was %v", i, x, got, p)
				}
			}
		}
	}
}

// P7.3

func TestSeal(t *testing.T) {
	if got, want := Seal(full(255)), full(255); [508]byte(got[4:]) != [508]byte(want[4:]) || [4]byte(got[:4]) != [4]byte{0x48, 0x71, 0xc4, 0xab} {
		t.Errorf("%x", got[:8])
	}
	for _, p := range pages() {
		got := Seal(p)
		if got != sealed(p) {
			t.Errorf("Seal(%v) = %v", p, got)
		}
		only(t, p, got, 0, 4)
		if Seal(got) != got {
			t.Errorf("%v is sealed otherwise again", got)
		}
		for at := range 4 {
			if Seal(changed(p, at, 255)) != got || Seal(changed(got, at, 1)) != got {
				t.Errorf("the sum that was there is of matter")
			}
		}
	}
}

// checks fails unless Check of p, as the page no, tells want.
func checks(t *testing.T, p Page, no int, want api.Errno) {
	t.Helper()
	if got := Check(p, no); got != want {
		t.Errorf("Check(%v, %d) = %d, want %d", p, no, got, want)
	}
}

func TestCheck(t *testing.T) {
	items, _ := things()
	for _, no := range []int{0, 1, 255, 256, 258, 1023, 32768, 65534, 65535} {
		checks(t, New(no), no, api.ErrCorrupt)
		checks(t, Seal(New(no)), no, api.OK)
		for _, n := range []int{0, 1, -1, math.MaxInt, math.MinInt} {
			checks(t, Seal(New(no).WithLSN(n).WithNext(n).WithNote(n)), no, api.OK)
		}
		for i := range 7 {
			for _, x := range append(wrongs(), items...) {
				checks(t, Seal(New(no).WithSlot(i, x)), no, api.OK)
				checks(t, New(no).WithSlot(i, x), no, api.ErrCorrupt)
			}
		}
	}
	checks(t, busy(), 513, api.OK)
	checks(t, Seal(busy()), 513, api.OK)
	checks(t, Page{}, 0, api.ErrCorrupt)
	checks(t, full(255), 65535, api.ErrCorrupt)
	checks(t, Seal(full(255)), 65535, api.ErrCorrupt)
}

func TestCheckOfOtherNumbers(t *testing.T) {
	for _, no := range []int{0, 1, 258, 513, 32768, 65535} {
		p := Seal(New(no))
		for other := -2; other < 65540; other++ {
			if other != no {
				checks(t, p, other, api.ErrCorrupt)
			}
		}
		for _, by := range []int{1 << 16, 1 << 17, 1 << 31, 1 << 32, 1 << 62, math.MinInt} {
			checks(t, p, no+by, api.ErrCorrupt)
			checks(t, p, no-by, api.ErrCorrupt)
			checks(t, Seal(New(no+by)), no+by, api.ErrCorrupt)
			checks(t, Seal(New(no+by)), no, api.OK)
		}
	}
	for _, no := range numbers() {
		want := api.ErrCorrupt
		if no >= 0 && no <= 65535 {
			want = api.OK
		}
		checks(t, Seal(New(no)), no, want)
	}
}

// With any one byte changed the sum is another one.
func TestCheckOfOneByteChanged(t *testing.T) {
	for _, p := range []Page{busy(), Seal(New(513))} {
		for at := range 512 {
			for by := 1; by < 256; by++ {
				q := changed(p, at, byte(by))
				checks(t, q, 513, api.ErrCorrupt)
				checks(t, q, q.No(), api.ErrCorrupt)
			}
		}
	}
}

// With a sum that agrees the bytes are looked at themselves.
func TestCheckOfOneByteChangedAndSealed(t *testing.T) {
	for _, p := range []Page{busy(), Seal(New(513))} {
		for at := range 512 {
			for by := 1; by < 256; by++ {
				q := Seal(changed(p, at, byte(by)))
				want := api.OK
				switch {
				case at >= 24 && at < 32, at >= 480, at == 12, at == 13:
					want = api.ErrCorrupt
				case at >= 32:
					if _, err := slot.Get([64]byte(q[32+(at-32)/64*64:])); err != api.OK {
						want = api.ErrCorrupt
					}
				}
				checks(t, q, 513, want)
			}
		}
	}
}

func TestCheckOfASlotThatIsNone(t *testing.T) {
	for _, p := range []Page{busy(), New(513)} {
		for i := range 7 {
			for _, b := range noItems() {
				checks(t, Seal(laid(p, i, b)), 513, api.ErrCorrupt)
			}
			_, good := things()
			for _, b := range good {
				checks(t, Seal(laid(p, i, b)), 513, api.OK)
			}
		}
	}
}

func TestCheckOfAnySum(t *testing.T) {
	p := busy()
	for n := range 4000 {
		copy(p[:4], sample.Some(n + 4)[n:])
		want := api.ErrCorrupt
		if p == busy() {
			want = api.OK
		}
		checks(t, p, 513, want)
	}
	checks(t, Page(slices.Concat([]byte{0, 0, 0, 0}, p[4:])), 513, api.ErrCorrupt)
}

func TestCheckOfAnyPage(t *testing.T) {
	for n := range 500 {
		checks(t, anyPage(n), anyPage(n).No(), api.ErrCorrupt)
		checks(t, Seal(anyPage(n)), anyPage(n).No(), api.ErrCorrupt)
	}
}

// P7.4

// All is written and read, in any order, of one part behind the other.
func TestWhatIsWrittenIsRead(t *testing.T) {
	items, _ := things()
	l := numbers()
	p := anyPage(3)
	no := p.No()
	var lsn, next, note int
	has7 := [7]api.Item{}
	p = p.WithLSN(0).WithNext(0).WithNote(0)
	for i := range 7 {
		p = p.WithSlot(i, api.Item{})
	}
	for step, n := range l {
		switch step % 5 {
		case 0:
			p, lsn = p.WithLSN(n), n
		case 1:
			p, next = p.WithNext(n), n&0xffff
		case 2:
			p, note = p.WithNote(n), n
		default:
			i := (step*step + 3) % 7
			has7[i] = items[step%len(items)]
			p = p.WithSlot(i, has7[i])
		}
		tells(t, p, no, lsn, next, note)
		for i, x := range has7 {
			has(t, p, i, x, api.OK)
		}
	}
	was := anyPage(3)
	if [8]byte(p[24:32]) != [8]byte(was[24:32]) || [32]byte(p[480:]) != [32]byte(was[480:]) || [4]byte(p[:4]) != [4]byte(was[:4]) {
		t.Errorf("%v, was %v", p, was)
	}
}

// What is written twice has what was written last, and no more.
func TestTheLastOneCounts(t *testing.T) {
	items, _ := things()
	for _, p := range pages() {
		for i := range 7 {
			for _, x := range items {
				for _, y := range items {
					if p.WithSlot(i, x).WithSlot(i, y) != p.WithSlot(i, y) {
						t.Errorf("%v behind %v", y, x)
					}
				}
			}
		}
		if p.WithLSN(-1).WithLSN(3) != p.WithLSN(3) || p.WithNext(-1).WithNext(3) != p.WithNext(3) || p.WithNote(-1).WithNote(3) != p.WithNote(3) {
			t.Errorf("%v", p)
		}
	}
}

// Memory

// A page that a call was made on, or handed in, stays as it was.
func TestPagesStayAsTheyWere(t *testing.T) {
	for _, was := range pages() {
		p := was
		p.WithLSN(^p.LSN())
		p.WithNext(^p.Next())
		p.WithNote(^p.Note())
		for i := -1; i < 9; i++ {
			p.WithSlot(i, sample.Live("other", sample.Record(1, 2, 3)))
			p.WithSlot(i, api.Item{})
			p.Slot(i)
		}
		Seal(p)
		Check(p, p.No())
		tells(t, p, was.No(), was.LSN(), was.Next(), was.Note())
		if p != was {
			t.Errorf("%v, was %v", p, was)
		}
	}
}

func TestItemsStayAsTheyWere(t *testing.T) {
	for _, n := range []int{0, 2, 32, 33} {
		data, whole := sample.Roomy(sample.Some(n)...)
		was := bytes.Clone(whole)
		for i := -1; i < 8; i++ {
			p := full(9).WithSlot(i, sample.Live("a", sample.Record(data...)))
			q := full(9).WithSlot(i, api.Item{State: 1, Key: "a", Cell: api.Cell{Kind: 1, Data: data}})
			if p != q {
				t.Errorf("spare room is of matter")
			}
		}
		if !bytes.Equal(whole, was) {
			t.Errorf("of %d bytes: %v, was %v", n, whole, was)
		}
	}
}

// An answer is neither the page's memory nor another answer's.
func TestAnswersAreNewMemory(t *testing.T) {
	p := busy()
	for i := range 7 {
		x, _ := p.Slot(i)
		y, _ := p.Slot(i)
		sample.Scribble(x.Cell.Data)
		items, _ := things()
		if !like(y, items[i+1]) {
			t.Errorf("slot %d: %v", i, y)
		}
		has(t, p, i, items[i+1], api.OK)
	}
	data := sample.Some(5)
	p = p.WithSlot(3, sample.Live("a", sample.Record(data...)))
	q := p
	sample.Scribble(data)
	if p != q {
		t.Errorf("%v", p)
	}
}

func TestNilAndEmptyAreAlike(t *testing.T) {
	p := New(3)
	if p.WithSlot(2, sample.Live("a", api.Cell{Kind: 1})) != p.WithSlot(2, sample.Live("a", api.Cell{Kind: 1, Data: []byte{}})) {
		t.Error("of a record")
	}
	if full(9).WithSlot(2, api.Item{}) != full(9).WithSlot(2, api.Item{Cell: api.Cell{Data: []byte{}}}) {
		t.Error("of none")
	}
}

// Answers hang on the arguments alone.
func TestCallsTellTheSameAgain(t *testing.T) {
	for _, p := range pages() {
		for range 3 {
			if Seal(p) != sealed(p) || Check(p, p.No()) != Check(p, p.No()) || New(p.No()) != New(p.No()) || p.WithNote(3) != p.WithNote(3) {
				t.Errorf("%v", p)
			}
		}
	}
}

func TestExample(t *testing.T) {
	if p := New(258); p[12] != 1 || p[13] != 2 || p != (Page{12: 1, 13: 2}) {
		t.Error(p)
	}
}
