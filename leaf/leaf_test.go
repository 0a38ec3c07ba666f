package leaf_test

import (
	"bytes"
	"math"
	"math/rand"
	"slices"
	"strings"
	"testing"

	"suture/api"
	"suture/leaf"
	"suture/ptr"
)

// chainPtr: a pointer of a chain that may be.
func chainPtr() api.Ptr {
	return api.Ptr{Kind: 3, Addr: [2]uint16{9, 0}, Birth: 0x05060708, Sum: 0x1112131415161718}
}

// in: an item whose value stands in the leaf.
func in(key, val string) api.Item {
	return api.Item{Key: []byte(key), Val: []byte(val)}
}

// out: an item whose value stands in a chain.
func out(key string, size uint16) api.Item {
	return api.Item{Key: []byte(key), Over: chainPtr(), Size: size}
}

// with: the item that f makes of x.
func with(x api.Item, f func(*api.Item)) api.Item {
	f(&x)
	return x
}

// letters: so many of them.
func letters(n int) string {
	return strings.Repeat("q", n)
}

// row: so many items, whose keys rise.
func row(n int) []api.Item {
	var l []api.Item
	for i := range n {
		l = append(l, in(string(rune('a'+i)), letters(i)))
	}
	return l
}

// good: rows of items that may be.
func good() [][]api.Item {
	full := func(x func(key string) api.Item) []api.Item {
		var l []api.Item
		for i := range 6 {
			l = append(l, x("1234567"+string(rune('a'+i))))
		}
		return l
	}
	return [][]api.Item{
		nil,
		{},
		{in("k", "")},
		{{Key: []byte("k")}},
		{in("\x00", "\x00")},
		{in("\x00", ""), in("\x00\x00", ""), in("\x00\x01", "")},
		{in("\xff", ""), in("\xff\xff\xff\xff\xff\xff\xff\xff", "")},
		{in("\x7f", "a"), in("\x80", "b")},
		{in("12345678", letters(16))},
		{in("k", letters(15))},
		{out("k", 17)},
		{out("12345678", 600)},
		{with(out("k", 256), func(x *api.Item) { x.Val = []byte{} })},
		{with(out("k", 17), func(x *api.Item) { x.Over.Addr[0] = 4 }), with(out("l", 600), func(x *api.Item) { x.Over.Addr[0] = 255 })},
		{with(out("k", 17), func(x *api.Item) { x.Over.Birth = 1 }), with(out("l", 600), func(x *api.Item) { x.Over.Birth = 1 << 30 })},
		{with(out("k", 17), func(x *api.Item) { x.Over.Sum = 0 }), with(out("l", 600), func(x *api.Item) { x.Over.Sum = math.MaxUint64 })},
		{in("a", "1"), in("ab", "22"), in("abc", ""), in("b", "4")},
		{in("a", ""), out("ab", 18), in("b", letters(16)), out("zzzzzzzz", 599)},
		row(2), row(5), row(6),
		full(func(key string) api.Item { return in(key, letters(16)) }),
		full(func(key string) api.Item { return out(key, 600) }),
	}
}

// badItems: items that may not be, each for one fault.
func badItems() []api.Item {
	over := func(f func(*api.Ptr)) api.Item {
		return with(out("k", 20), func(x *api.Item) { f(&x.Over) })
	}
	l := []api.Item{
		{},
		in("", "v"),
		in("123456789", "v"),
		in(letters(255), ""),
		in(letters(256), ""),
		in(letters(257), ""),
		in("k", letters(17)),
		in("k", letters(255)),
		in("k", letters(256)),
		in("k", letters(272)),
		with(in("k", "v"), func(x *api.Item) { x.Size = 1 }),
		with(in("k", "v"), func(x *api.Item) { x.Size = 17 }),
		with(in("k", ""), func(x *api.Item) { x.Size = 600 }),
		with(in("k", "v"), func(x *api.Item) { x.Size = 256 }),
		with(in("k", ""), func(x *api.Item) { x.Size = math.MaxUint16 }),
		with(in("k", "v"), func(x *api.Item) { x.Over.Addr[0] = 1 }),
		with(in("k", "v"), func(x *api.Item) { x.Over.Addr[0] = 256 }),
		with(in("k", "v"), func(x *api.Item) { x.Over.Addr[1] = 1 }),
		with(in("k", "v"), func(x *api.Item) { x.Over.Birth = 1 }),
		with(in("k", "v"), func(x *api.Item) { x.Over.Sum = 1 }),
		with(in("k", "v"), func(x *api.Item) { x.Over.Sum = 1 << 63 }),
		out("", 20),
		out("123456789", 20),
		out("k", 0),
		out("k", 1),
		out("k", 16),
		out("k", 601),
		out("k", 256+16+512),
		out("k", math.MaxUint16),
		with(out("k", 20), func(x *api.Item) { x.Val = []byte{0} }),
		with(out("k", 20), func(x *api.Item) { x.Val = []byte(letters(16)) }),
		with(out("k", 20), func(x *api.Item) { x.Val = []byte(letters(20)) }),
		over(func(x *api.Ptr) { x.Addr[0] = 0 }),
		over(func(x *api.Ptr) { x.Addr[0] = 3 }),
		over(func(x *api.Ptr) { x.Addr[0] = 256 }),
		over(func(x *api.Ptr) { x.Addr[0] = 65535 }),
		over(func(x *api.Ptr) { x.Addr[1] = 1 }),
		over(func(x *api.Ptr) { x.Addr[1] = 10 }),
		over(func(x *api.Ptr) { x.Birth = 0 }),
		over(func(x *api.Ptr) { x.Birth = 1<<30 + 1 }),
		over(func(x *api.Ptr) { x.Birth = math.MaxUint32 }),
		over(func(x *api.Ptr) { x.Kind = 0 }),
	}
	for _, k := range []uint8{1, 2, 4, 131, 255} {
		l = append(l, over(func(x *api.Ptr) { x.Kind = k }), over(func(x *api.Ptr) { x.Kind, x.Addr[1] = k, 10 }))
		l = append(l, with(in("k", "v"), func(x *api.Item) { x.Over.Kind = k }))
		l = append(l, with(in("k", ""), func(x *api.Item) { x.Over = api.Ptr{Kind: k, Addr: [2]uint16{4, 5}, Birth: 1} }))
	}
	return l
}

// bad: rows of items that may not be.
func bad() [][]api.Item {
	l := [][]api.Item{
		row(7), row(8), row(20), make([]api.Item, 7),
		{in("a", ""), in("a", "")},
		{in("a", "1"), in("a", "2")},
		{in("a", "1"), out("a", 20)},
		{in("b", ""), in("a", "")},
		{in("ab", ""), in("a", "")},
		{in("\x80", ""), in("\x7f", "")},
		{in("\x00\x00", ""), in("\x00", "")},
		{in("b", ""), in("aa", "")},
		{in("a", ""), in("c", ""), in("b", "")},
		{in("a", ""), in("b", ""), in("b", "")},
		{in("a", ""), in("b", ""), in("a", "")},
		{in("b", ""), in("c", ""), in("a", "")},
		{in("12345678", ""), in("12345678", "")},
		{in("a", ""), in("b", ""), in("c", ""), in("d", ""), in("f", ""), in("e", "")},
	}
	for _, x := range badItems() {
		l = append(l, []api.Item{x}, []api.Item{in("A", ""), x, in("z", "")}, []api.Item{in("A", ""), x}, []api.Item{x, in("z", "")})
	}
	return l
}

// slowMayBe: whether an item may be, by the chapter's words.
func slowMayBe(x api.Item) bool {
	if len(x.Key) == 0 || len(x.Key) > 8 {
		return false
	}
	inLeaf := len(x.Val) <= 16 && x.Over == api.Ptr{} && x.Size == 0
	over := x.Over.Kind == 3 && x.Over.Addr[0] >= 4 && x.Over.Addr[0] < 256 && x.Over.Addr[1] == 0 && x.Over.Birth >= 1 && x.Over.Birth <= 1<<30
	return inLeaf || over && len(x.Val) == 0 && x.Size >= 17 && x.Size <= 600
}

// slowRight: whether items may be: each, and each pair of them.
func slowRight(l []api.Item) bool {
	for i, x := range l {
		if !slowMayBe(x) {
			return false
		}
		for _, y := range l[:i] {
			if string(y.Key) >= string(x.Key) {
				return false
			}
		}
	}
	return len(l) <= 6
}

// low: n as so many bytes, the lowest one first.
func low(n uint64, width int) []byte {
	var o []byte
	for range width {
		o = append(o, byte(n%256))
		n /= 256
	}
	return o
}

// slowPage: a leaf's page by the chapter's words, of whatever items have room.
func slowPage(l []api.Item) api.Page {
	b := []byte{1, byte(len(l))}
	for _, x := range l {
		b = append(append(b, byte(len(x.Key))), x.Key...)
		if x.Over.Kind == 0 {
			b = append(append(b, 0, byte(len(x.Val))), x.Val...)
			continue
		}
		b = append(append(b, 1), low(uint64(x.Size), 2)...)
		b = append(b, x.Over.Kind)
		b = append(append(b, low(uint64(x.Over.Addr[0]), 2)...), low(uint64(x.Over.Addr[1]), 2)...)
		b = append(append(b, low(uint64(x.Over.Birth), 4)...), low(x.Over.Sum, 8)...)
	}
	var p api.Page
	if len(b) > len(p) {
		panic("no room on the page")
	}
	copy(p[:], b)
	return p
}

// slowItems: the items of a page, byte after byte; no if the page is none of any.
func slowItems(p api.Page) (l []api.Item, ok bool) {
	at := 2
	next := func(n int) []byte {
		if at+n > 256 {
			at = 1000
			return make([]byte, n)
		}
		at += n
		return bytes.Clone(p[at-n : at])
	}
	num := func(width int) (n uint64) {
		for i, x := range next(width) {
			n += uint64(x) << (8 * i)
		}
		return n
	}
	for range int(p[1]) {
		x := api.Item{Key: next(int(num(1)))}
		switch num(1) {
		case 0:
			x.Val = next(int(num(1)))
		case 1:
			x.Size = uint16(num(2))
			x.Over = api.Ptr{Kind: uint8(num(1)), Addr: [2]uint16{uint16(num(2)), uint16(num(2))}, Birth: uint32(num(4)), Sum: num(8)}
			if x.Over.Kind != 3 {
				return nil, false
			}
		default:
			return nil, false
		}
		l = append(l, x)
		if at > 256 {
			return nil, false
		}
	}
	if p[0] != 1 || !slowRight(l) || bytes.ContainsFunc(p[at:], func(r rune) bool { return r != 0 }) {
		return nil, false
	}
	return l, true
}

// sameItems: the same items, part by part.
func sameItems(a, b []api.Item) bool {
	if len(a) != len(b) {
		return false
	}
	for i := range a {
		if string(a[i].Key) != string(b[i].Key) || string(a[i].Val) != string(b[i].Val) || a[i].Over != b[i].Over || a[i].Size != b[i].Size {
			return false
		}
	}
	return true
}

// deep: the same items, in memory of their own.
func deep(l []api.Item) []api.Item {
	o := make([]api.Item, 0, len(l))
	for _, x := range l {
		o = append(o, api.Item{Key: append([]byte{}, x.Key...), Val: append([]byte{}, x.Val...), Over: x.Over, Size: x.Size})
	}
	return o
}

// roomy: the same items, each with spare room behind its key and its value, and room behind them all.
func roomy(l []api.Item) []api.Item {
	o := make([]api.Item, 0, len(l)+5)
	for _, x := range l {
		x.Key = append(make([]byte, 0, len(x.Key)+40), x.Key...)
		x.Val = append(make([]byte, 0, len(x.Val)+40), x.Val...)
		o = append(o, x)
	}
	return o
}

// scribble: all bytes of all items are others, those of spare room too, and all items.
func scribble(l []api.Item) {
	l = l[:cap(l)]
	for i := range l {
		for _, b := range [][]byte{l[i].Key, l[i].Val} {
			b = b[:cap(b)]
			for k := range b {
				b[k] ^= 255
			}
		}
		l[i] = api.Item{Size: 9}
	}
}

// room: all that lies in the memory of a row, its spare room too.
func room(l []api.Item) string {
	var o []byte
	for _, x := range l[:cap(l)] {
		o = append(o, byte(len(x.Key)), byte(len(x.Val)), byte(x.Size), x.Over.Kind)
		o = append(append(o, x.Key[:cap(x.Key)]...), x.Val[:cap(x.Val)]...)
	}
	return string(o)
}

// corrupt: the page is told to be of no items.
func corrupt(t *testing.T, name string, p api.Page) {
	t.Helper()
	if l, e := leaf.Decode(p); len(l) != 0 || e != api.ErrCorrupt {
		t.Errorf("%s: %v, %d", name, l, e)
	}
}

// P6.1, Right: rows that may be, and rows that may not.
func TestRight(t *testing.T) {
	for i, l := range good() {
		if !leaf.Right(l...) || !slowRight(l) {
			t.Errorf("good %d may not be: %v", i, l)
		}
	}
	for i, l := range bad() {
		if leaf.Right(l...) || slowRight(l) {
			t.Errorf("bad %d may be: %v", i, l)
		}
	}
	if !leaf.Right() {
		t.Error("no items may not be")
	}
}

// P6.1, Right: every length of a key, of a value, and every size.
func TestRightLengths(t *testing.T) {
	for n := range 600 {
		if leaf.Right(in(letters(n), "v")) != (n >= 1 && n <= 8) || leaf.Right(out(letters(n), 20)) != (n >= 1 && n <= 8) {
			t.Errorf("a key of %d bytes", n)
		}
		if leaf.Right(in("k", letters(n))) != (n <= 16) {
			t.Errorf("a value of %d bytes", n)
		}
		if leaf.Right(with(out("k", 20), func(x *api.Item) { x.Val = make([]byte, n) })) != (n == 0) {
			t.Errorf("a value of %d bytes beside a chain", n)
		}
	}
	for n := range 1 << 16 {
		if leaf.Right(out("k", uint16(n))) != (n >= 17 && n <= 600) {
			t.Errorf("a size of %d", n)
		}
		if leaf.Right(with(in("k", "v"), func(x *api.Item) { x.Size = uint16(n) })) != (n == 0) {
			t.Errorf("a size of %d beside a value in the leaf", n)
		}
	}
}

// P6.1, Right: all parts together, held against the words.
func TestRightParts(t *testing.T) {
	seen := map[bool]int{}
	overs := []api.Ptr{{}, chainPtr(), {Kind: 3}, {Sum: 1}, {Birth: 1}, {Addr: [2]uint16{9, 0}}, {Kind: 3, Addr: [2]uint16{9, 0}, Birth: 1}}
	for kind := range uint8(5) {
		for _, a := range []uint16{3, 4, 255, 256} {
			for _, b := range []uint16{0, 5} {
				for _, birth := range []uint32{0, 1, 1 << 30, 1<<30 + 1} {
					overs = append(overs, api.Ptr{Kind: kind, Addr: [2]uint16{a, b}, Birth: birth, Sum: 7})
				}
			}
		}
	}
	for _, key := range []int{0, 1, 8, 9} {
		for _, val := range []int{0, 1, 16, 17} {
			for _, size := range []uint16{0, 1, 16, 17, 600, 601} {
				for _, over := range overs {
					l := []api.Item{{Key: []byte(letters(key)), Val: []byte(letters(val)), Over: over, Size: size}}
					want := slowRight(l)
					seen[want]++
					if leaf.Right(l...) != want {
						t.Errorf("%v: not %v", l, want)
					}
				}
			}
		}
	}
	if seen[true] < 10 || seen[false] < 1000 {
		t.Error(seen)
	}
}

// P6.1, Right: keys in every order of three.
func TestRightOrder(t *testing.T) {
	keys := []string{"\x00", "a", "a\x00", "aa", "ab", "b", "ba", "\x7f", "\x80", "\xff", "\xff\x00"}
	for _, a := range keys {
		for _, b := range keys {
			for _, c := range keys {
				want := a < b && b < c
				if leaf.Right(in(a, ""), in(b, ""), in(c, "")) != want || leaf.Right(out(a, 20), in(b, "v"), out(c, 20)) != want {
					t.Errorf("%q, %q, %q: not %v", a, b, c, want)
				}
			}
		}
	}
}

// P6.1, Own: the same, whether it may be or not.
func TestOwn(t *testing.T) {
	for i, l := range append(good(), bad()...) {
		if got := leaf.Own(l...); !sameItems(got, l) {
			t.Errorf("%d: %v, not %v", i, got, l)
		}
	}
	if got := leaf.Own(); len(got) != 0 {
		t.Errorf("nothing: %v", got)
	}
}

// P6.1, Own, R4: in memory of its own, each time it is told, for each item.
func TestOwnMemory(t *testing.T) {
	for i, l := range append(good(), bad()...) {
		given := roomy(l)
		was := room(given)
		got, again := leaf.Own(given...), leaf.Own(given...)
		scribble(got)
		if room(given) != was || !sameItems(again, l) {
			t.Errorf("%d: memory is shared", i)
		}
	}
	one := in("k", "v")
	got := leaf.Own(one, one)
	got[0].Key[0], got[0].Val[0] = 'x', 'y'
	if !sameItems(got[1:], []api.Item{in("k", "v")}) {
		t.Error("two items of one memory share theirs")
	}
	got = leaf.Own(row(3)...)
	_ = append(append(got[0].Key, "long beyond"...), append(got[0].Val, "more beyond"...)...)
	if !sameItems(got, row(3)) {
		t.Error("what is put behind a key reaches another one")
	}
}

// P6.1, Same: each row is the same as itself, and as no other one.
func TestSame(t *testing.T) {
	rows := append(good(), bad()...)
	for i, a := range rows {
		if !leaf.Same(a, deep(a)) || !leaf.Same(deep(a), a) {
			t.Errorf("%d is not the same: %v", i, a)
		}
		for k, b := range rows {
			if leaf.Same(a, b) != sameItems(a, b) {
				t.Errorf("%d and %d: not %v", i, k, sameItems(a, b))
			}
		}
	}
}

// P6.1, Same: each part counts, at each place; nil and empty are the same.
func TestSameParts(t *testing.T) {
	base := []api.Item{in("a", "1"), out("b", 20), in("c", "3")}
	for i, f := range []func(*api.Item){
		func(x *api.Item) { x.Key = []byte("d") },
		func(x *api.Item) { x.Key = []byte("") },
		func(x *api.Item) { x.Key = append(bytes.Clone(x.Key), 0) },
		func(x *api.Item) { x.Val = []byte("d") },
		func(x *api.Item) { x.Val = append(bytes.Clone(x.Val), 0) },
		func(x *api.Item) { x.Key, x.Val = x.Val, x.Key },
		func(x *api.Item) { x.Over.Kind ^= 1 },
		func(x *api.Item) { x.Over.Addr[0] ^= 256 },
		func(x *api.Item) { x.Over.Addr[1] ^= 256 },
		func(x *api.Item) { x.Over.Birth ^= 1 << 31 },
		func(x *api.Item) { x.Over.Sum ^= 1 << 63 },
		func(x *api.Item) { x.Size ^= 256 },
	} {
		for at := range base {
			l := deep(base)
			f(&l[at])
			if leaf.Same(l, base) || leaf.Same(base, l) {
				t.Errorf("part %d of item %d does not count", i, at)
			}
		}
	}
	for n := range base {
		if leaf.Same(base[:n], base) || leaf.Same(base, base[:n]) || leaf.Same(base[n:], base[:len(base)-n]) != (n == 0) {
			t.Errorf("%d items of three", n)
		}
	}
	if leaf.Same([]api.Item{base[1], base[0], base[2]}, base) {
		t.Error("another order is the same")
	}
	if !leaf.Same(nil, []api.Item{}) || !leaf.Same(nil, nil) || leaf.Same(nil, make([]api.Item, 1)) {
		t.Error("nothing")
	}
	if !leaf.Same([]api.Item{{Key: nil, Val: nil}}, []api.Item{{Key: []byte{}, Val: []byte{}}}) {
		t.Error("nil and empty differ")
	}
}

// P6.2, Encode: written out.
func TestEncodePlain(t *testing.T) {
	for i, x := range []struct {
		l    []api.Item
		want string
	}{
		{nil, "\x01\x00"},
		{[]api.Item{in("k", "")}, "\x01\x01" + "\x01k\x00\x00"},
		{[]api.Item{in("a", "xy"), in("ab", "")}, "\x01\x02" + "\x01a\x00\x02xy" + "\x02ab\x00\x00"},
		{[]api.Item{in("12345678", "0123456789abcdef")}, "\x01\x01" + "\x0812345678\x00\x100123456789abcdef"},
		{[]api.Item{out("k", 600)}, "\x01\x01" + "\x01k\x01\x58\x02" + "\x03\x09\x00\x00\x00\x08\x07\x06\x05\x18\x17\x16\x15\x14\x13\x12\x11"},
		{[]api.Item{out("k", 17), in("l", "v")}, "\x01\x02" + "\x01k\x01\x11\x00" + "\x03\x09\x00\x00\x00\x08\x07\x06\x05\x18\x17\x16\x15\x14\x13\x12\x11" + "\x01l\x00\x01v"},
	} {
		var want api.Page
		copy(want[:], x.want)
		got, e := leaf.Encode(x.l...)
		if got != want || e != api.OK {
			t.Errorf("%d: % x, %d", i, got, e)
		}
	}
}

// P6.2, Encode: each row that may be.
func TestEncode(t *testing.T) {
	for i, l := range good() {
		if got, e := leaf.Encode(l...); got != slowPage(l) || e != api.OK {
			t.Errorf("%d: % x, %d", i, got, e)
		}
	}
}

// P6.2, Encode: rows that may not be, and a page of noughts beside the error.
func TestEncodeBad(t *testing.T) {
	for i, l := range bad() {
		if got, e := leaf.Encode(l...); got != (api.Page{}) || e != api.ErrArg {
			t.Errorf("%d: %v: % x, %d", i, l, got, e)
		}
	}
}

// P6.2, Decode: written out.
func TestDecodePlain(t *testing.T) {
	for i, x := range []struct {
		p    string
		want []api.Item
	}{
		{"\x01\x00", nil},
		{"\x01\x01\x01k\x00\x00", []api.Item{in("k", "")}},
		{"\x01\x01\x08zyxwvuts\x00\x01v", []api.Item{in("zyxwvuts", "v")}},
		{"\x01\x01\x01\x00\x00\x02\x00\x00", []api.Item{in("\x00", "\x00\x00")}},
		{"\x01\x01\x01k\x01\x58\x02\x03\x09\x00\x00\x00\x08\x07\x06\x05\x18\x17\x16\x15\x14\x13\x12\x11", []api.Item{out("k", 600)}},
		{"\x01\x02\x01k\x00\x01v\x02ka\x01\x11\x00\x03\x09\x00\x00\x00\x08\x07\x06\x05\x18\x17\x16\x15\x14\x13\x12\x11", []api.Item{in("k", "v"), out("ka", 17)}},
	} {
		var p api.Page
		copy(p[:], x.p)
		if got, e := leaf.Decode(p); !sameItems(got, x.want) || e != api.OK {
			t.Errorf("%d: %v, %d", i, got, e)
		}
	}
}

// P6.2, Decode: wrong pages, written out, each for one fault.
func TestDecodeBad(t *testing.T) {
	const over = "\x03\x09\x00\x00\x00\x08\x07\x06\x05\x18\x17\x16\x15\x14\x13\x12\x11"
	for name, b := range map[string]string{
		"noughts":                          "",
		"no items, and a byte behind":      "\x01\x00\x00\x01",
		"a branch's":                       "\x02\x01\x01k\x00\x00",
		"a chain's":                        "\x03\x01\x01k\x00\x00",
		"of kind 0":                        "\x00\x01\x01k\x00\x00",
		"of kind 129":                      "\x81\x01\x01k\x00\x00",
		"a branch's, of nothing":           "\x02\x00",
		"one item, and a count of 0":       "\x01\x00\x01k\x00\x00",
		"two items, and a count of 1":      "\x01\x01\x01k\x00\x00\x01l\x00\x00",
		"one item, and a count of 2":       "\x01\x02\x01k\x00\x00",
		"seven items":                      "\x01\x07\x01a\x00\x00\x01b\x00\x00\x01c\x00\x00\x01d\x00\x00\x01e\x00\x00\x01f\x00\x00\x01g\x00\x00",
		"six items, and a count of 255":    "\x01\xff\x01a\x00\x00\x01b\x00\x00\x01c\x00\x00\x01d\x00\x00\x01e\x00\x00\x01f\x00\x00",
		"a key of no bytes":                "\x01\x01\x00\x00\x01v",
		"a key of nine":                    "\x01\x01\x09123456789\x00\x01v",
		"a key of 255":                     "\x01\x01\xff" + letters(252),
		"a key beyond the page":            "\x01\x01\xfe" + letters(252),
		"a value of 17":                    "\x01\x01\x01k\x00\x11" + letters(17),
		"a value to the page's end":        "\x01\x01\x01k\x00\xfa" + letters(250),
		"a value beyond the page":          "\x01\x01\x01k\x00\xfb" + letters(250),
		"neither in the leaf nor a chain":  "\x01\x01\x01k\x02\x00",
		"neither, and a chain's bytes":     "\x01\x01\x01k\x02\x11\x00" + over,
		"neither, 255":                     "\x01\x01\x01k\xff\x01v",
		"a size of 16":                     "\x01\x01\x01k\x01\x10\x00" + over,
		"a size of 0":                      "\x01\x01\x01k\x01\x00\x00" + over,
		"a size of 601":                    "\x01\x01\x01k\x01\x59\x02" + over,
		"a size of 65535":                  "\x01\x01\x01k\x01\xff\xff" + over,
		"a pointer of noughts":             "\x01\x01\x01k\x01\x11\x00",
		"a pointer of noughts, of size 0":  "\x01\x01\x01k\x01\x00\x00",
		"a pointer of a leaf":              "\x01\x01\x01k\x01\x11\x00\x01" + over[1:],
		"a pointer of a leaf that may be":  "\x01\x01\x01k\x01\x11\x00\x01\x09\x00\x08" + over[4:],
		"a pointer of a branch":            "\x01\x01\x01k\x01\x11\x00\x02\x09\x00\x08" + over[4:],
		"a pointer to an anchor":           "\x01\x01\x01k\x01\x11\x00\x03\x03" + over[2:],
		"a pointer off every disk":         "\x01\x01\x01k\x01\x11\x00\x03\x09\x01" + over[3:],
		"a pointer with a second address":  "\x01\x01\x01k\x01\x11\x00\x03\x09\x00\x08" + over[4:],
		"a pointer born by commit 0":       "\x01\x01\x01k\x01\x11\x00\x03\x09\x00\x00\x00\x00\x00\x00\x00" + over[9:],
		"a pointer born behind MaxTx":      "\x01\x01\x01k\x01\x11\x00\x03\x09\x00\x00\x00\x01\x00\x00\x40" + over[9:],
		"keys that fall":                   "\x01\x02\x01b\x00\x00\x01a\x00\x00",
		"keys that are the same":           "\x01\x02\x01a\x00\x00\x01a\x00\x00",
		"keys the same, one in a chain":    "\x01\x02\x01a\x00\x00\x01a\x01\x11\x00" + over,
		"a key's beginning behind the key": "\x01\x02\x02ab\x00\x00\x01a\x00\x00",
		"a byte behind":                    "\x01\x01\x01k\x00\x01v\x01",
		"a byte behind a chain's":          "\x01\x01\x01k\x01\x11\x00" + over + "\x80",
		"a byte behind a nought":           "\x01\x01\x01k\x00\x01v\x00\x01",
		"a byte at the end":                "\x01\x01\x01k\x00\x01v" + strings.Repeat("\x00", 248) + "\x01",
		"a byte at the end of no items":    "\x01\x00" + strings.Repeat("\x00", 253) + "\x80",
	} {
		if len(b) > 256 {
			t.Fatalf("%s: %d bytes", name, len(b))
		}
		var p api.Page
		copy(p[:], b)
		corrupt(t, name, p)
		if _, ok := slowItems(p); ok {
			t.Errorf("%s: the words have items", name)
		}
	}
}

// P6.2, Decode: pages of items that may not be, where they have room on one.
func TestDecodeBadRows(t *testing.T) {
	for i, l := range bad() {
		room := 2
		for _, x := range l {
			room += 2 + len(x.Key) + 20
			if x.Over.Kind == 0 {
				room += len(x.Val)
			}
		}
		if room > 256 {
			continue
		}
		p := slowPage(l)
		// What does not stand on the page (a size beside a value in the leaf) is not there at all.
		if want, ok := slowItems(p); ok {
			if got, e := leaf.Decode(p); !sameItems(got, want) || e != api.OK {
				t.Errorf("%d: %v, %d", i, got, e)
			}
			continue
		}
		corrupt(t, "bad row", p)
	}
}

// P6.2, Decode: an item that reaches beyond the page's end, cut at each of its bytes.
func TestDecodeCut(t *testing.T) {
	for _, last := range []string{"\x0812345678\x01\x11\x00" + letters(17), "\x0812345678\x00\x10" + letters(16)} {
		for left := 1; left < len(last); left++ {
			// Items that may not be fill the page up to there.
			rest := 250 - left
			b := "\x01" + string([]byte{byte(rest/4 + 2)})
			b += "\x01k\x00" + string([]byte{byte(rest % 4)}) + letters(rest%4) + strings.Repeat("\x01k\x00\x00", rest/4)
			if len(b)+left != 256 {
				t.Fatal(len(b), left)
			}
			corrupt(t, "cut", api.Page([]byte(b+last[:left])))
		}
	}
}

// P6.2, P6.3: what is decoded has just this page, whatever the bytes; else it is corrupt.
func checkPage(t *testing.T, p api.Page) bool {
	t.Helper()
	want, ok := slowItems(p)
	got, e := leaf.Decode(p)
	if !ok {
		if len(got) != 0 || e != api.ErrCorrupt {
			t.Errorf("% x: %v, %d", p, got, e)
		}
		return false
	}
	again, e2 := leaf.Encode(got...)
	if !sameItems(got, want) || e != api.OK || again != p || e2 != api.OK {
		t.Errorf("% x: %v, %d", p, got, e)
	}
	return true
}

// P6.2, P6.3: a leaf's page with one byte that is another one: other items, or none.
func TestOneByte(t *testing.T) {
	other, none := 0, 0
	for _, l := range good() {
		p := slowPage(l)
		used := len(bytes.TrimRight(p[:], "\x00"))
		for at := range p {
			for by := 1; by < 256; by++ {
				if at > used+4 && by&(by-1) != 0 {
					continue // behind the items one bit is as good as many
				}
				q := p
				q[at] ^= byte(by)
				if checkPage(t, q) {
					other++
				} else {
					none++
				}
				if got, e := leaf.Decode(q); e == api.OK && leaf.Same(got, l) {
					t.Fatalf("byte %d by %d: the same items", at, by)
				}
			}
		}
	}
	if other < 10000 || none < 50000 {
		t.Error(other, none)
	}
}

// P6.2, P6.3: any page of whatever bytes, from wholly any to nearly a leaf's.
func TestAnyPage(t *testing.T) {
	r := rand.New(rand.NewSource(6))
	seen := map[bool]int{}
	rows := good()
	for range 100000 {
		var p api.Page
		switch r.Intn(4) {
		case 0:
			r.Read(p[:])
		case 1:
			r.Read(p[:])
			p[0], p[1] = 1, byte(r.Intn(9))
		case 2:
			p[0] = 1
			for i := 1; i < 40; i++ {
				p[i] = byte(r.Intn(4))
			}
		case 3:
			p = slowPage(rows[r.Intn(len(rows))])
			for range 1 + r.Intn(3) {
				p[r.Intn(60)] = byte(r.Intn(20))
			}
		}
		seen[checkPage(t, p)]++
	}
	for k := range 256 {
		checkPage(t, api.Page(bytes.Repeat([]byte{byte(k)}, 256)))
	}
	if seen[true] < 500 || seen[false] < 10000 {
		t.Error(seen)
	}
}

// P6.3: a page's items are decoded as they are.
func TestBack(t *testing.T) {
	for i, l := range good() {
		p, e := leaf.Encode(l...)
		got, e2 := leaf.Decode(p)
		if !sameItems(got, l) || !leaf.Same(got, l) || !leaf.Right(got...) || e != api.OK || e2 != api.OK {
			t.Errorf("%d: %v, %d, %d", i, got, e, e2)
		}
		if again, e := leaf.Encode(got...); again != p || e != api.OK {
			t.Errorf("%d: another page, %d", i, e)
		}
	}
}

// P6.3: rows of any items that may be, there and back; unlike rows have unlike pages.
func TestAnyRow(t *testing.T) {
	r := rand.New(rand.NewSource(7))
	rows := map[api.Page][]api.Item{}
	for range 20000 {
		var l []api.Item
		keys := map[string]bool{}
		for range r.Intn(7) {
			b := make([]byte, 1+r.Intn(8))
			for i := range b {
				b[i] = byte(r.Intn(3) * 127)
			}
			keys[string(b)] = true
		}
		for key := range keys {
			x := in(key, "")
			if r.Intn(2) == 0 {
				x.Val = make([]byte, r.Intn(17))
				r.Read(x.Val)
			} else {
				x.Size = uint16(17 + r.Intn(584))
				x.Over = ptr.Of(api.PtChain, 4+r.Intn(252), 0, uint32(1+r.Intn(1<<30)), api.Page{byte(r.Intn(256))})
			}
			l = append(l, x)
		}
		slices.SortFunc(l, func(a, b api.Item) int { return strings.Compare(string(a.Key), string(b.Key)) })
		p, e := leaf.Encode(l...)
		got, e2 := leaf.Decode(p)
		if p != slowPage(l) || !sameItems(got, l) || e != api.OK || e2 != api.OK {
			t.Fatalf("%v: %v, %d, %d", l, got, e, e2)
		}
		if was, there := rows[p]; there && !sameItems(was, l) {
			t.Fatalf("%v and %v have one page", was, l)
		}
		rows[p] = l
	}
}

// P6.2, R4: what is decoded is in memory of its own, each time, each item of it.
func TestDecodeMemory(t *testing.T) {
	for i, l := range good() {
		p := slowPage(l)
		got, e := leaf.Decode(p)
		again, _ := leaf.Decode(p)
		if e != api.OK {
			t.Fatal(i, e)
		}
		for at := range got {
			one := roomy(got[at+1:])
			scribble(got[at : at+1 : at+1])
			if !sameItems(got[at+1:], one) {
				t.Errorf("%d: items share memory", i)
			}
		}
		if p != slowPage(l) || !sameItems(again, l) {
			t.Errorf("%d: memory is shared", i)
		}
	}
}

// R4: what is handed in stays as it is, spare room too, whatever is asked of it.
func TestHandedIn(t *testing.T) {
	for i, l := range append(good(), bad()...) {
		given := roomy(l)
		was := room(given)
		leaf.Right(given...)
		leaf.Same(given, given)
		leaf.Own(given...)
		p, _ := leaf.Encode(given...)
		if room(given) != was || !sameItems(given, l) {
			t.Errorf("%d: what was handed in is changed", i)
		}
		scribble(given)
		if leaf.Right(l...) && p != slowPage(l) {
			t.Errorf("%d: the page is another one", i)
		}
	}
}

// R1, R3: many items, long keys, long values; told again, it is the same.
func TestExtremes(t *testing.T) {
	many := make([]api.Item, 1<<18)
	long := bytes.Repeat([]byte("k"), 1<<22)
	for i, l := range [][]api.Item{
		many,
		{{Key: long}}, {{Key: long, Val: long}}, {{Key: []byte("k"), Val: long}},
		{with(out("k", 20), func(x *api.Item) { x.Val = long })},
		{{Key: long, Val: long, Over: api.Ptr{Kind: 255, Addr: [2]uint16{65535, 65535}, Birth: math.MaxUint32, Sum: math.MaxUint64}, Size: 65535}},
	} {
		p, e := leaf.Encode(l...)
		if leaf.Right(l...) || p != (api.Page{}) || e != api.ErrArg {
			t.Errorf("%d: may be, %d", i, e)
		}
		if o := leaf.Own(l...); !leaf.Same(o, l) || !leaf.Same(l, o) || leaf.Same(l, o[1:]) {
			t.Errorf("%d: not the same", i)
		}
	}
	for _, l := range good() {
		p, _ := leaf.Encode(l...)
		again, _ := leaf.Encode(l...)
		got, _ := leaf.Decode(p)
		got2, _ := leaf.Decode(p)
		if p != again || !sameItems(got, got2) {
			t.Errorf("%v: told again it is another one", l)
		}
	}
}
