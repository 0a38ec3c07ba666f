package branch_test

import (
	"bytes"
	"math"
	"math/rand"
	"slices"
	"strings"
	"testing"

	"suture/api"
	"suture/branch"
	"suture/ptr"
)

// leafPtr: a pointer of a leaf that may be.
func leafPtr() api.Ptr {
	return api.Ptr{Kind: 1, Addr: [2]uint16{9, 10}, Birth: 0x05060708, Sum: 0x1112131415161718}
}

// leafBytes: those of leafPtr, as a page has them.
const leafBytes = "\x01\x09\x00\x0a\x00\x08\x07\x06\x05\x18\x17\x16\x15\x14\x13\x12\x11"

// branchPtr: a pointer of a branch that may be.
func branchPtr() api.Ptr {
	return api.Ptr{Kind: 2, Addr: [2]uint16{255, 4}, Birth: 1, Sum: 2}
}

// branchBytes: those of branchPtr, as a page has them.
const branchBytes = "\x02\xff\x00\x04\x00\x01\x00\x00\x00\x02\x00\x00\x00\x00\x00\x00\x00"

// le: a kid that is a leaf.
func le(key string) api.Kid {
	return api.Kid{Key: []byte(key), Ptr: leafPtr()}
}

// br: a kid that is a branch.
func br(key string) api.Kid {
	return api.Kid{Key: []byte(key), Ptr: branchPtr()}
}

// with: the kid that f makes of x.
func with(x api.Kid, f func(*api.Ptr)) api.Kid {
	f(&x.Ptr)
	return x
}

// letters: so many of them.
func letters(n int) string {
	return strings.Repeat("q", n)
}

// row: kids of these keys, leaves.
func row(keys ...string) []api.Kid {
	var l []api.Kid
	for _, key := range keys {
		l = append(l, le(key))
	}
	return l
}

// many: so many kids, the first one's key of no bytes, the others' rising.
func many(n int) []api.Kid {
	var l []api.Kid
	for i := range n {
		x := le(strings.Repeat(string(rune('a'+i)), min(i, 8)))
		x.Ptr.Addr = [2]uint16{uint16(4 + 2*i), uint16(5 + 2*i)}
		x.Ptr.Birth = uint32(1 + i)
		l = append(l, x)
	}
	return l
}

// good: rows of kids that may be.
func good() [][]api.Kid {
	all := func(l []api.Kid, f func(*api.Ptr)) []api.Kid {
		for i := range l {
			f(&l[i].Ptr)
		}
		return l
	}
	return [][]api.Kid{
		row("", "a"),
		{{Ptr: leafPtr()}, le("a")},
		{br(""), br("a")},
		row("", "\x00"),
		row("", "\x00", "\x00\x00", "\x00\x01"),
		row("", "\xff", "\xff\xff\xff\xff\xff\xff\xff\xff"),
		row("", "\x7f", "\x80"),
		row("", "1234567"), row("", "12345678"),
		row("", "a", "ab", "abc", "b"),
		row("", "12345678", "2"),
		many(2), many(3), many(5), many(6),
		row("", "1234567a", "1234567b", "1234567c", "1234567d", "1234567e"),
		all(many(6), func(x *api.Ptr) { x.Kind = 2 }),
		all(many(2), func(x *api.Ptr) { *x = leafPtr() }),
		all(many(4), func(x *api.Ptr) { x.Addr = [2]uint16{4, 5} }),
		all(many(3), func(x *api.Ptr) { x.Addr = [2]uint16{255, 254} }),
		all(many(3), func(x *api.Ptr) { x.Birth = 1 }),
		all(many(3), func(x *api.Ptr) { x.Birth = 1 << 30 }),
		all(many(3), func(x *api.Ptr) { x.Sum = 0 }),
		all(many(3), func(x *api.Ptr) { x.Sum = math.MaxUint64 }),
		{with(le(""), func(x *api.Ptr) { x.Birth = 1 << 30 }), with(le("a"), func(x *api.Ptr) { x.Birth = 1 })},
		{with(br(""), func(x *api.Ptr) { x.Sum = 1 << 63 }), with(br("a"), func(x *api.Ptr) { x.Birth = 77 }), br("b")},
	}
}

// badPtrs: pointers that no kid may have, each for one fault.
func badPtrs() []api.Ptr {
	var l []api.Ptr
	for _, f := range []func(*api.Ptr){
		func(x *api.Ptr) { *x = api.Ptr{} },
		func(x *api.Ptr) { x.Kind = 0 },
		func(x *api.Ptr) { x.Kind = 3 },
		func(x *api.Ptr) { x.Kind, x.Addr[1] = 3, 0 },
		func(x *api.Ptr) { x.Kind = 4 },
		func(x *api.Ptr) { x.Kind |= 128 },
		func(x *api.Ptr) { x.Kind = 255 },
		func(x *api.Ptr) { x.Addr[0] = 0 },
		func(x *api.Ptr) { x.Addr[1] = 0 },
		func(x *api.Ptr) { x.Addr[0] = 3 },
		func(x *api.Ptr) { x.Addr[1] = 3 },
		func(x *api.Ptr) { x.Addr[0] = 256 },
		func(x *api.Ptr) { x.Addr[1] = 256 },
		func(x *api.Ptr) { x.Addr[0] = 65535 },
		func(x *api.Ptr) { x.Addr[1] = 65535 },
		func(x *api.Ptr) { x.Addr[1] = x.Addr[0] },
		func(x *api.Ptr) { x.Birth = 0 },
		func(x *api.Ptr) { x.Birth = 1<<30 + 1 },
		func(x *api.Ptr) { x.Birth = math.MaxUint32 },
	} {
		for _, x := range []api.Ptr{leafPtr(), branchPtr()} {
			f(&x)
			l = append(l, x)
		}
	}
	return l
}

// bad: rows of kids that may not be.
func bad() [][]api.Kid {
	l := [][]api.Kid{
		nil, {},
		row(""), row("a"), {br("")}, {{}}, make([]api.Kid, 2), make([]api.Kid, 6),
		many(7), many(8), many(20), make([]api.Kid, 7),
		row("a", "b"), row("\x00", "\x01"), row("a", ""), row("a", "b", "c"), row("a", "b", "c", "d", "e", "f"),
		row(letters(8), "r"), row(letters(9), "r"), row(letters(256), "r"),
		row("", ""), row("", "", "a"), row("", "a", ""), row("", "a", "", "b"),
		row("", letters(9)), row("", letters(255)), row("", letters(256)), row("", letters(257)), row("", letters(264)),
		row("", letters(9), "z"), row("", "a", letters(9)), row("", "a", "b", "c", "d", letters(9)),
		row("", "a", "a"), row("", "12345678", "12345678"), row("", "a", "b", "a"), row("", "a", "b", "b"),
		row("", "b", "a"), row("", "a", "c", "b"), row("", "b", "c", "a"), row("", "ab", "a"), row("", "b", "aa"),
		row("", "\x80", "\x7f"), row("", "\x00\x00", "\x00"),
		row("", "a", "b", "c", "e", "d"), row("", "a", "b", "c", "d", "d"),
		{le(""), br("a")}, {br(""), le("a")}, {le(""), le("a"), br("b")}, {le(""), br("a"), le("b")}, {br(""), br("a"), le("b")},
		{le(""), le("a"), le("b"), le("c"), le("d"), br("e")},
		{with(le(""), func(x *api.Ptr) { x.Kind = 3 }), le("a")},
	}
	for _, x := range badPtrs() {
		all := many(3)
		for i := range all {
			all[i].Ptr = x
		}
		l = append(l, all)
		for at := range 6 {
			one := many(6)
			one[at].Ptr = x
			l = append(l, one)
		}
		for at := range 2 {
			one := []api.Kid{br(""), br("a")}
			one[at].Ptr = x
			l = append(l, one)
		}
	}
	return l
}

// rows: those that may be, and those that may not.
func rows() [][]api.Kid {
	return append(good(), bad()...)
}

// slowPoints: whether a pointer may be a kid's, by the chapters' words.
func slowPoints(x api.Ptr) bool {
	for i, at := range x.Addr {
		if at < 4 || at > 255 || at == x.Addr[1-i] {
			return false
		}
	}
	return (x.Kind == 1 || x.Kind == 2) && x.Birth >= 1 && x.Birth <= 1<<30
}

// slowRight: whether kids may be: each, and each pair of them.
func slowRight(l []api.Kid) bool {
	for i, x := range l {
		if !slowPoints(x.Ptr) || (len(x.Key) == 0) != (i == 0) || len(x.Key) > 8 {
			return false
		}
		for _, y := range l[:i] {
			if string(y.Key) >= string(x.Key) || y.Ptr.Kind != x.Ptr.Kind {
				return false
			}
		}
	}
	return len(l) >= 2 && len(l) <= 6
}

// low: n as so many bytes, the lowest one first.
func low(n uint64, width int) []byte {
	var o []byte
	for range width {
		o = append(o, byte(n%256))
		n /= 256
	}
	return o
}

// slowBytes: those of a branch's page ahead of its noughts, by the chapter's words, of whatever kids.
func slowBytes(l []api.Kid) []byte {
	b := []byte{2, byte(len(l))}
	for _, x := range l {
		b = append(append(b, byte(len(x.Key))), x.Key...)
		b = append(b, x.Ptr.Kind)
		b = append(append(b, low(uint64(x.Ptr.Addr[0]), 2)...), low(uint64(x.Ptr.Addr[1]), 2)...)
		b = append(append(b, low(uint64(x.Ptr.Birth), 4)...), low(x.Ptr.Sum, 8)...)
	}
	return b
}

// page: the page of these bytes, then noughts.
func page(b []byte) api.Page {
	var p api.Page
	if len(b) > len(p) {
		panic("no room on the page")
	}
	copy(p[:], b)
	return p
}

// slowPage: a branch's page by the chapter's words.
func slowPage(l []api.Kid) api.Page {
	return page(slowBytes(l))
}

// slowKids: the kids of a page, byte after byte; no if the page is none of any.
func slowKids(p api.Page) (l []api.Kid, ok bool) {
	at := 2
	next := func(n int) []byte {
		if at+n > 256 {
			at = 1000
			return make([]byte, n)
		}
		at += n
		return bytes.Clone(p[at-n : at])
	}
	num := func(width int) (n uint64) {
		for i, x := range next(width) {
			n += uint64(x) << (8 * i)
		}
		return n
	}
	for range int(p[1]) {
		x := api.Kid{Key: next(int(num(1)))}
		x.Ptr = api.Ptr{Kind: uint8(num(1)), Addr: [2]uint16{uint16(num(2)), uint16(num(2))}, Birth: uint32(num(4)), Sum: num(8)}
		l = append(l, x)
		if at > 256 {
			return nil, false
		}
	}
	if p[0] != 2 || !slowRight(l) || bytes.ContainsFunc(p[at:], func(r rune) bool { return r != 0 }) {
		return nil, false
	}
	return l, true
}

// sameKids: the same kids, part by part.
func sameKids(a, b []api.Kid) bool {
	if len(a) != len(b) {
		return false
	}
	for i := range a {
		if string(a[i].Key) != string(b[i].Key) || a[i].Ptr != b[i].Ptr {
			return false
		}
	}
	return true
}

// deep: the same kids, in memory of their own.
func deep(l []api.Kid) []api.Kid {
	o := make([]api.Kid, 0, len(l))
	for _, x := range l {
		o = append(o, api.Kid{Key: append([]byte{}, x.Key...), Ptr: x.Ptr})
	}
	return o
}

// roomy: the same kids, each with spare room behind its key, and room behind them all.
func roomy(l []api.Kid) []api.Kid {
	o := make([]api.Kid, 0, len(l)+5)
	for _, x := range l {
		x.Key = append(make([]byte, 0, len(x.Key)+40), x.Key...)
		o = append(o, x)
	}
	return o
}

// scribble: all bytes of all keys are others, those of spare room too, and all kids.
func scribble(l []api.Kid) {
	l = l[:cap(l)]
	for i := range l {
		b := l[i].Key[:cap(l[i].Key)]
		for k := range b {
			b[k] ^= 255
		}
		l[i] = api.Kid{Ptr: api.Ptr{Birth: 9}}
	}
}

// room: all that lies in the memory of a row, its spare room too.
func room(l []api.Kid) string {
	var o []byte
	for _, x := range l[:cap(l)] {
		o = append(append(o, byte(len(x.Key))), x.Key[:cap(x.Key)]...)
		o = append(o, string(slowBytes([]api.Kid{{Ptr: x.Ptr}}))...)
	}
	return string(o)
}

// corrupt: the page is told to be of no kids.
func corrupt(t *testing.T, name string, p api.Page) {
	t.Helper()
	if l, e := branch.Decode(p); len(l) != 0 || e != api.ErrCorrupt {
		t.Errorf("%s: %v, %d", name, l, e)
	}
}

// P7.1, Right: rows that may be, and rows that may not.
func TestRight(t *testing.T) {
	for i, l := range good() {
		if !branch.Right(l...) || !slowRight(l) {
			t.Errorf("good %d may not be: %v", i, l)
		}
	}
	for i, l := range bad() {
		if branch.Right(l...) || slowRight(l) {
			t.Errorf("bad %d may be: %v", i, l)
		}
	}
	for n := range 40 {
		if branch.Right(many(n)...) != (n >= 2 && n <= 6) {
			t.Errorf("%d kids", n)
		}
	}
	if branch.Right() {
		t.Error("no kids may be")
	}
}

// P7.1, Right: every length of a key, of the first one, of one in the middle, of the last.
func TestRightLengths(t *testing.T) {
	for n := range 600 {
		key := letters(n)
		if branch.Right(row(key, "r")...) != (n == 0) || branch.Right(row(key, "r", "s")...) != (n == 0) {
			t.Errorf("a first key of %d bytes", n)
		}
		want := n >= 1 && n <= 8
		if branch.Right(row("", key)...) != want || branch.Right(row("", key, "r")...) != want || branch.Right(row("", "a", key)...) != want {
			t.Errorf("a key of %d bytes", n)
		}
	}
}

// P7.1, Right: every kind beside every kind, every address, births at their ends.
func TestRightPointers(t *testing.T) {
	for a := range 256 {
		for b := range 256 {
			l := []api.Kid{with(le(""), func(x *api.Ptr) { x.Kind = uint8(a) }), with(le("a"), func(x *api.Ptr) { x.Kind = uint8(b) })}
			if branch.Right(l...) != (a == b && (a == 1 || a == 2)) {
				t.Errorf("kinds %d and %d", a, b)
			}
		}
	}
	for a := range 1 << 16 {
		for at := range 2 {
			l := many(3)
			l[a%3].Ptr.Addr = [2]uint16{77, 77}
			l[a%3].Ptr.Addr[at] = uint16(a)
			if branch.Right(l...) != (a >= 4 && a < 256 && a != 77) {
				t.Errorf("address %d of page %d", at, a)
			}
		}
	}
	for _, birth := range []uint32{0, 1, 2, 255, 256, 1<<30 - 1, 1 << 30, 1<<30 + 1, 1 << 31, math.MaxUint32} {
		for at := range 6 {
			l := many(6)
			l[at].Ptr.Birth = birth
			if branch.Right(l...) != (birth >= 1 && birth <= 1<<30) {
				t.Errorf("birth %d of kid %d", birth, at)
			}
		}
	}
}

// P7.1, Right: all parts together, held against the words.
func TestRightParts(t *testing.T) {
	seen := map[bool]int{}
	var ptrs []api.Ptr
	for kind := range uint8(4) {
		for _, a := range []uint16{0, 3, 4, 255, 256} {
			for _, b := range []uint16{0, 3, 4, 255, 256} {
				for _, birth := range []uint32{0, 1, 1 << 30, 1<<30 + 1} {
					ptrs = append(ptrs, api.Ptr{Kind: kind, Addr: [2]uint16{a, b}, Birth: birth, Sum: 7})
				}
			}
		}
	}
	for _, key := range []int{0, 1, 8, 9} {
		for _, key2 := range []int{0, 1, 2, 8, 9} {
			for i, x := range ptrs {
				for _, y := range []api.Ptr{x, leafPtr(), branchPtr(), ptrs[len(ptrs)-1-i]} {
					l := []api.Kid{{Key: []byte(letters(key)), Ptr: x}, {Key: []byte(letters(key2)), Ptr: y}}
					want := slowRight(l)
					seen[want]++
					if branch.Right(l...) != want {
						t.Errorf("%v: not %v", l, want)
					}
				}
			}
		}
	}
	if seen[true] < 10 || seen[false] < 1000 {
		t.Error(seen)
	}
}

// P7.1, Right: keys in every order of three, behind one of no bytes and without it.
func TestRightOrder(t *testing.T) {
	keys := []string{"", "\x00", "a", "a\x00", "aa", "ab", "b", "ba", "\x7f", "\x80", "\xff", "\xff\x00"}
	for _, a := range keys {
		for _, b := range keys {
			for _, c := range keys {
				want := "" < a && a < b && b < c
				if branch.Right(row("", a, b, c)...) != want || branch.Right(br(""), br(a), br(b), br(c)) != want {
					t.Errorf("%q, %q, %q: not %v", a, b, c, want)
				}
				if branch.Right(row(a, b, c)...) != (a == "" && a < b && b < c) {
					t.Errorf("%q, %q, %q alone", a, b, c)
				}
			}
		}
	}
}

// P7.1, Own: the same, whether it may be or not.
func TestOwn(t *testing.T) {
	for i, l := range rows() {
		if got := branch.Own(l...); !sameKids(got, l) {
			t.Errorf("%d: %v, not %v", i, got, l)
		}
	}
	if got := branch.Own(); len(got) != 0 {
		t.Errorf("nothing: %v", got)
	}
}

// P7.1, Own, R4: in memory of its own, each time it is told, for each kid.
func TestOwnMemory(t *testing.T) {
	for i, l := range rows() {
		given := roomy(l)
		was := room(given)
		got, again := branch.Own(given...), branch.Own(given...)
		scribble(got)
		if room(given) != was || !sameKids(again, l) {
			t.Errorf("%d: memory is shared", i)
		}
	}
	one := le("k")
	got := branch.Own(one, one)
	got[0].Key[0] = 'x'
	if !sameKids(got[1:], row("k")) {
		t.Error("two kids of one memory share theirs")
	}
	got = branch.Own(many(4)...)
	_ = append(got[1].Key, "long beyond"...)
	if !sameKids(got, many(4)) {
		t.Error("what is put behind a key reaches another one")
	}
}

// P7.1, Same: each row is the same as itself, and as no other one.
func TestSame(t *testing.T) {
	all := rows()
	for i, a := range all {
		if !branch.Same(a, deep(a)) || !branch.Same(deep(a), a) {
			t.Errorf("%d is not the same: %v", i, a)
		}
		for k, b := range all {
			if branch.Same(a, b) != sameKids(a, b) {
				t.Errorf("%d and %d: not %v", i, k, sameKids(a, b))
			}
		}
	}
}

// P7.1, Same: each part counts, at each place; nil and empty are the same.
func TestSameParts(t *testing.T) {
	base := row("a", "b", "c")
	for i, f := range []func(*api.Kid){
		func(x *api.Kid) { x.Key = []byte("d") },
		func(x *api.Kid) { x.Key = []byte("") },
		func(x *api.Kid) { x.Key = append(bytes.Clone(x.Key), 0) },
		func(x *api.Kid) { x.Ptr.Kind ^= 1 },
		func(x *api.Kid) { x.Ptr.Addr[0] ^= 256 },
		func(x *api.Kid) { x.Ptr.Addr[1] ^= 256 },
		func(x *api.Kid) { x.Ptr.Addr[0], x.Ptr.Addr[1] = x.Ptr.Addr[1], x.Ptr.Addr[0] },
		func(x *api.Kid) { x.Ptr.Birth ^= 1 << 31 },
		func(x *api.Kid) { x.Ptr.Sum ^= 1 << 63 },
		func(x *api.Kid) { x.Ptr = api.Ptr{} },
	} {
		for at := range base {
			l := deep(base)
			f(&l[at])
			if branch.Same(l, base) || branch.Same(base, l) {
				t.Errorf("part %d of kid %d does not count", i, at)
			}
		}
	}
	for n := range base {
		if branch.Same(base[:n], base) || branch.Same(base, base[:n]) || branch.Same(base[n:], base[:len(base)-n]) != (n == 0) {
			t.Errorf("%d kids of three", n)
		}
	}
	if branch.Same([]api.Kid{base[1], base[0], base[2]}, base) {
		t.Error("another order is the same")
	}
	if !branch.Same(nil, []api.Kid{}) || !branch.Same(nil, nil) || branch.Same(nil, make([]api.Kid, 1)) {
		t.Error("nothing")
	}
	if !branch.Same([]api.Kid{{Key: nil}}, []api.Kid{{Key: []byte{}}}) {
		t.Error("nil and empty differ")
	}
}

// born: kids of these births.
func born(births ...uint32) []api.Kid {
	var l []api.Kid
	for _, n := range births {
		l = append(l, with(le("k"), func(x *api.Ptr) { x.Birth = n }))
	}
	return l
}

// P7.1, Birth: the greatest, wherever it stands; of kids that may not be as well.
func TestBirth(t *testing.T) {
	for _, x := range []struct {
		l    []api.Kid
		want uint32
	}{
		{nil, 0}, {[]api.Kid{}, 0}, {make([]api.Kid, 3), 0},
		{born(7), 7}, {born(0), 0}, {born(math.MaxUint32), math.MaxUint32},
		{born(5, 5), 5}, {born(5, 5, 5, 5, 5, 5), 5},
		{born(9, 1, 2), 9}, {born(1, 9, 2), 9}, {born(1, 2, 9), 9}, {born(9, 9, 1), 9}, {born(9, 1, 9), 9}, {born(1, 9, 9), 9},
		{born(1, 2, 3, 4, 5, 6), 6}, {born(6, 5, 4, 3, 2, 1), 6},
		{born(255, 256), 256}, {born(65536, 65535), 65536},
		{born(1<<30, 1), 1 << 30}, {born(1, 1<<30+1), 1<<30 + 1},
		{born(1<<31-1, 1<<31), 1 << 31}, {born(1<<31, 1<<31-1), 1 << 31}, {born(math.MaxUint32, 0, 1), math.MaxUint32},
		{[]api.Kid{{}, {Ptr: api.Ptr{Birth: 3}}}, 3},
	} {
		if got := branch.Birth(x.l...); got != x.want {
			t.Errorf("%v: %d", x.l, got)
		}
	}
	if branch.Birth() != 0 {
		t.Error("none")
	}
}

// P7.1, Birth: the births alone tell, no other number, in any order.
func TestBirthAny(t *testing.T) {
	r := rand.New(rand.NewSource(5))
	for range 5000 {
		l := make([]api.Kid, 1+r.Intn(9))
		var births []uint32
		for i := range l {
			l[i].Key = []byte(letters(r.Intn(4)))
			l[i].Ptr = api.Ptr{Kind: uint8(r.Uint32()), Addr: [2]uint16{uint16(r.Uint32()), uint16(r.Uint32())}, Birth: r.Uint32() >> r.Intn(32), Sum: r.Uint64()}
			births = append(births, l[i].Ptr.Birth)
		}
		if got := branch.Birth(l...); got != slices.Max(births) {
			t.Fatalf("%v: %d", births, got)
		}
	}
}

// P7.2, Encode: written out.
func TestEncodePlain(t *testing.T) {
	for i, x := range []struct {
		l    []api.Kid
		want string
	}{
		{row("", "a"), "\x02\x02" + "\x00" + leafBytes + "\x01a" + leafBytes},
		{[]api.Kid{br(""), br("12345678")}, "\x02\x02" + "\x00" + branchBytes + "\x0812345678" + branchBytes},
		{row("", "\x00", "\x00\x00"), "\x02\x03" + "\x00" + leafBytes + "\x01\x00" + leafBytes + "\x02\x00\x00" + leafBytes},
		{row("", "a", "b", "c", "d", "e"), "\x02\x06" + "\x00" + leafBytes + "\x01a" + leafBytes + "\x01b" + leafBytes + "\x01c" + leafBytes + "\x01d" + leafBytes + "\x01e" + leafBytes},
	} {
		got, e := branch.Encode(x.l...)
		if got != page([]byte(x.want)) || e != api.OK {
			t.Errorf("%d: % x, %d", i, got, e)
		}
	}
}

// P7.2, Encode: each row that may be.
func TestEncode(t *testing.T) {
	for i, l := range good() {
		if got, e := branch.Encode(l...); got != slowPage(l) || e != api.OK {
			t.Errorf("%d: % x, %d", i, got, e)
		}
	}
}

// P7.2, Encode: rows that may not be, and a page of noughts beside the error.
func TestEncodeBad(t *testing.T) {
	for i, l := range bad() {
		if got, e := branch.Encode(l...); got != (api.Page{}) || e != api.ErrArg {
			t.Errorf("%d: %v: % x, %d", i, l, got, e)
		}
	}
}

// P7.2, Decode: written out.
func TestDecodePlain(t *testing.T) {
	for i, x := range []struct {
		p    string
		want []api.Kid
	}{
		{"\x02\x02\x00" + leafBytes + "\x01a" + leafBytes, row("", "a")},
		{"\x02\x02\x00" + branchBytes + "\x08zyxwvuts" + branchBytes, []api.Kid{br(""), br("zyxwvuts")}},
		{"\x02\x03\x00" + branchBytes + "\x01\x00" + branchBytes + "\x02\x00\x00" + branchBytes, []api.Kid{br(""), br("\x00"), br("\x00\x00")}},
		{"\x02\x06\x00" + leafBytes + "\x01a" + leafBytes + "\x01b" + leafBytes + "\x01c" + leafBytes + "\x01d" + leafBytes + "\x01e" + leafBytes, row("", "a", "b", "c", "d", "e")},
	} {
		got, e := branch.Decode(page([]byte(x.p)))
		if !sameKids(got, x.want) || e != api.OK {
			t.Errorf("%d: %v, %d", i, got, e)
		}
	}
}

// P7.2, Decode: pages that are no branch's, each for one fault.
func TestDecodeBad(t *testing.T) {
	first, second := "\x00"+leafBytes, "\x01a"+leafBytes
	chainBytes := "\x03\x09\x00\x00\x00" + leafBytes[5:]
	noughts := strings.Repeat("\x00", 17)
	for name, b := range map[string]string{
		"noughts":                          "",
		"a leaf's":                         "\x01\x02" + first + second,
		"a leaf's of nothing":              "\x01\x00",
		"a chain's":                        "\x03\x02" + first + second,
		"no kind":                          "\x00\x02" + first + second,
		"a kind unknown":                   "\x82\x02" + first + second,
		"no kids":                          "\x02\x00",
		"no kids, but bytes":               "\x02\x00" + first + second,
		"one kid":                          "\x02\x01" + first,
		"one kid counted, two there":       "\x02\x01" + first + second,
		"three counted, two there":         "\x02\x03" + first + second,
		"seven counted":                    "\x02\x07" + first + second,
		"255 counted":                      "\x02\xff" + first + second,
		"seven there":                      "\x02\x07" + first + second + "\x01b" + leafBytes + "\x01c" + leafBytes + "\x01d" + leafBytes + "\x01e" + leafBytes + "\x01f" + leafBytes,
		"seven there, six counted":         "\x02\x06" + first + second + "\x01b" + leafBytes + "\x01c" + leafBytes + "\x01d" + leafBytes + "\x01e" + leafBytes + "\x01f" + leafBytes,
		"a first key of a byte":            "\x02\x02\x01A" + leafBytes + second,
		"a first key of a nought":          "\x02\x02\x01\x00" + leafBytes + second,
		"a key of no bytes":                "\x02\x02" + first + first,
		"a key of no bytes, the third one": "\x02\x03" + first + second + first,
		"a key of nine bytes":              "\x02\x02" + first + "\x09123456789" + leafBytes,
		"a key beyond the page":            "\x02\x02" + first + "\xff" + leafBytes,
		"keys that fall":                   "\x02\x03" + first + "\x01b" + leafBytes + second,
		"keys the same":                    "\x02\x03" + first + second + second,
		"a key's beginning behind the key": "\x02\x03" + first + "\x02ab" + leafBytes + second,
		"both kinds":                       "\x02\x02" + first + "\x01a" + branchBytes,
		"both kinds, a branch first":       "\x02\x02\x00" + branchBytes + second,
		"pointers of chains":               "\x02\x02\x00" + chainBytes + "\x01a" + chainBytes,
		"a pointer of a chain":             "\x02\x02" + first + "\x01a" + chainBytes,
		"pointers of none":                 "\x02\x02\x00" + noughts + "\x01a" + noughts,
		"a pointer of none":                "\x02\x02" + first + "\x01a" + noughts,
		"an anchor's address, first":       "\x02\x02\x00\x01\x03" + leafBytes[2:] + second,
		"an anchor's address, last":        "\x02\x02" + first + "\x01a\x01\x03" + leafBytes[2:],
		"an address of no disk":            "\x02\x02" + first + "\x01a\x01\x09\x01" + leafBytes[3:],
		"both addresses the same":          "\x02\x02" + first + "\x01a\x01\x0a" + leafBytes[2:],
		"no birth":                         "\x02\x02\x00" + leafBytes[:5] + "\x00\x00\x00\x00" + leafBytes[9:] + second,
		"too late a birth":                 "\x02\x02" + first + "\x01a" + leafBytes[:5] + "\x01\x00\x00\x40" + leafBytes[9:],
		"a byte behind":                    "\x02\x02" + first + second + "\x01",
		"a byte behind a nought":           "\x02\x02" + first + second + "\x00\x80",
		"a kid behind":                     "\x02\x02" + first + second + "\x01b" + leafBytes,
		"a byte at the end":                "\x02\x02" + first + second + strings.Repeat("\x00", 216) + "\x01",
	} {
		p := page([]byte(b))
		corrupt(t, name, p)
		if _, ok := slowKids(p); ok {
			t.Errorf("%s: the words have kids", name)
		}
	}
}

// P7.2, Decode: pages of kids that may not be, where they have room on one.
func TestDecodeBadRows(t *testing.T) {
	tried := 0
	for i, l := range bad() {
		b := slowBytes(l)
		if len(b) > 256 {
			continue
		}
		tried++
		p := page(b)
		corrupt(t, "bad row", p)
		if _, ok := slowKids(p); ok {
			t.Errorf("%d: the words have kids: %v", i, l)
		}
	}
	if tried < 300 {
		t.Error(tried)
	}
}

// P7.2, Decode: a kid that reaches beyond the page's end, cut at each of its bytes.
func TestDecodeCut(t *testing.T) {
	last := "\x0812345678" + leafBytes
	for left := 1; left < len(last); left++ {
		// Kids that may not be fill the page up to there.
		b := "\x02\x00"
		for len(b)+left+18 <= 256 {
			key := min(256-left-18-len(b), 8)
			b += string([]byte{byte(key)}) + letters(key) + leafBytes
		}
		for len(b)+left < 256 {
			b += "\x00"
		}
		p := api.Page([]byte(b + last[:left]))
		for _, n := range []byte{2, 6, 9, 10, 11, 12, 13, 255} {
			p[1] = n
			corrupt(t, "cut", p)
		}
	}
}

// checkPage: P7.2, P7.3: what is decoded has just this page, whatever the bytes; else it is corrupt.
func checkPage(t *testing.T, p api.Page) bool {
	t.Helper()
	want, ok := slowKids(p)
	got, e := branch.Decode(p)
	if !ok {
		if len(got) != 0 || e != api.ErrCorrupt {
			t.Errorf("% x: %v, %d", p, got, e)
		}
		return false
	}
	again, e2 := branch.Encode(got...)
	if !sameKids(got, want) || e != api.OK || again != p || e2 != api.OK {
		t.Errorf("% x: %v, %d", p, got, e)
	}
	return true
}

// P7.2, P7.3: a branch's page with one byte that is another one: other kids, or none.
func TestOneByte(t *testing.T) {
	other, none := 0, 0
	for i, l := range good() {
		p, used := slowPage(l), len(slowBytes(l))
		for at := range p {
			for by := 1; by < 256; by++ {
				if (i%6 != 0 || at > used+4) && by&(by-1) != 0 {
					continue // for most rows, and behind the kids, one bit is as good as many
				}
				q := p
				q[at] ^= byte(by)
				if checkPage(t, q) {
					other++
				} else {
					none++
				}
				if at >= used || at < 2 {
					corrupt(t, "a byte about the kids", q)
				}
				if got, e := branch.Decode(q); e == api.OK && branch.Same(got, l) {
					t.Fatalf("byte %d by %d: the same kids", at, by)
				}
			}
		}
	}
	if other < 10000 || none < 50000 {
		t.Error(other, none)
	}
}

// P7.2, P7.3: any page of whatever bytes, from wholly any to nearly a branch's.
func TestAnyPage(t *testing.T) {
	r := rand.New(rand.NewSource(6))
	seen := map[bool]int{}
	rows := good()
	for range 100000 {
		var p api.Page
		switch r.Intn(4) {
		case 0:
			r.Read(p[:])
		case 1:
			r.Read(p[:])
			p[0], p[1] = 2, byte(r.Intn(9))
		case 2:
			p[0] = 2
			for i := 1; i < 60; i++ {
				p[i] = byte(r.Intn(5))
			}
		case 3:
			p = slowPage(rows[r.Intn(len(rows))])
			for range 1 + r.Intn(3) {
				p[r.Intn(60)] = byte(r.Intn(20))
			}
		}
		seen[checkPage(t, p)]++
	}
	for k := range 256 {
		checkPage(t, api.Page(bytes.Repeat([]byte{byte(k)}, 256)))
	}
	if seen[true] < 500 || seen[false] < 10000 {
		t.Error(seen)
	}
}

// P7.3: a page's kids are decoded as they are.
func TestBack(t *testing.T) {
	for i, l := range good() {
		p, e := branch.Encode(l...)
		got, e2 := branch.Decode(p)
		if !sameKids(got, l) || !branch.Same(got, l) || !branch.Right(got...) || e != api.OK || e2 != api.OK {
			t.Errorf("%d: %v, %d, %d", i, got, e, e2)
		}
		if again, e := branch.Encode(got...); again != p || e != api.OK {
			t.Errorf("%d: another page, %d", i, e)
		}
		if branch.Birth(got...) != branch.Birth(l...) {
			t.Errorf("%d: another birth", i)
		}
	}
}

// anyRow: kids that may be, whatever else they are.
func anyRow(r *rand.Rand) []api.Kid {
	n := 2 + r.Intn(5)
	keys := []string{""}
	for len(keys) < n {
		b := make([]byte, 1+r.Intn(8))
		for i := range b {
			b[i] = byte(r.Intn(3) * 127)
		}
		if !slices.Contains(keys, string(b)) {
			keys = append(keys, string(b))
		}
	}
	slices.Sort(keys)
	kind := uint8(1 + r.Intn(2))
	var l []api.Kid
	for _, key := range keys {
		a, b := 4+r.Intn(252), 4+r.Intn(252)
		for a == b {
			b = 4 + r.Intn(252)
		}
		l = append(l, api.Kid{Key: []byte(key), Ptr: ptr.Of(kind, a, b, uint32(1+r.Intn(1<<30)), api.Page{byte(r.Intn(256))})})
	}
	return l
}

// P7.3: rows of any kids that may be, there and back; unlike rows have unlike pages.
func TestAnyRow(t *testing.T) {
	r := rand.New(rand.NewSource(7))
	rows := map[api.Page][]api.Kid{}
	for range 20000 {
		l := anyRow(r)
		p, e := branch.Encode(l...)
		got, e2 := branch.Decode(p)
		if p != slowPage(l) || !sameKids(got, l) || e != api.OK || e2 != api.OK {
			t.Fatalf("%v: %v, %d, %d", l, got, e, e2)
		}
		if was, there := rows[p]; there && !sameKids(was, l) {
			t.Fatalf("%v and %v have one page", was, l)
		}
		rows[p] = l
	}
}

// P7.2, R4: what is decoded is in memory of its own, each time, each kid of it.
func TestDecodeMemory(t *testing.T) {
	for i, l := range good() {
		p := slowPage(l)
		got, e := branch.Decode(p)
		again, _ := branch.Decode(p)
		if e != api.OK {
			t.Fatal(i, e)
		}
		for at := range got {
			behind := deep(got[at+1:])
			scribble(got[at : at+1 : at+1])
			if !sameKids(got[at+1:], behind) {
				t.Errorf("%d: kids share memory", i)
			}
		}
		if p != slowPage(l) || !sameKids(again, l) {
			t.Errorf("%d: memory is shared", i)
		}
	}
}

// R4: what is handed in stays as it is, spare room too, whatever is asked of it.
func TestHandedIn(t *testing.T) {
	for i, l := range rows() {
		given := roomy(l)
		was := room(given)
		branch.Right(given...)
		branch.Same(given, given)
		branch.Own(given...)
		branch.Birth(given...)
		p, _ := branch.Encode(given...)
		if room(given) != was || !sameKids(given, l) {
			t.Errorf("%d: what was handed in is changed", i)
		}
		scribble(given)
		if branch.Right(l...) && p != slowPage(l) {
			t.Errorf("%d: the page is another one", i)
		}
	}
}

// R1, R3: many kids, long keys, great numbers; told again, it is the same.
func TestExtremes(t *testing.T) {
	long := bytes.Repeat([]byte("k"), 1<<22)
	great := api.Ptr{Kind: 255, Addr: [2]uint16{65535, 65535}, Birth: math.MaxUint32, Sum: math.MaxUint64}
	for i, l := range [][]api.Kid{
		make([]api.Kid, 1<<18),
		{{Key: long}}, {{Key: long, Ptr: leafPtr()}, le("l")}, {le(""), {Key: long, Ptr: leafPtr()}},
		{{Ptr: great}, {Key: []byte("k"), Ptr: great}}, {{Key: long, Ptr: great}},
	} {
		p, e := branch.Encode(l...)
		if branch.Right(l...) || p != (api.Page{}) || e != api.ErrArg {
			t.Errorf("%d: may be, %d", i, e)
		}
		if o := branch.Own(l...); !branch.Same(o, l) || !branch.Same(l, o) || branch.Same(l, o[1:]) || branch.Birth(o...) != branch.Birth(l...) {
			t.Errorf("%d: not the same", i)
		}
	}
	for _, l := range good() {
		p, _ := branch.Encode(l...)
		again, _ := branch.Encode(l...)
		got, _ := branch.Decode(p)
		got2, _ := branch.Decode(p)
		if p != again || !sameKids(got, got2) {
			t.Errorf("%v: told again it is another one", l)
		}
	}
}
