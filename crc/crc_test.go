package crc_test

import (
	"bytes"
	"hash/crc64"
	"math/rand"
	"testing"

	"suture/api"
	"suture/crc"
)

const poly = 0xC96C5795D7870F42

// someBytes: n bytes, the same ones each time for one seed.
func someBytes(seed int64, n int) []byte {
	b := make([]byte, n)
	rand.New(rand.NewSource(seed)).Read(b)
	return b
}

// xored: rows of one length, combined byte by byte.
func xored(rows ...[]byte) []byte {
	o := make([]byte, len(rows[0]))
	for _, row := range rows {
		for i, b := range row {
			o[i] ^= b
		}
	}
	return o
}

// slowStep: a step told by the chapter's words, on bits that stand one by one.
func slowStep(c uint64, b byte) uint64 {
	var state, by [64]bool
	for i := range 64 {
		state[i] = c>>i&1 == 1
		by[i] = uint64(poly)>>i&1 == 1
	}
	for i := range 8 {
		state[i] = state[i] != (b>>i&1 == 1)
	}
	for range 8 {
		out := state[0]
		copy(state[:63], state[1:])
		state[63] = false
		for i := range 64 {
			state[i] = state[i] != (out && by[i])
		}
	}
	var o uint64
	for i, bit := range state {
		if bit {
			o |= 1 << i
		}
	}
	return o
}

func states() []uint64 {
	l := []uint64{0, 1, 2, 128, 255, 256, 1 << 63, 1<<63 - 1, ^uint64(0), poly}
	r := rand.New(rand.NewSource(1))
	for range 50 {
		l = append(l, r.Uint64())
	}
	return l
}

// P1.1, Step: of all bytes, from many states.
func TestStep(t *testing.T) {
	for _, c := range states() {
		for b := range 256 {
			if got, want := crc.Step(c, byte(b)), slowStep(c, byte(b)); got != want {
				t.Fatalf("Step(%x, %d): %x, not %x", c, b, got, want)
			}
		}
	}
}

// P1.1, Step: the chapter's numbers, told without another reckoning.
func TestStepPlain(t *testing.T) {
	for _, x := range []struct {
		c    uint64
		b    byte
		want uint64
	}{
		{0, 0, 0},
		{5, 5, 0},
		{255, 255, 0},
		{0, 128, poly},
		{128, 0, poly},
		{256, 0, 1},
		{1 << 63, 0, 1 << 55},
		{256 | 128, 0, 1 ^ poly},
		{1<<63 | 7, 7, 1 << 55},
	} {
		if got := crc.Step(x.c, x.b); got != x.want {
			t.Errorf("Step(%x, %d): %x, not %x", x.c, x.b, got, x.want)
		}
	}
}

// P1.1, Table: each place, and the places 0 and 128 by themselves.
func TestTable(t *testing.T) {
	table := crc.Table()
	if table[0] != 0 || table[128] != poly {
		t.Errorf("places 0 and 128: %x, %x", table[0], table[128])
	}
	known := crc64.MakeTable(crc64.ECMA)
	for b, n := range table {
		if n != slowStep(0, byte(b)) || n != crc.Step(0, byte(b)) || n != known[b] {
			t.Errorf("place %d: %x", b, n)
		}
	}
}

// P1.1, Table: what one call told is not what another one tells of.
func TestTableOwn(t *testing.T) {
	a := crc.Table()
	was := a
	clear(a[:])
	if crc.Table() != was {
		t.Error("a table that was changed is told again")
	}
	if crc.Sum([]byte("123456789")) != 0x995dc9bbdf1939fa {
		t.Error("a table that was changed changes sums")
	}
}

// P1.1, Sum: the examples, and sums that are known elsewhere.
func TestSum(t *testing.T) {
	for _, x := range []struct {
		s    string
		want uint64
	}{
		{"", 0},
		{"123456789", 0x995dc9bbdf1939fa},
	} {
		if got := crc.Sum([]byte(x.s)); got != x.want {
			t.Errorf("%q: %x, not %x", x.s, got, x.want)
		}
	}
	known := crc64.MakeTable(crc64.ECMA)
	for n := range 600 {
		b := someBytes(int64(n), n)
		if got, want := crc.Sum(b), crc64.Checksum(b, known); got != want {
			t.Fatalf("%d bytes: %x, not %x", n, got, want)
		}
	}
}

// P1.1, Sum: all ones at first, a step by each byte, all bits turned about.
func TestSumBySteps(t *testing.T) {
	for n := range 40 {
		b := someBytes(int64(100+n), n)
		c := ^uint64(0)
		for _, x := range b {
			c = slowStep(c, x)
		}
		if got := crc.Sum(b); got != ^c {
			t.Fatalf("%d bytes: %x, not %x", n, got, ^c)
		}
	}
}

// P1.1, Sum: bytes of nought count, how many there are, and where.
func TestSumNoughts(t *testing.T) {
	seen := map[uint64]int{}
	for n := range 300 {
		s := crc.Sum(make([]byte, n))
		if was, there := seen[s]; there {
			t.Errorf("%d and %d noughts have one sum", was, n)
		}
		seen[s] = n
	}
	if crc.Sum([]byte{0, 1}) == crc.Sum([]byte{1, 0}) || crc.Sum([]byte{1}) == crc.Sum([]byte{0, 1}) {
		t.Error("noughts ahead, or the order, do not count")
	}
}

// P1.1: the sum of nothing, in all its forms.
func TestSumOfNothing(t *testing.T) {
	for i, parts := range [][][]byte{nil, {}, {nil}, {{}}, {nil, {}, nil}, make([][]byte, 1000)} {
		if got := crc.Sum(parts...); got != 0 {
			t.Errorf("%d: %x", i, got)
		}
	}
}

// P1.1, Page: the sum of just its 256 bytes.
func TestPage(t *testing.T) {
	for seed := range int64(20) {
		p := api.Page(someBytes(seed, api.PageSize))
		was := p
		if got := crc.Page(p); got != crc.Sum(p[:]) || got != crc64.Checksum(p[:], crc64.MakeTable(crc64.ECMA)) {
			t.Errorf("seed %d: %x", seed, got)
		}
		if p != was {
			t.Error("the page was changed")
		}
	}
	if crc.Page(api.Page{}) != crc.Sum(make([]byte, api.PageSize)) {
		t.Error("a page of noughts")
	}
	for at := range api.PageSize {
		var p api.Page
		p[at] = 1
		if crc.Page(p) == crc.Page(api.Page{}) {
			t.Errorf("the byte %d does not count", at)
		}
	}
}

// P1.2: each cut into two, and into three, with parts of nothing between.
func TestCuts(t *testing.T) {
	b := someBytes(7, 41)
	want := crc.Sum(b)
	for i := range len(b) + 1 {
		for j := i; j <= len(b); j++ {
			if crc.Sum(b[:i], b[i:j], b[j:]) != want {
				t.Fatalf("cut at %d and %d", i, j)
			}
			if crc.Sum(nil, b[:i], []byte{}, b[i:j], nil, b[j:], []byte{}) != want {
				t.Fatalf("cut at %d and %d, with parts of nothing", i, j)
			}
		}
	}
	var single [][]byte
	for i := range b {
		single = append(single, b[i:i+1])
	}
	if crc.Sum(single...) != want {
		t.Error("a part a byte")
	}
}

// P1.2: the parts' order counts: what is behind is not put ahead.
func TestPartsInOrder(t *testing.T) {
	a, b := []byte("suture"), []byte("disk")
	if crc.Sum(a, b) != crc.Sum([]byte("suturedisk")) || crc.Sum(b, a) != crc.Sum([]byte("disksuture")) || crc.Sum(a, b) == crc.Sum(b, a) {
		t.Error("order")
	}
}

// P1.2: what is changed within eight bytes changes the sum: each bit, and many changes at each place.
func TestEightBytes(t *testing.T) {
	r := rand.New(rand.NewSource(3))
	p := api.Page(someBytes(4, api.PageSize))
	want := crc.Page(p)
	for at := 0; at+8 <= api.PageSize; at++ {
		for i := range 64 + 40 {
			by := r.Uint64() | 1
			if i < 64 {
				by = 1 << i
			}
			q := p
			for k := range 8 {
				q[at+k] ^= byte(by >> (8 * k))
			}
			if crc.Page(q) == want {
				t.Fatalf("at %d by %x: the same sum", at, by)
			}
		}
	}
}

// P1.2: in eight bytes, no two rows have one sum: each bit alone makes a difference that the others can't make up for.
func TestEightBytesAlways(t *testing.T) {
	for _, n := range []int{8, 9, 64, api.PageSize} {
		nought := crc.Sum(make([]byte, n))
		for at := 0; at+8 <= n; at++ {
			var l []uint64
			for bit := range 64 {
				b := make([]byte, n)
				b[at+bit/8] = 1 << (bit % 8)
				l = append(l, crc.Sum(b)^nought)
			}
			if rank(l) != 64 {
				t.Fatalf("%d bytes, at %d: a change of eight bytes keeps the sum", n, at)
			}
		}
	}
}

// rank: how many of these rows of bits stand for themselves.
func rank(l []uint64) int {
	var lead [64]uint64
	n := 0
	for _, x := range l {
		for bit := 63; bit >= 0 && x != 0; bit-- {
			if x>>bit&1 == 0 {
				continue
			}
			if lead[bit] == 0 {
				lead[bit] = x
				n++
				break
			}
			x ^= lead[bit]
		}
	}
	return n
}

// P1.2: of three rows of one length the sum of what they are together is what the sums are together.
func TestThreeRows(t *testing.T) {
	for n := range 300 {
		a, b, c := someBytes(int64(3*n), n), someBytes(int64(3*n+1), n), someBytes(int64(3*n+2), n)
		if crc.Sum(xored(a, b, c)) != crc.Sum(a)^crc.Sum(b)^crc.Sum(c) {
			t.Fatalf("rows of %d bytes", n)
		}
	}
	same := someBytes(9, 20)
	if crc.Sum(xored(same, same, same)) != crc.Sum(same) {
		t.Error("a row three times")
	}
}

// R3, R4: what is handed in stays, spare room too, and a sum told again is the same one.
func TestHandedInStays(t *testing.T) {
	room := someBytes(5, 64)
	was := bytes.Clone(room)
	parts := [][]byte{room[:10], nil, room[20:30], room[5:15]}
	first := crc.Sum(parts...)
	if crc.Sum(parts...) != first || crc.Page(api.Page{1}) != crc.Page(api.Page{1}) {
		t.Error("told again, it is another one")
	}
	if !bytes.Equal(room, was) || len(parts) != 4 || parts[1] != nil || len(parts[0]) != 10 {
		t.Error("what was handed in is changed")
	}
}

// R1: great rows and many parts end, too.
func TestGreat(t *testing.T) {
	b := someBytes(6, 1<<20)
	known := crc64.Checksum(b, crc64.MakeTable(crc64.ECMA))
	var parts [][]byte
	for i := 0; i < len(b); i += 16 {
		parts = append(parts, b[i:i+16])
	}
	if crc.Sum(b) != known || crc.Sum(parts...) != known {
		t.Error("a great row")
	}
}

func BenchmarkPage(b *testing.B) {
	p := api.Page(someBytes(1, api.PageSize))
	for range b.N {
		crc.Page(p)
	}
}
