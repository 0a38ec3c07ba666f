package pack_test

import (
	"bytes"
	"math"
	"math/rand"
	"testing"

	"suture/api"
	"suture/pack"
)

// someBytes: n bytes, the same ones each time for one seed.
func someBytes(seed int64, n int) []byte {
	b := make([]byte, n)
	rand.New(rand.NewSource(seed)).Read(b)
	return b
}

// ones: n bytes of 255.
func ones(n int) []byte {
	return bytes.Repeat([]byte{255}, n)
}

// lists: what numbers and bytes are put behind, and what stands behind them.
func lists() [][]byte {
	return [][]byte{nil, {}, {0}, {9}, {255, 0}, someBytes(1, 7), someBytes(2, 300)}
}

// widths: each width, which one it counts as.
func widths() map[int]int {
	m := map[int]int{math.MinInt: 1, -256: 1, -1: 1, 0: 1, 9: 8, 10: 8, 64: 8, 256: 8, 257: 8, math.MaxInt: 8}
	for w := 1; w <= 8; w++ {
		m[w] = w
	}
	return m
}

func numbers() []uint64 {
	l := []uint64{0, 1, 127, 128, 255, 256, 258, 65535, 65536, 1 << 40, 1 << 63, math.MaxUint64, 0x0102030405060708}
	r := rand.New(rand.NewSource(1))
	for range 20 {
		l = append(l, r.Uint64())
	}
	return l
}

// roomy: b with 600 bytes of spare room, and all of that memory.
func roomy(b []byte) (cut, all []byte) {
	all = append(bytes.Clone(b), bytes.Repeat([]byte{170}, 600)...)
	return all[:len(b)], all
}

// scribble: all bytes of b are others, those of its spare room too.
func scribble(b []byte) {
	b = b[:cap(b)]
	for i := range b {
		b[i] ^= 255
	}
}

// slowPut: P2.1's words, by division.
func slowPut(b []byte, n uint64, width int) []byte {
	o := append([]byte{}, b...)
	for range width {
		o = append(o, byte(n%256))
		n /= 256
	}
	return o
}

// P2.1, Put: the lowest byte first, and what is above the width left out; written out.
func TestPutPlain(t *testing.T) {
	for _, x := range []struct {
		n     uint64
		width int
		want  string
	}{
		{258, 2, "\x02\x01"},
		{258, 1, "\x02"},
		{258, 3, "\x02\x01\x00"},
		{258, 8, "\x02\x01\x00\x00\x00\x00\x00\x00"},
		{0x0102030405060708, 8, "\x08\x07\x06\x05\x04\x03\x02\x01"},
		{0x0102030405060708, 7, "\x08\x07\x06\x05\x04\x03\x02"},
		{0x0102030405060708, 99, "\x08\x07\x06\x05\x04\x03\x02\x01"},
		{0x0102030405060708, -5, "\x08"},
		{1 << 40, 5, "\x00\x00\x00\x00\x00"},
		{1 << 40, 6, "\x00\x00\x00\x00\x00\x01"},
		{0, 1, "\x00"},
		{math.MaxUint64, 4, "\xff\xff\xff\xff"},
	} {
		if got := pack.Put(nil, x.n, x.width); string(got) != x.want {
			t.Errorf("Put(nil, %d, %d): %x, not %x", x.n, x.width, got, x.want)
		}
		if got := pack.Put([]byte("ab"), x.n, x.width); string(got) != "ab"+x.want {
			t.Errorf("Put(ab, %d, %d): %x", x.n, x.width, got)
		}
	}
}

// P2.1, Put: all widths, below 1 and above 8 too, behind each list.
func TestPut(t *testing.T) {
	for width, counts := range widths() {
		for _, n := range numbers() {
			for _, b := range lists() {
				if got, want := pack.Put(b, n, width), slowPut(b, n, counts); !bytes.Equal(got, want) {
					t.Fatalf("Put of %d bytes, %d, %d: %x, not %x", len(b), n, width, got, want)
				}
			}
		}
	}
}

// P2.1, Take: written out.
func TestTakePlain(t *testing.T) {
	b := []byte{1, 2, 3, 4, 5, 6, 7, 8, 9}
	for _, x := range []struct {
		width int
		n     uint64
		rest  int
	}{
		{1, 1, 8}, {2, 0x0201, 7}, {3, 0x030201, 6}, {4, 0x04030201, 5},
		{5, 0x0504030201, 4}, {7, 0x07060504030201, 2}, {8, 0x0807060504030201, 1},
		{0, 1, 8}, {-1, 1, 8}, {9, 0x0807060504030201, 1}, {math.MaxInt, 0x0807060504030201, 1}, {math.MinInt, 1, 8},
	} {
		n, rest, e := pack.Take(b, x.width)
		if n != x.n || !bytes.Equal(rest, b[9-x.rest:]) || e != api.OK {
			t.Errorf("width %d: %x, %x, %d", x.width, n, rest, e)
		}
	}
	if n, rest, e := pack.Take(ones(8), 8); n != math.MaxUint64 || len(rest) != 0 || e != api.OK {
		t.Errorf("eight bytes of 255: %x, %x, %d", n, rest, e)
	}
}

// P2.1, Take: of bytes of just the width nothing is behind; of fewer there is ErrShort, nought, and b.
func TestTakeWidth(t *testing.T) {
	for width, counts := range widths() {
		for many := range 12 {
			b := ones(many)
			n, rest, e := pack.Take(b, width)
			if many < counts {
				if n != 0 || !bytes.Equal(rest, b) || e != api.ErrShort {
					t.Errorf("width %d of %d bytes: %x, %x, %d", width, many, n, rest, e)
				}
				continue
			}
			if n != math.MaxUint64>>(64-8*counts) || len(rest) != many-counts || e != api.OK {
				t.Errorf("width %d of %d bytes: %x, %x, %d", width, many, n, rest, e)
			}
		}
	}
}

// P2.1, Take: nothing, in both its forms.
func TestTakeOfNothing(t *testing.T) {
	for width := range widths() {
		for i, b := range [][]byte{nil, {}} {
			if n, rest, e := pack.Take(b, width); n != 0 || len(rest) != 0 || e != api.ErrShort {
				t.Errorf("%d, width %d: %d, %x, %d", i, width, n, rest, e)
			}
		}
	}
}

// P2.2, PutBytes: the length, and of s the first 255.
func TestPutBytes(t *testing.T) {
	for _, many := range []int{0, 1, 2, 100, 127, 128, 254, 255, 256, 257, 300, 511, 512, 1000} {
		s := someBytes(int64(many), many)
		counts := min(many, 255)
		for _, b := range lists() {
			got := pack.PutBytes(b, s)
			want := append(append(bytes.Clone(b), byte(counts)), s[:counts]...)
			if !bytes.Equal(got, want) {
				t.Errorf("%d bytes behind %d: %x", many, len(b), got)
			}
		}
	}
	for i, x := range []struct{ b, s, want string }{
		{"", "", "\x00"},
		{"", "abc", "\x03abc"},
		{"z", "", "z\x00"},
		{"\x05", "abc", "\x05\x03abc"},
		{"\x05", "\x00\x00", "\x05\x02\x00\x00"},
	} {
		if got := pack.PutBytes([]byte(x.b), []byte(x.s)); string(got) != x.want {
			t.Errorf("%d: %x", i, got)
		}
	}
	for i, s := range [][]byte{nil, {}} {
		if got := pack.PutBytes(nil, s); string(got) != "\x00" {
			t.Errorf("nothing, %d: %x", i, got)
		}
	}
}

// P2.2, TakeBytes: written out, wrong inputs too.
func TestTakeBytesPlain(t *testing.T) {
	for _, x := range []struct {
		b    string
		most int
		s    string
		rest string
		e    api.Errno
	}{
		{"\x03abc", 3, "abc", "", api.OK},
		{"\x03abcz", 3, "abc", "z", api.OK},
		{"\x03abcz", 4, "abc", "z", api.OK},
		{"\x03abcz", math.MaxInt, "abc", "z", api.OK},
		{"\x03abc\x02de", 9, "abc", "\x02de", api.OK},
		{"\x00", 0, "", "", api.OK},
		{"\x00", 9, "", "", api.OK},
		{"\x00\x07", 0, "", "\x07", api.OK},
		{"\x01\x00\x00", 1, "\x00", "\x00", api.OK},
		{"\x02\x07\x07", 2, "\x07\x07", "", api.OK},

		{"", 9, "", "", api.ErrShort},
		{"", 0, "", "", api.ErrShort},
		{"", -1, "", "", api.ErrShort},
		{"\x01", 9, "", "\x01", api.ErrShort},
		{"\x02\x07", 9, "", "\x02\x07", api.ErrShort},
		{"\xff", 300, "", "\xff", api.ErrShort},

		{"\x02\x07\x07", 1, "", "\x02\x07\x07", api.ErrLong},
		{"\x03abcz", 2, "", "\x03abcz", api.ErrLong},
		{"\x01\x01", 0, "", "\x01\x01", api.ErrLong},
		{"\x01\x01", -1, "", "\x01\x01", api.ErrLong},
		{"\x00", -1, "", "\x00", api.ErrLong},
		{"\x00z", math.MinInt, "", "\x00z", api.ErrLong},

		// Too few and too many: ErrShort is named ahead of ErrLong.
		{"\x02\x07", 1, "", "\x02\x07", api.ErrShort},
		{"\x02", -1, "", "\x02", api.ErrShort},
		{"\xffa", 0, "", "\xffa", api.ErrShort},
	} {
		s, rest, e := pack.TakeBytes([]byte(x.b), x.most)
		if string(s) != x.s || string(rest) != x.rest || e != x.e {
			t.Errorf("TakeBytes(%x, %d): %x, %x, %d", x.b, x.most, s, rest, e)
		}
	}
	if s, rest, e := pack.TakeBytes(nil, 9); len(s) != 0 || len(rest) != 0 || e != api.ErrShort {
		t.Errorf("nil: %x, %x, %d", s, rest, e)
	}
}

// P2.2, TakeBytes: each length, with a byte too few, just as many and more, and most around it.
func TestTakeBytesLengths(t *testing.T) {
	for many := range 256 {
		all := someBytes(int64(many), 300)
		all[0] = byte(many)
		for _, there := range []int{many, many + 1, many + 2, 300} {
			for _, most := range []int{-1, 0, many - 1, many, many + 1, 255, 256} {
				b := all[:there]
				s, rest, e := pack.TakeBytes(b, most)
				want := api.OK
				switch {
				case there < many+1:
					want = api.ErrShort
				case many > most:
					want = api.ErrLong
				}
				if e != want {
					t.Fatalf("length %d, %d bytes, most %d: %d", many, there, most, e)
				}
				if e != api.OK && (len(s) != 0 || !bytes.Equal(rest, b)) || e == api.OK && (!bytes.Equal(s, b[1:1+many]) || !bytes.Equal(rest, b[1+many:])) {
					t.Fatalf("length %d, %d bytes, most %d: %x, %x", many, there, most, s, rest)
				}
			}
		}
	}
}

// P2.3, Fill: noughts behind b, up to a page; a page's size and one byte more.
func TestFill(t *testing.T) {
	for many := range api.PageSize + 1 {
		b := append(ones(many), someBytes(1, 10)...)[:many]
		p, e := pack.Fill(b)
		if e != api.OK || !bytes.Equal(p[:many], b) || !bytes.Equal(p[many:], make([]byte, api.PageSize-many)) {
			t.Fatalf("%d bytes: %x, %d", many, p, e)
		}
	}
	for _, many := range []int{api.PageSize + 1, api.PageSize + 2, 2 * api.PageSize, 1 << 16} {
		if p, e := pack.Fill(ones(many)); e != api.ErrLong || p != (api.Page{}) {
			t.Errorf("%d bytes: %x, %d", many, p, e)
		}
	}
	if p, e := pack.Fill(nil); e != api.OK || p != (api.Page{}) {
		t.Errorf("nil: %x, %d", p, e)
	}
	whole := someBytes(3, api.PageSize)
	if p, e := pack.Fill(whole); e != api.OK || !bytes.Equal(p[:], whole) {
		t.Errorf("a page: %x, %d", p, e)
	}
}

// P2.3, Clean: noughts, and one byte that is none, at each place.
func TestClean(t *testing.T) {
	if !pack.Clean(nil) || !pack.Clean([]byte{}) {
		t.Error("nothing")
	}
	for _, many := range []int{1, 2, 8, 255, 256, 257, 1000} {
		b := make([]byte, many)
		if !pack.Clean(b) {
			t.Errorf("%d noughts", many)
		}
		for i := range b {
			for _, x := range []byte{1, 2, 127, 128, 255} {
				b[i] = x
				if pack.Clean(b) {
					t.Fatalf("%d bytes, %d at %d", many, x, i)
				}
			}
			b[i] = 0
		}
	}
	if pack.Clean([]byte{128, 128}) || pack.Clean([]byte{255, 1}) || pack.Clean([]byte{7, 7}) {
		t.Error("bytes that make nought together")
	}
	if !pack.Clean([]byte{0, 0, 5}[:2]) {
		t.Error("spare room counts")
	}
}

// P2.3, Halves: each byte.
func TestHalves(t *testing.T) {
	old, now := api.Page(someBytes(4, api.PageSize)), api.Page(someBytes(5, api.PageSize))
	wasOld, wasNow := old, now
	h := pack.Halves(old, now)
	if !bytes.Equal(h[:128], now[:128]) || !bytes.Equal(h[128:], old[128:]) {
		t.Errorf("%x", h)
	}
	if old != wasOld || now != wasNow {
		t.Error("what was handed in is changed")
	}
	if pack.Halves(old, old) != old {
		t.Error("of one page twice")
	}
	full := api.Page(ones(api.PageSize))
	h = pack.Halves(api.Page{}, full)
	if h[0] != 255 || h[127] != 255 || h[128] != 0 || h[255] != 0 {
		t.Errorf("%x", h)
	}
	h = pack.Halves(full, api.Page{})
	if h[0] != 0 || h[127] != 0 || h[128] != 255 || h[255] != 255 {
		t.Errorf("%x", h)
	}
}

// P2.4: a number that was put is taken again, and what was behind it is left.
func TestNumbersAgain(t *testing.T) {
	for width, counts := range widths() {
		for _, n := range numbers() {
			for _, behind := range lists() {
				got, rest, e := pack.Take(append(pack.Put(nil, n, width), behind...), width)
				if got != n&(math.MaxUint64>>(64-8*counts)) || !bytes.Equal(rest, behind) || e != api.OK {
					t.Fatalf("%d, %d: %d, %x, %d", n, width, got, rest, e)
				}
			}
		}
	}
}

// P2.4: bytes that were put are taken again, and what was behind them is left.
func TestBytesAgain(t *testing.T) {
	for many := range 300 {
		s := someBytes(int64(many), many)
		for _, behind := range lists() {
			got, rest, e := pack.TakeBytes(append(pack.PutBytes(nil, s), behind...), 255)
			if !bytes.Equal(got, s[:min(many, 255)]) || !bytes.Equal(rest, behind) || e != api.OK {
				t.Fatalf("%d bytes: %x, %x, %d", many, got, rest, e)
			}
		}
	}
}

// P2.4: numbers and bytes that were put one behind the other are taken in that order.
func TestRowAgain(t *testing.T) {
	var b []byte
	for i, n := range numbers() {
		b = pack.Put(b, n, 8)
		b = pack.PutBytes(b, someBytes(int64(i), i))
		b = pack.Put(b, uint64(i), 1)
	}
	for i, n := range numbers() {
		got, rest, e := pack.Take(b, 8)
		s, rest, f := pack.TakeBytes(rest, i)
		j, rest, g := pack.Take(rest, 1)
		if got != n || !bytes.Equal(s, someBytes(int64(i), i)) || j != uint64(i) || e != api.OK || f != api.OK || g != api.OK {
			t.Fatalf("%d: %d, %x, %d; %d, %d, %d", i, got, s, j, e, f, g)
		}
		b = rest
	}
	if len(b) != 0 {
		t.Errorf("left: %x", b)
	}
}

// P2.1, P2.2, R4: what is put is in memory of its own; what was handed in stays, spare room too.
func TestPutOwn(t *testing.T) {
	for _, x := range lists() {
		b, room := roomy(x)
		s, sroom := roomy(someBytes(9, 40))
		was, swas := bytes.Clone(room), bytes.Clone(sroom)
		for _, put := range []func() []byte{
			func() []byte { return pack.Put(b, 0x0102030405060708, 8) },
			func() []byte { return pack.Put(b, 7, 0) },
			func() []byte { return pack.PutBytes(b, s) },
			func() []byte { return pack.PutBytes(b, nil) },
			func() []byte { return pack.PutBytes(b, sroom) },
			func() []byte { return pack.PutBytes(b, room[len(b):]) },
		} {
			first := put()
			told := bytes.Clone(first)
			second := put()
			scribble(first)
			if !bytes.Equal(room, was) || !bytes.Equal(sroom, swas) {
				t.Fatalf("behind %d bytes: what was handed in is changed", len(x))
			}
			if !bytes.Equal(second, told) {
				t.Fatalf("behind %d bytes: told again, it is another one", len(x))
			}
			scribble(room)
			scribble(sroom)
			if !bytes.Equal(second, told) {
				t.Fatalf("behind %d bytes: what was put hangs on what was handed in", len(x))
			}
			scribble(room)
			scribble(sroom)
		}
	}
}

// P2.1, P2.2, R4: what is taken, and what is left, are in memory of their own, beside an error too.
func TestTakeOwn(t *testing.T) {
	number := func(width int) func([]byte) ([]byte, []byte) {
		return func(b []byte) ([]byte, []byte) {
			_, rest, _ := pack.Take(b, width)
			return nil, rest
		}
	}
	parts := func(most int) func([]byte) ([]byte, []byte) {
		return func(b []byte) ([]byte, []byte) {
			s, rest, _ := pack.TakeBytes(b, most)
			return s, rest
		}
	}
	for _, x := range []string{"", "\x00", "\x03abc", "\x03abcdefghijk", "\x03ab", "\x00abcdefgh"} {
		for i, take := range []func([]byte) ([]byte, []byte){number(1), number(3), number(8), parts(9), parts(2), parts(-1)} {
			b, room := roomy([]byte(x))
			was := bytes.Clone(room)
			s, rest := take(b)
			toldS, told := bytes.Clone(s), bytes.Clone(rest)
			scribble(room)
			if !bytes.Equal(s, toldS) || !bytes.Equal(rest, told) {
				t.Errorf("%x, %d: an answer hangs on what was handed in", x, i)
			}
			scribble(room)
			scribble(s)
			if !bytes.Equal(rest, told) || !bytes.Equal(room, was) {
				t.Errorf("%x, %d: what was taken is part of something else", x, i)
			}
			scribble(s)
			scribble(rest)
			if !bytes.Equal(s, toldS) || !bytes.Equal(room, was) {
				t.Errorf("%x, %d: what is left is part of something else", x, i)
			}
		}
	}
}

// P2.3, R4: pages are looked at, and left as they are.
func TestPagesStay(t *testing.T) {
	b, room := roomy(someBytes(6, 200))
	was := bytes.Clone(room)
	p, _ := pack.Fill(b)
	pack.Fill(room)
	pack.Clean(room)
	clear(p[:])
	if !bytes.Equal(room, was) {
		t.Error("what was handed in is changed")
	}
	if q, e := pack.Fill(b); e != api.OK || !bytes.Equal(q[:200], b) || !pack.Clean(q[200:]) {
		t.Error("told again, it is another page")
	}
}
