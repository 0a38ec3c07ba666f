package ptr_test

import (
	"bytes"
	"math"
	"math/rand"
	"slices"
	"testing"

	"suture/api"
	"suture/crc"
	"suture/ptr"
)

// length: how many bytes a pointer has.
const length = 17

// somePage: a page, the same one each time for one seed.
func somePage(seed int64) api.Page {
	var p api.Page
	rand.New(rand.NewSource(seed)).Read(p[:])
	return p
}

// at: two addresses.
func at(a, b uint16) [2]uint16 {
	return [2]uint16{a, b}
}

// kinds: all that a kind may be told as.
func kinds() []uint8 {
	return []uint8{api.PtNone, api.PtLeaf, api.PtBranch, api.PtChain, 4, 5, 7, 127, 128, 129, 130, 131, 254, 255}
}

// extremes: the least and the greatest numbers, and those about each limit.
func extremes() []int {
	return []int{math.MinInt, math.MinInt64 + 1, math.MinInt32, -65537, -65536, -65535, -256, -2, -1, 0, 1, 2, 3, 4, 5, 30, 31, 32, 33, 255, 256, 257,
		65534, 65535, 65536, 65537, 65540, 1 << 20, math.MaxInt32, math.MaxInt - 1, math.MaxInt}
}

// births: those about each limit of a commit's number.
func births() []uint32 {
	return []uint32{0, 1, 2, 255, 256, 65536, api.MaxTx - 1, api.MaxTx, api.MaxTx + 1, 1 << 31, math.MaxUint32}
}

// some: pointers of each kind, with numbers at their ends and between.
func some() []api.Ptr {
	l := []api.Ptr{
		{},
		{Kind: 255, Addr: at(65535, 65535), Birth: math.MaxUint32, Sum: math.MaxUint64},
		{Kind: 2, Addr: at(0x0102, 0x0304), Birth: 0x05060708, Sum: 0x1112131415161718},
		{Kind: 128, Addr: at(0x8000, 0x8000), Birth: 1 << 31, Sum: 1 << 63},
		{Kind: 1}, {Addr: at(1, 0)}, {Addr: at(0, 1)}, {Addr: at(256, 0)}, {Addr: at(0, 256)}, {Birth: 1}, {Birth: 1 << 24}, {Sum: 1}, {Sum: 1 << 56},
	}
	r := rand.New(rand.NewSource(3))
	for _, k := range kinds() {
		for range 4 {
			l = append(l, api.Ptr{Kind: k, Addr: at(uint16(r.Uint32()), uint16(r.Uint32())), Birth: r.Uint32(), Sum: r.Uint64()})
		}
	}
	return l
}

// lists: what a pointer is put behind, and what stands behind one.
func lists() [][]byte {
	p := somePage(8)
	return [][]byte{nil, {}, {0}, {9}, {255, 0}, p[:16], p[:17], p[:18], p[:200], bytes.Repeat(p[:], 5)}
}

// roomy: b with 100 bytes of spare room, and all of that memory.
func roomy(b []byte) (cut, all []byte) {
	all = append(bytes.Clone(b), bytes.Repeat([]byte{170}, 100)...)
	return all[:len(b)], all
}

// scribble: all bytes of b are others, those of its spare room too.
func scribble(b []byte) {
	b = b[:cap(b)]
	for i := range b {
		b[i] ^= 255
	}
}

// slowBytes: a pointer's bytes by the chapter's words, by division.
func slowBytes(x api.Ptr) []byte {
	var o []byte
	put := func(n uint64, width int) {
		for range width {
			o = append(o, byte(n%256))
			n /= 256
		}
	}
	put(uint64(x.Kind), 1)
	put(uint64(x.Addr[0]), 2)
	put(uint64(x.Addr[1]), 2)
	put(uint64(x.Birth), 4)
	put(x.Sum, 8)
	return o
}

// slowRight: what may be, by the chapter's words.
func slowRight(x api.Ptr, size int) bool {
	a, b := int(x.Addr[0]), int(x.Addr[1])
	on := func(n int) bool { return n >= 4 && n < size }
	if x.Birth < 1 || x.Birth > 1<<30 {
		return false
	}
	if x.Kind == 1 || x.Kind == 2 {
		return on(a) && on(b) && a != b
	}
	return x.Kind == 3 && on(a) && b == 0
}

// P5.1, None: nought in all, and each bit of each part alone.
func TestNone(t *testing.T) {
	if !ptr.None(api.Ptr{}) {
		t.Error("none is not none")
	}
	for bit := range 64 {
		for i, x := range []api.Ptr{
			{Kind: 1 << (bit % 8)}, {Addr: at(1<<(bit%16), 0)}, {Addr: at(0, 1<<(bit%16))}, {Birth: 1 << (bit % 32)}, {Sum: 1 << bit},
		} {
			if ptr.None(x) {
				t.Errorf("bit %d of part %d: none", bit, i)
			}
		}
	}
	for _, x := range some()[1:] {
		if ptr.None(x) {
			t.Errorf("none: %v", x)
		}
	}
	// The kind alone does not tell: this one is of PtNone, but has a sum.
	if ptr.None(ptr.Of(api.PtNone, 0, 0, 0, api.Page{})) {
		t.Error("a pointer of PtNone with a sum is none")
	}
}

// P5.1, Meta: leaves and branches, whatever else the pointer has, and no other kind.
func TestMeta(t *testing.T) {
	for k := range 256 {
		want := k == 1 || k == 2
		if ptr.Meta(api.Ptr{Kind: uint8(k)}) != want || ptr.Meta(api.Ptr{Kind: uint8(k), Addr: at(9, 9), Birth: 1 << 31, Sum: 5}) != want {
			t.Errorf("kind %d", k)
		}
	}
}

// P5.1, Right: written out.
func TestRightPlain(t *testing.T) {
	for i, x := range []struct {
		x    api.Ptr
		size int
		want bool
	}{
		{api.Ptr{Kind: api.PtLeaf, Addr: at(4, 5), Birth: 1}, 32, true},
		{api.Ptr{Kind: api.PtBranch, Addr: at(4, 5), Birth: 1}, 32, true},
		{api.Ptr{Kind: api.PtChain, Addr: at(4, 0), Birth: 1}, 32, true},
		{api.Ptr{Kind: api.PtLeaf, Addr: at(5, 4), Birth: 1}, 32, true},
		{api.Ptr{Kind: api.PtLeaf, Addr: at(5, 4), Birth: 1, Sum: math.MaxUint64}, 32, true},
		{api.Ptr{Kind: api.PtChain, Addr: at(255, 0), Birth: 1}, 256, true},

		// A kind that is none of the three.
		{api.Ptr{}, 32, false},
		{api.Ptr{Kind: api.PtNone, Addr: at(4, 5), Birth: 1}, 32, false},
		{api.Ptr{Kind: api.PtNone, Addr: at(4, 0), Birth: 1}, 32, false},
		{api.Ptr{Kind: 4, Addr: at(4, 5), Birth: 1}, 32, false},
		{api.Ptr{Kind: 4, Addr: at(4, 0), Birth: 1}, 32, false},
		{api.Ptr{Kind: 255, Addr: at(4, 5), Birth: 1}, 32, false},

		// Addresses at Slots and just below it, at size and just below it.
		{api.Ptr{Kind: api.PtLeaf, Addr: at(3, 5), Birth: 1}, 32, false},
		{api.Ptr{Kind: api.PtLeaf, Addr: at(5, 3), Birth: 1}, 32, false},
		{api.Ptr{Kind: api.PtLeaf, Addr: at(0, 5), Birth: 1}, 32, false},
		{api.Ptr{Kind: api.PtLeaf, Addr: at(5, 0), Birth: 1}, 32, false},
		{api.Ptr{Kind: api.PtLeaf, Addr: at(31, 30), Birth: 1}, 32, true},
		{api.Ptr{Kind: api.PtLeaf, Addr: at(30, 31), Birth: 1}, 32, true},
		{api.Ptr{Kind: api.PtLeaf, Addr: at(32, 5), Birth: 1}, 32, false},
		{api.Ptr{Kind: api.PtLeaf, Addr: at(5, 32), Birth: 1}, 32, false},
		{api.Ptr{Kind: api.PtLeaf, Addr: at(5, 32), Birth: 1}, 33, true},
		{api.Ptr{Kind: api.PtChain, Addr: at(3, 0), Birth: 1}, 32, false},
		{api.Ptr{Kind: api.PtChain, Addr: at(0, 0), Birth: 1}, 32, false},
		{api.Ptr{Kind: api.PtChain, Addr: at(31, 0), Birth: 1}, 32, true},
		{api.Ptr{Kind: api.PtChain, Addr: at(32, 0), Birth: 1}, 32, false},
		{api.Ptr{Kind: api.PtChain, Addr: at(65535, 0), Birth: 1}, 256, false},

		// The two addresses alike.
		{api.Ptr{Kind: api.PtLeaf, Addr: at(5, 5), Birth: 1}, 32, false},
		{api.Ptr{Kind: api.PtBranch, Addr: at(4, 4), Birth: 1}, 32, false},

		// Of PtChain, a second address.
		{api.Ptr{Kind: api.PtChain, Addr: at(4, 5), Birth: 1}, 32, false},
		{api.Ptr{Kind: api.PtChain, Addr: at(4, 4), Birth: 1}, 32, false},
		{api.Ptr{Kind: api.PtChain, Addr: at(4, 1), Birth: 1}, 32, false},
		{api.Ptr{Kind: api.PtChain, Addr: at(4, 256), Birth: 1}, 1000, false},

		// The birth, of each kind.
		{api.Ptr{Kind: api.PtLeaf, Addr: at(4, 5), Birth: 0}, 32, false},
		{api.Ptr{Kind: api.PtLeaf, Addr: at(4, 5), Birth: 1 << 30}, 32, true},
		{api.Ptr{Kind: api.PtLeaf, Addr: at(4, 5), Birth: 1<<30 + 1}, 32, false},
		{api.Ptr{Kind: api.PtChain, Addr: at(4, 0), Birth: 0}, 32, false},
		{api.Ptr{Kind: api.PtChain, Addr: at(4, 0), Birth: 1 << 30}, 32, true},
		{api.Ptr{Kind: api.PtChain, Addr: at(4, 0), Birth: 1<<30 + 1}, 32, false},
		{api.Ptr{Kind: api.PtChain, Addr: at(4, 0), Birth: math.MaxUint32}, 32, false},

		// Sizes such as no disk has.
		{api.Ptr{Kind: api.PtLeaf, Addr: at(4, 5), Birth: 1}, 6, true},
		{api.Ptr{Kind: api.PtLeaf, Addr: at(4, 5), Birth: 1}, 5, false},
		{api.Ptr{Kind: api.PtLeaf, Addr: at(4, 5), Birth: 1}, 0, false},
		{api.Ptr{Kind: api.PtLeaf, Addr: at(4, 5), Birth: 1}, -1, false},
		{api.Ptr{Kind: api.PtChain, Addr: at(4, 0), Birth: 1}, math.MinInt, false},
		{api.Ptr{Kind: api.PtLeaf, Addr: at(65534, 65535), Birth: 1}, 65535, false},
		{api.Ptr{Kind: api.PtLeaf, Addr: at(65534, 65535), Birth: 1}, 65536, true},
		{api.Ptr{Kind: api.PtLeaf, Addr: at(65534, 65535), Birth: 1}, math.MaxInt, true},
	} {
		if ptr.Right(x.x, x.size) != x.want {
			t.Errorf("%d: Right(%v, %d) is not %v", i, x.x, x.size, x.want)
		}
	}
}

// P5.1, Right: all kinds, births, addresses and sizes together, held against the words.
func TestRight(t *testing.T) {
	addrs := []uint16{0, 1, 3, 4, 5, 31, 32, 33, 255, 256, 257, 65535}
	seen := map[bool]int{}
	for _, k := range kinds() {
		for _, birth := range births() {
			for _, a := range addrs {
				for _, b := range addrs {
					for _, size := range extremes() {
						x := api.Ptr{Kind: k, Addr: at(a, b), Birth: birth, Sum: uint64(a)}
						want := slowRight(x, size)
						seen[want]++
						if ptr.Right(x, size) != want {
							t.Fatalf("Right(%v, %d) is not %v", x, size, want)
						}
					}
				}
			}
		}
	}
	if seen[true] < 1000 || seen[false] < 1000 {
		t.Error(seen)
	}
}

// P5.1, Fits: the page's sum, and a kind that is not PtNone; nothing else counts.
func TestFits(t *testing.T) {
	p := somePage(1)
	sum := crc.Page(p)
	for k := range 256 {
		for _, x := range []api.Ptr{{}, {Addr: at(4, 5), Birth: 7}, {Addr: at(65535, 65535), Birth: math.MaxUint32}} {
			x.Kind, x.Sum = uint8(k), sum
			if ptr.Fits(x, p) != (k != 0) {
				t.Errorf("kind %d: %v", k, x)
			}
			for bit := range 64 {
				x.Sum = sum ^ 1<<bit
				if ptr.Fits(x, p) {
					t.Errorf("kind %d: a sum with another bit %d fits", k, bit)
				}
			}
		}
	}
	if ptr.Fits(api.Ptr{}, p) || ptr.Fits(api.Ptr{}, api.Page{}) || ptr.Fits(api.Ptr{Kind: 1}, api.Page{}) {
		t.Error("a sum of 0 fits")
	}
	if ptr.Fits(ptr.Of(api.PtLeaf, 4, 5, 1, p), somePage(2)) || ptr.Fits(ptr.Of(api.PtLeaf, 4, 5, 1, p), api.Page{}) {
		t.Error("another page fits")
	}
}

// P5.1, Sum: the page's, as layer 1 tells it.
func TestSum(t *testing.T) {
	for seed := range int64(20) {
		p := somePage(seed)
		if ptr.Sum(p) != crc.Page(p) || ptr.Sum(p) != crc.Sum(p[:]) {
			t.Errorf("page %d", seed)
		}
	}
	if ptr.Sum(api.Page{}) != crc.Page(api.Page{}) || ptr.Sum(api.Page{}) == 0 {
		t.Error("a page of noughts")
	}
}

// P5.1, Of: written out.
func TestOfPlain(t *testing.T) {
	p := somePage(5)
	s := crc.Page(p)
	for i, x := range []struct {
		kind  uint8
		a, b  int
		birth uint32
		want  api.Ptr
	}{
		{api.PtLeaf, 4, 300, 9, api.Ptr{Kind: 1, Addr: at(4, 300), Birth: 9, Sum: s}},
		{api.PtBranch, 300, 4, api.MaxTx, api.Ptr{Kind: 2, Addr: at(300, 4), Birth: api.MaxTx, Sum: s}},
		{api.PtChain, 7, 8, 1, api.Ptr{Kind: 3, Addr: at(7, 0), Birth: 1, Sum: s}},
		{api.PtChain, 7, 0, 1, api.Ptr{Kind: 3, Addr: at(7, 0), Birth: 1, Sum: s}},
		{api.PtChain, 0, 7, 1, api.Ptr{Kind: 3, Addr: at(0, 0), Birth: 1, Sum: s}},
		{api.PtNone, 7, 8, 1, api.Ptr{Kind: 0, Addr: at(7, 8), Birth: 1, Sum: s}},
		{api.PtNone, 0, 0, 0, api.Ptr{Sum: s}},
		{77, 7, 8, 0, api.Ptr{Kind: 77, Addr: at(7, 8), Sum: s}},
		{255, 7, 7, math.MaxUint32, api.Ptr{Kind: 255, Addr: at(7, 7), Birth: math.MaxUint32, Sum: s}},

		// Addresses of more than 16 bits, and below nought.
		{api.PtLeaf, 65535, 65536, 1, api.Ptr{Kind: 1, Addr: at(65535, 0), Birth: 1, Sum: s}},
		{api.PtLeaf, 65540, 1<<40 + 5, 1, api.Ptr{Kind: 1, Addr: at(4, 5), Birth: 1, Sum: s}},
		{api.PtLeaf, -1, -2, 1, api.Ptr{Kind: 1, Addr: at(65535, 65534), Birth: 1, Sum: s}},
		{api.PtLeaf, -65536, -65532, 1, api.Ptr{Kind: 1, Addr: at(0, 4), Birth: 1, Sum: s}},
		{api.PtLeaf, math.MinInt, math.MaxInt, 1, api.Ptr{Kind: 1, Addr: at(0, 65535), Birth: 1, Sum: s}},
		{api.PtChain, -1, -1, 1, api.Ptr{Kind: 3, Addr: at(65535, 0), Birth: 1, Sum: s}},
	} {
		if got := ptr.Of(x.kind, x.a, x.b, x.birth, p); got != x.want {
			t.Errorf("%d: %v, not %v", i, got, x.want)
		}
	}
}

// P5.1, Of: all kinds, addresses and births together.
func TestOf(t *testing.T) {
	p := somePage(6)
	for k := range 256 {
		for _, birth := range births() {
			for _, a := range extremes() {
				b := -a / 3
				want := api.Ptr{Kind: uint8(k), Addr: at(uint16(uint64(a)%65536), uint16(uint64(b)%65536)), Birth: birth, Sum: crc.Page(p)}
				if k == 3 {
					want.Addr[1] = 0
				}
				if got := ptr.Of(uint8(k), a, b, birth, p); got != want {
					t.Fatalf("Of(%d, %d, %d, %d): %v, not %v", k, a, b, birth, got, want)
				}
				if birth == 0 { // a sum is long to work out
					break
				}
			}
		}
	}
}

// P5.1, Where: two addresses of metadata, one of a chain, none of another kind; whatever they are.
func TestWhere(t *testing.T) {
	for k := range 256 {
		for _, a := range [][2]uint16{at(4, 5), at(5, 4), at(4, 4), at(0, 0), at(0, 9), at(9, 0), at(65535, 256), at(3, 65535)} {
			var want []int
			switch k {
			case 1, 2:
				want = []int{int(a[0]), int(a[1])}
			case 3:
				want = []int{int(a[0])}
			}
			if got := ptr.Where(api.Ptr{Kind: uint8(k), Addr: a, Birth: 1}); !slices.Equal(got, want) {
				t.Errorf("kind %d, %v: %v", k, a, got)
			}
		}
	}
}

// P5.2, Put: written out.
func TestPutPlain(t *testing.T) {
	for i, x := range []struct {
		b    string
		x    api.Ptr
		want string
	}{
		{"", api.Ptr{}, "\x00\x00\x00\x00\x00\x00\x00\x00\x00\x00\x00\x00\x00\x00\x00\x00\x00"},
		{"\x09", api.Ptr{Kind: 2, Addr: at(0x0102, 0x0304), Birth: 0x05060708, Sum: 0x1112131415161718},
			"\x09\x02\x02\x01\x04\x03\x08\x07\x06\x05\x18\x17\x16\x15\x14\x13\x12\x11"},
		{"ab", api.Ptr{Kind: 255, Addr: at(1, 256), Birth: 1 << 24, Sum: 1 << 56},
			"ab\xff\x01\x00\x00\x01\x00\x00\x00\x01\x00\x00\x00\x00\x00\x00\x00\x01"},
	} {
		if got := ptr.Put([]byte(x.b), x.x); string(got) != x.want {
			t.Errorf("%d: % x", i, got)
		}
	}
	if got := ptr.Put(nil, api.Ptr{}); !bytes.Equal(got, make([]byte, length)) {
		t.Errorf("none behind nothing: % x", got)
	}
}

// P5.2, Put: any pointer, behind each list.
func TestPut(t *testing.T) {
	for _, x := range some() {
		for _, b := range lists() {
			if got, want := ptr.Put(b, x), append(bytes.Clone(b), slowBytes(x)...); !bytes.Equal(got, want) {
				t.Errorf("%v behind %d bytes: % x, not % x", x, len(b), got, want)
			}
		}
	}
}

// P5.2, Take: written out; the pointer may be any.
func TestTakePlain(t *testing.T) {
	b := []byte("\x02\x02\x01\x04\x03\x08\x07\x06\x05\x18\x17\x16\x15\x14\x13\x12\x11\x4d\x4e")
	want := api.Ptr{Kind: 2, Addr: at(0x0102, 0x0304), Birth: 0x05060708, Sum: 0x1112131415161718}
	for _, more := range []int{0, 1, 2} {
		x, rest, e := ptr.Take(b[:length+more])
		if x != want || !bytes.Equal(rest, b[length:length+more]) || e != api.OK {
			t.Errorf("%d behind: %v, % x, %d", more, x, rest, e)
		}
	}
	x, rest, e := ptr.Take(bytes.Repeat([]byte{255}, 20))
	if x != (api.Ptr{Kind: 255, Addr: at(65535, 65535), Birth: math.MaxUint32, Sum: math.MaxUint64}) || string(rest) != "\xff\xff\xff" || e != api.OK {
		t.Errorf("all ones: %v, % x, %d", x, rest, e)
	}
	if x, rest, e := ptr.Take(make([]byte, length)); !ptr.None(x) || len(rest) != 0 || e != api.OK {
		t.Errorf("seventeen noughts: %v, % x, %d", x, rest, e)
	}
}

// P5.2, Take: fewer than seventeen bytes, down to none.
func TestTakeShort(t *testing.T) {
	p := somePage(7)
	for many := range length {
		x, rest, e := ptr.Take(p[:many])
		if x != (api.Ptr{}) || !bytes.Equal(rest, p[:many]) || e != api.ErrShort {
			t.Errorf("%d bytes: %v, % x, %d", many, x, rest, e)
		}
	}
	for i, b := range [][]byte{nil, {}} {
		if x, rest, e := ptr.Take(b); x != (api.Ptr{}) || len(rest) != 0 || e != api.ErrShort {
			t.Errorf("nothing, %d: %v, % x, %d", i, x, rest, e)
		}
	}
	// Spare room does not count.
	if _, _, e := ptr.Take(p[:16:200]); e != api.ErrShort {
		t.Errorf("spare room: %d", e)
	}
}

// P5.2, Take: each byte belongs to one part, and what is behind seventeen to none.
func TestTakeEachByte(t *testing.T) {
	for i := range 40 {
		b := make([]byte, 40)
		b[i] = 1
		var want api.Ptr
		switch {
		case i == 0:
			want.Kind = 1
		case i < 3:
			want.Addr[0] = 1 << (8 * (i - 1))
		case i < 5:
			want.Addr[1] = 1 << (8 * (i - 3))
		case i < 9:
			want.Birth = 1 << (8 * (i - 5))
		case i < 17:
			want.Sum = 1 << (8 * (i - 9))
		}
		if x, rest, e := ptr.Take(b); x != want || !bytes.Equal(rest, b[length:]) || e != api.OK {
			t.Errorf("byte %d: %v, % x, %d", i, x, rest, e)
		}
	}
}

// P5.3: what is put is taken again, whether it may be or not, and what was behind it is left.
func TestAgain(t *testing.T) {
	for _, x := range some() {
		for _, behind := range lists() {
			got, rest, e := ptr.Take(append(ptr.Put(nil, x), behind...))
			if got != x || !bytes.Equal(rest, behind) || e != api.OK {
				t.Errorf("%v and %d bytes: %v, % x, %d", x, len(behind), got, rest, e)
			}
		}
	}
}

// P5.3: pointers that were put one behind the other are taken in that order.
func TestRowAgain(t *testing.T) {
	var b []byte
	for _, x := range some() {
		b = ptr.Put(b, x)
	}
	if len(b) != length*len(some()) {
		t.Fatalf("%d bytes", len(b))
	}
	for i, x := range some() {
		got, rest, e := ptr.Take(b)
		if got != x || e != api.OK {
			t.Fatalf("%d: %v, not %v, %d", i, got, x, e)
		}
		b = rest
	}
	if _, rest, e := ptr.Take(b); len(rest) != 0 || e != api.ErrShort {
		t.Errorf("left: % x, %d", rest, e)
	}
}

// P5.3: bytes that were taken are put again.
func TestBytesAgain(t *testing.T) {
	for seed := range int64(50) {
		p := somePage(seed)
		x, rest, e := ptr.Take(p[:])
		if got := append(ptr.Put(nil, x), rest...); !bytes.Equal(got, p[:]) || e != api.OK {
			t.Fatalf("page %d: % x, %d", seed, got, e)
		}
	}
}

// P5.3: a pointer that was made of a page fits it, of each kind but PtNone.
func TestMadeFits(t *testing.T) {
	for seed := range int64(20) {
		p := somePage(seed)
		for _, k := range kinds() {
			if x := ptr.Of(k, -1, 1<<20, 0, p); ptr.Fits(x, p) != (k != api.PtNone) {
				t.Errorf("page %d, kind %d", seed, k)
			}
		}
	}
	if !ptr.Fits(ptr.Of(api.PtChain, 4, 0, 1, api.Page{}), api.Page{}) {
		t.Error("a page of noughts")
	}
}

// P5.3: no page fits that differs within eight bytes that stand side by side.
func TestEightBytes(t *testing.T) {
	r := rand.New(rand.NewSource(2))
	for _, p := range []api.Page{{}, somePage(3)} {
		x := ptr.Of(api.PtBranch, 4, 5, 1, p)
		for first := 0; first+8 <= api.PageSize; first++ {
			for i := range 64 + 20 {
				by := r.Uint64() | 1
				if i < 64 {
					by = 1 << i
				}
				q := p
				for k := range 8 {
					q[first+k] ^= byte(by >> (8 * k))
				}
				if ptr.Fits(x, q) {
					t.Fatalf("at %d by %x: it fits", first, by)
				}
			}
		}
	}
}

// P5.2, R4: what is put is in memory of its own; what was handed in stays, spare room too.
func TestPutOwn(t *testing.T) {
	x := some()[2]
	for _, l := range lists() {
		b, room := roomy(l)
		was := bytes.Clone(room)
		got, again := ptr.Put(b, x), ptr.Put(b, x)
		if !bytes.Equal(room, was) {
			t.Errorf("%d bytes: what was handed in is changed", len(b))
		}
		scribble(got)
		if !bytes.Equal(room, was) || !bytes.Equal(again, append(bytes.Clone(l), slowBytes(x)...)) {
			t.Errorf("%d bytes: memory is shared", len(b))
		}
	}
}

// P5.2, R4: what is left is in memory of its own, beside an error too.
func TestTakeOwn(t *testing.T) {
	p := somePage(9)
	for _, many := range []int{0, 1, 16, 17, 18, 200} {
		b, room := roomy(p[:many])
		was := bytes.Clone(room)
		_, rest, e := ptr.Take(b)
		_, again, _ := ptr.Take(b)
		scribble(rest)
		want := p[:many]
		if e == api.OK {
			want = p[length:many]
		}
		if !bytes.Equal(room, was) || !bytes.Equal(again, want) {
			t.Errorf("%d bytes: memory is shared", many)
		}
	}
}

// P5.1, R4: a list of addresses is new memory.
func TestWhereOwn(t *testing.T) {
	x := ptr.Of(api.PtLeaf, 4, 5, 1, api.Page{})
	l := ptr.Where(x)
	l[0], l[1] = 9, 9
	if got := ptr.Where(x); !slices.Equal(got, []int{4, 5}) || x.Addr != at(4, 5) {
		t.Errorf("%v, %v", got, x)
	}
}

// R1, R3: the least and the greatest numbers, no bytes and many; told again, it is the same.
func TestExtremes(t *testing.T) {
	p := somePage(4)
	for _, a := range extremes() {
		for _, k := range kinds() {
			x := ptr.Of(k, a, a, math.MaxUint32, p)
			if x != ptr.Of(k, a, a, math.MaxUint32, p) || ptr.Right(x, a) != ptr.Right(x, a) || ptr.Right(x, a) {
				t.Errorf("kind %d, %d: %v", k, a, x)
			}
		}
	}
	long := bytes.Repeat(p[:], 1<<14)
	x, rest, e := ptr.Take(ptr.Put(long, some()[1]))
	if y, _, _ := ptr.Take(p[:]); x != y || len(rest) != len(long) || e != api.OK {
		t.Errorf("a long row: %v, %d bytes, %d", x, len(rest), e)
	}
}
