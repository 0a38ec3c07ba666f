package chain_test

import (
	"bytes"
	"math"
	"math/rand"
	"strings"
	"testing"

	"suture/api"
	"suture/chain"
	"suture/ptr"
)

// nextPtr: a pointer of a chain that may be.
func nextPtr() api.Ptr {
	return api.Ptr{Kind: 3, Addr: [2]uint16{9, 0}, Birth: 0x05060708, Sum: 0x1112131415161718}
}

// nextBytes: those of nextPtr, as a page has them.
const nextBytes = "\x03\x09\x00\x00\x00\x08\x07\x06\x05\x18\x17\x16\x15\x14\x13\x12\x11"

// noBytes: those of a next one that is none, as a page has them.
const noBytes = "\x00\x00\x00\x00\x00\x00\x00\x00\x00\x00\x00\x00\x00\x00\x00\x00\x00"

// with: the pointer that f makes of nextPtr.
func with(f func(*api.Ptr)) api.Ptr {
	x := nextPtr()
	f(&x)
	return x
}

// letters: so many of them.
func letters(n int) string {
	return strings.Repeat("q", n)
}

// count: so many bytes, no two that stand near each other the same.
func count(n int) []byte {
	b := make([]byte, n)
	for i := range b {
		b[i] = byte(i*7 + i/256)
	}
	return b
}

// goodBytes: bytes that a page may have.
func goodBytes() [][]byte {
	return [][]byte{
		[]byte("a"), {0}, {255}, []byte("ab"), {0, 0}, {1, 0}, {0, 1}, {3, 1, 65},
		[]byte(nextBytes), []byte(noBytes), count(16), count(17), count(18), count(100), count(127), count(128),
		count(199), count(200), make([]byte, 199), make([]byte, 200),
		bytes.Repeat([]byte{255}, 200), bytes.Repeat([]byte(nextBytes), 11),
	}
}

// badBytes: bytes that no page may have.
func badBytes() [][]byte {
	return [][]byte{
		nil, {}, make([]byte, 0, 40),
		count(201), count(202), make([]byte, 201), count(237), count(238), count(254), count(255), count(256), count(257),
		count(400), count(456), count(457), count(600), count(1 << 16), count(1<<16 + 1), count(1<<16 + 200),
	}
}

// goodNext: next ones that may be.
func goodNext() []api.Ptr {
	return []api.Ptr{
		{}, nextPtr(),
		with(func(x *api.Ptr) { x.Addr[0] = 4 }),
		with(func(x *api.Ptr) { x.Addr[0] = 255 }),
		with(func(x *api.Ptr) { x.Birth = 1 }),
		with(func(x *api.Ptr) { x.Birth = 1 << 30 }),
		with(func(x *api.Ptr) { x.Sum = 0 }),
		with(func(x *api.Ptr) { x.Sum = 1 }),
		with(func(x *api.Ptr) { x.Sum = math.MaxUint64 }),
		{Kind: 3, Addr: [2]uint16{4, 0}, Birth: 1},
	}
}

// badNext: next ones that may not be, each for one fault.
func badNext() []api.Ptr {
	l := []api.Ptr{
		{Kind: 1}, {Kind: 2}, {Kind: 3}, {Kind: 4}, {Kind: 255},
		{Addr: [2]uint16{1, 0}}, {Addr: [2]uint16{0, 1}}, {Addr: [2]uint16{9, 0}}, {Addr: [2]uint16{256, 0}}, {Addr: [2]uint16{0, 256}},
		{Birth: 1}, {Birth: 1 << 30}, {Birth: 1 << 31}, {Sum: 1}, {Sum: 1 << 63},
		{Kind: 1, Addr: [2]uint16{9, 10}, Birth: 5, Sum: 6}, {Kind: 2, Addr: [2]uint16{9, 10}, Birth: 5, Sum: 6},
		{Kind: 3, Addr: [2]uint16{9, 10}, Birth: 5, Sum: 6}, {Kind: 0, Addr: [2]uint16{9, 10}, Birth: 5, Sum: 6},
		{Kind: 3, Addr: [2]uint16{9, 0}}, {Kind: 3, Birth: 5}, {Kind: 3, Sum: 6},
	}
	for _, f := range []func(*api.Ptr){
		func(x *api.Ptr) { x.Kind = 0 },
		func(x *api.Ptr) { x.Kind = 1 },
		func(x *api.Ptr) { x.Kind = 2 },
		func(x *api.Ptr) { x.Kind = 4 },
		func(x *api.Ptr) { x.Kind |= 128 },
		func(x *api.Ptr) { x.Addr[0] = 0 },
		func(x *api.Ptr) { x.Addr[0] = 3 },
		func(x *api.Ptr) { x.Addr[0] = 256 },
		func(x *api.Ptr) { x.Addr[0] = 65535 },
		func(x *api.Ptr) { x.Addr[0] |= 256 },
		func(x *api.Ptr) { x.Addr[1] = 1 },
		func(x *api.Ptr) { x.Addr[1] = 9 },
		func(x *api.Ptr) { x.Addr[1] = 256 },
		func(x *api.Ptr) { x.Addr[0], x.Addr[1] = 0, 9 },
		func(x *api.Ptr) { x.Birth = 0 },
		func(x *api.Ptr) { x.Birth = 1<<30 + 1 },
		func(x *api.Ptr) { x.Birth = 1 << 31 },
		func(x *api.Ptr) { x.Birth = math.MaxUint32 },
	} {
		l = append(l, with(f))
	}
	return l
}

// slowNext: whether a next one may be, by the chapters' words.
func slowNext(x api.Ptr) bool {
	if x == (api.Ptr{}) {
		return true
	}
	return x.Kind == 3 && x.Addr[0] >= 4 && x.Addr[0] <= 255 && x.Addr[1] == 0 && x.Birth >= 1 && x.Birth <= 1<<30
}

// low: n as so many bytes, the lowest one first.
func low(n uint64, width int) []byte {
	var o []byte
	for range width {
		o = append(o, byte(n%256))
		n /= 256
	}
	return o
}

// slowBytes: those of a chain's page ahead of its noughts, by the chapter's words, of whatever bytes and pointer.
func slowBytes(b []byte, next api.Ptr) []byte {
	o := append([]byte{3, byte(len(b))}, b...)
	o = append(o, next.Kind)
	o = append(append(o, low(uint64(next.Addr[0]), 2)...), low(uint64(next.Addr[1]), 2)...)
	return append(append(o, low(uint64(next.Birth), 4)...), low(next.Sum, 8)...)
}

// page: the page of these bytes, then noughts.
func page(b []byte) api.Page {
	var p api.Page
	if len(b) > len(p) {
		panic("no room on the page")
	}
	copy(p[:], b)
	return p
}

// slowPage: a chain's page by the chapter's words.
func slowPage(b []byte, next api.Ptr) api.Page {
	return page(slowBytes(b, next))
}

// slowDecode: the bytes and the next one of a page, byte after byte; no if the page is none of any.
func slowDecode(p api.Page) (b []byte, next api.Ptr, ok bool) {
	if p[0] != 3 || p[1] < 1 || p[1] > 200 {
		return nil, api.Ptr{}, false
	}
	at := 2
	num := func(width int) (n uint64) {
		for i := range width {
			n += uint64(p[at]) << (8 * i)
			at++
		}
		return n
	}
	for range p[1] {
		b = append(b, byte(num(1)))
	}
	next = api.Ptr{Kind: uint8(num(1)), Addr: [2]uint16{uint16(num(2)), uint16(num(2))}, Birth: uint32(num(4)), Sum: num(8)}
	for at < 256 {
		if num(1) != 0 {
			return nil, api.Ptr{}, false
		}
	}
	if !slowNext(next) {
		return nil, api.Ptr{}, false
	}
	return b, next, true
}

// refused: the bytes and the next one are told to have no page.
func refused(t *testing.T, b []byte, next api.Ptr) {
	t.Helper()
	if p, e := chain.Encode(b, next); p != (api.Page{}) || e != api.ErrArg {
		t.Errorf("%d bytes, %v: % x, %d", len(b), next, p, e)
	}
}

// corrupt: the page is told to be of nothing.
func corrupt(t *testing.T, name string, p api.Page) {
	t.Helper()
	if b, next, e := chain.Decode(p); len(b) != 0 || next != (api.Ptr{}) || e != api.ErrCorrupt {
		t.Errorf("%s: % x, %v, %d", name, b, next, e)
	}
}

// checkPage: P8.1, P8.3: what is decoded has just this page, whatever the bytes; else it is corrupt.
func checkPage(t *testing.T, p api.Page) bool {
	t.Helper()
	want, wantNext, ok := slowDecode(p)
	if !ok {
		corrupt(t, "no chain's", p)
		return false
	}
	b, next, e := chain.Decode(p)
	if !bytes.Equal(b, want) || next != wantNext || e != api.OK {
		t.Errorf("% x: % x, %v, %d", p, b, next, e)
	}
	if again, e := chain.Encode(b, next); again != p || e != api.OK {
		t.Errorf("% x: another page: % x, %d", p, again, e)
	}
	return true
}

// P8.1, Encode: written out.
func TestEncodePlain(t *testing.T) {
	for i, x := range []struct {
		b    string
		next api.Ptr
		want string
	}{
		{"a", api.Ptr{}, "\x03\x01a"},
		{"\x00", api.Ptr{}, "\x03\x01"},
		{"a", nextPtr(), "\x03\x01a" + nextBytes},
		{"\x00\x00", nextPtr(), "\x03\x02\x00\x00" + nextBytes},
		{"abc", api.Ptr{Kind: 3, Addr: [2]uint16{255}, Birth: 1 << 30, Sum: 1}, "\x03\x03abc" + "\x03\xff\x00\x00\x00\x00\x00\x00\x40\x01\x00\x00\x00\x00\x00\x00\x00"},
		{letters(200), api.Ptr{}, "\x03\xc8" + letters(200)},
		{letters(200), nextPtr(), "\x03\xc8" + letters(200) + nextBytes},
	} {
		if got, e := chain.Encode([]byte(x.b), x.next); got != page([]byte(x.want)) || e != api.OK {
			t.Errorf("%d: % x, %d", i, got, e)
		}
	}
}

// P8.1, Encode: all bytes and next ones that may be.
func TestEncode(t *testing.T) {
	for _, b := range goodBytes() {
		for _, next := range goodNext() {
			if got, e := chain.Encode(b, next); got != slowPage(b, next) || e != api.OK {
				t.Errorf("% x, %v: % x, %d", b, next, got, e)
			}
		}
	}
}

// P8.1, Encode: bytes that may not be, next ones that may not, and both; a page of noughts beside the error.
func TestEncodeBad(t *testing.T) {
	for _, b := range badBytes() {
		for _, next := range append(goodNext(), badNext()...) {
			refused(t, b, next)
		}
	}
	for _, b := range goodBytes() {
		for _, next := range badNext() {
			refused(t, b, next)
		}
	}
}

// P8.1, Encode: every length.
func TestEncodeLengths(t *testing.T) {
	for n := range 1000 {
		for _, next := range []api.Ptr{{}, nextPtr()} {
			b := count(n)
			if n < 1 || n > 200 {
				refused(t, b, next)
			} else if got, e := chain.Encode(b, next); got != slowPage(b, next) || e != api.OK {
				t.Errorf("%d bytes: % x, %d", n, got, e)
			}
		}
	}
}

// P8.1, Encode: every kind, every address, births at their ends.
func TestEncodeNext(t *testing.T) {
	b := []byte("b")
	check := func(next api.Ptr) {
		t.Helper()
		if !slowNext(next) {
			refused(t, b, next)
		} else if got, e := chain.Encode(b, next); got != slowPage(b, next) || e != api.OK {
			t.Errorf("%v: % x, %d", next, got, e)
		}
	}
	for kind := range 256 {
		check(api.Ptr{Kind: uint8(kind)})
		check(with(func(x *api.Ptr) { x.Kind = uint8(kind) }))
		check(with(func(x *api.Ptr) { x.Kind, x.Addr[1] = uint8(kind), 10 }))
	}
	for a := range 1 << 16 {
		check(with(func(x *api.Ptr) { x.Addr[0] = uint16(a) }))
		check(with(func(x *api.Ptr) { x.Addr[1] = uint16(a) }))
		check(with(func(x *api.Ptr) { x.Addr[0], x.Addr[1] = uint16(a), uint16(a) }))
	}
	for _, birth := range []uint32{0, 1, 2, 255, 256, 1<<30 - 1, 1 << 30, 1<<30 + 1, 1 << 31, math.MaxUint32} {
		check(with(func(x *api.Ptr) { x.Birth = birth }))
		check(api.Ptr{Birth: birth})
	}
	for bit := range 64 {
		check(with(func(x *api.Ptr) { x.Sum = 1 << bit }))
		check(api.Ptr{Sum: 1 << bit})
	}
}

// P8.1: all parts of a next one together, held against the words.
func TestNextParts(t *testing.T) {
	seen := map[bool]int{}
	for kind := range uint8(5) {
		for _, a := range []uint16{0, 3, 4, 255, 256} {
			for _, b := range []uint16{0, 1, 4, 256} {
				for _, birth := range []uint32{0, 1, 1 << 30, 1<<30 + 1} {
					for _, sum := range []uint64{0, 7} {
						next := api.Ptr{Kind: kind, Addr: [2]uint16{a, b}, Birth: birth, Sum: sum}
						want := slowNext(next)
						seen[want]++
						if _, e := chain.Encode([]byte("b"), next); (e == api.OK) != want {
							t.Errorf("%v: %d", next, e)
						}
						if checkPage(t, slowPage([]byte("b"), next)) != want {
							t.Errorf("%v: its page", next)
						}
					}
				}
			}
		}
	}
	if seen[true] != 9 || seen[false] < 500 {
		t.Error(seen)
	}
}

// P8.1, Decode: written out.
func TestDecodePlain(t *testing.T) {
	for i, x := range []struct {
		p    string
		want string
		next api.Ptr
	}{
		{"\x03\x01a", "a", api.Ptr{}},
		{"\x03\x01", "\x00", api.Ptr{}},
		{"\x03\x05", "\x00\x00\x00\x00\x00", api.Ptr{}},
		{"\x03\x01\x03" + nextBytes, "\x03", nextPtr()},
		{"\x03\x11" + nextBytes, nextBytes, api.Ptr{}},
		{"\x03\x02ab\x03\x04\x00\x00\x00\x01", "ab", api.Ptr{Kind: 3, Addr: [2]uint16{4}, Birth: 1}},
		{"\x03\xc8", strings.Repeat("\x00", 200), api.Ptr{}},
		{"\x03\xc8" + letters(200) + nextBytes, letters(200), nextPtr()},
	} {
		b, next, e := chain.Decode(page([]byte(x.p)))
		if string(b) != x.want || next != x.next || e != api.OK {
			t.Errorf("%d: % x, %v, %d", i, b, next, e)
		}
	}
}

// P8.1, Decode: pages that are no chain's, each for one fault.
func TestDecodeBad(t *testing.T) {
	for name, b := range map[string]string{
		"noughts":                          "",
		"no kind":                          "\x00\x01a" + nextBytes,
		"a leaf's":                         "\x01\x01a" + nextBytes,
		"a leaf's of nothing":              "\x01\x00",
		"a branch's":                       "\x02\x01a" + nextBytes,
		"a kind unknown":                   "\x04\x01a" + nextBytes,
		"a kind with a bit more":           "\x83\x01a" + nextBytes,
		"no bytes":                         "\x03\x00",
		"no bytes, a next one":             "\x03\x00" + nextBytes,
		"no bytes, but bytes":              "\x03\x00a",
		"a byte more than a piece":         "\x03\xc9",
		"a byte more, a next one":          "\x03\xc9" + letters(201) + nextBytes,
		"a next one up to the page's end":  "\x03\xed" + letters(237) + nextBytes,
		"a next one beyond the page":       "\x03\xee" + letters(238) + nextBytes[:16],
		"bytes up to the page's end":       "\x03\xfe" + letters(254),
		"bytes beyond the page":            "\x03\xff" + letters(254),
		"noughts beyond the page":          "\x03\xff",
		"a next one that is a leaf":        "\x03\x01a\x01\x09\x00\x0a" + nextBytes[4:],
		"a next one that is a branch":      "\x03\x01a\x02\x09\x00\x0a" + nextBytes[4:],
		"a next one of a kind unknown":     "\x03\x01a\x04" + nextBytes[1:],
		"a next one of no kind":            "\x03\x01a\x00" + nextBytes[1:],
		"a next one at an anchor":          "\x03\x01a\x03\x03" + nextBytes[2:],
		"a next one off all disks":         "\x03\x01a\x03\x00\x01" + nextBytes[3:],
		"a next one at no page":            "\x03\x01a\x03\x00" + nextBytes[2:],
		"a next one at two pages":          "\x03\x01a\x03\x09\x00\x01" + nextBytes[4:],
		"a next one at two, far":           "\x03\x01a\x03\x09\x00\x00\x01" + nextBytes[5:],
		"a next one of no birth":           "\x03\x01a" + nextBytes[:5] + "\x00\x00\x00\x00" + nextBytes[9:],
		"a next one born too late":         "\x03\x01a" + nextBytes[:5] + "\x01\x00\x00\x40" + nextBytes[9:],
		"a kind alone":                     "\x03\x01a\x03",
		"an address alone":                 "\x03\x01a\x00\x09",
		"a birth alone":                    "\x03\x01a\x00\x00\x00\x00\x00\x01",
		"a sum alone":                      "\x03\x01a" + noBytes[:16] + "\x01",
		"a byte behind none":               "\x03\x01a" + noBytes + "\x01",
		"a byte behind a next one":         "\x03\x01a" + nextBytes + "\x01",
		"a byte behind a nought":           "\x03\x01a" + nextBytes + "\x00\x80",
		"a next one behind a next one":     "\x03\x01a" + nextBytes + nextBytes,
		"a next one behind none":           "\x03\x01a" + noBytes + nextBytes,
		"a byte at the end":                "\x03\x01a" + nextBytes + strings.Repeat("\x00", 235) + "\x01",
		"a byte at the end, behind none":   "\x03\x01a" + strings.Repeat("\x00", 252) + "\x01",
		"a byte at the end of a full page": "\x03\xc8" + letters(200) + nextBytes + strings.Repeat("\x00", 36) + "\x01",
		"a byte behind a full page":        "\x03\xc8" + letters(200) + nextBytes + "\x01",
		"two bytes, one counted":           "\x03\x01ab" + nextBytes,
		"one byte, two counted":            "\x03\x02a" + nextBytes,
	} {
		p := page([]byte(b))
		corrupt(t, name, p)
		if _, _, ok := slowDecode(p); ok {
			t.Errorf("%s: the words have bytes", name)
		}
	}
}

// P8.1, Decode: pages of what may not be, where it has room on one.
func TestDecodeBadParts(t *testing.T) {
	tried := 0
	for _, b := range append(goodBytes(), badBytes()...) {
		for _, next := range append(goodNext(), badNext()...) {
			own := slowBytes(b, next)
			if len(b) > 255 || len(own) > 256 || len(b) >= 1 && len(b) <= 200 && slowNext(next) {
				continue
			}
			tried++
			corrupt(t, "what may not be", page(own))
		}
	}
	if tried < 800 {
		t.Error(tried)
	}
}

// P8.1, Decode: every kind, and every length, of bytes that are there and of a page else of noughts.
func TestDecodeLengths(t *testing.T) {
	for n := range 256 {
		for kind := range 256 {
			ok := kind == 3 && n >= 1 && n <= 200
			p := api.Page{byte(kind), byte(n)}
			if checkPage(t, p) != ok {
				t.Errorf("kind %d, %d noughts: not %v", kind, n, ok)
			}
			for _, next := range []string{noBytes, nextBytes} {
				b := append(append([]byte{byte(kind), byte(n)}, bytes.Repeat([]byte{9}, n)...), next...)
				if checkPage(t, page(b[:min(len(b), 256)])) != ok {
					t.Errorf("kind %d, %d bytes: not %v", kind, n, ok)
				}
			}
		}
	}
}

// P8.1, P8.3: a chain's page with one byte that is another one: something else, or nothing.
func TestOneByte(t *testing.T) {
	other, none := 0, 0
	for i, b := range goodBytes() {
		for _, next := range []api.Ptr{{}, nextPtr()} {
			p := slowPage(b, next)
			for at := range p {
				for by := 1; by < 256; by++ {
					if i%6 != 0 && at > 1 && by&(by-1) != 0 {
						continue // for most bytes one bit is as good as many
					}
					q := p
					q[at] ^= byte(by)
					if checkPage(t, q) {
						other++
					} else {
						none++
					}
					if at == 0 || at >= 2+len(b)+17 {
						corrupt(t, "a byte ahead or behind", q)
					}
					if got, n, e := chain.Decode(q); e == api.OK && n == next && bytes.Equal(got, b) {
						t.Fatalf("byte %d by %d: the same", at, by)
					}
				}
			}
		}
	}
	if other < 100000 || none < 100000 {
		t.Error(other, none)
	}
}

// P8.1, P8.3: any page of whatever bytes, from wholly any to nearly a chain's.
func TestAnyPage(t *testing.T) {
	r := rand.New(rand.NewSource(8))
	seen := map[bool]int{}
	for range 100000 {
		var p api.Page
		switch r.Intn(4) {
		case 0:
			r.Read(p[:])
		case 1:
			r.Read(p[:])
			p[0], p[1] = 3, byte(r.Intn(256))
		case 2:
			p[0] = 3
			for i := range 30 {
				p[1+i] = byte(r.Intn(5))
			}
		case 3:
			p = slowPage(count(1+r.Intn(200)), goodNext()[r.Intn(len(goodNext()))])
			for range 1 + r.Intn(3) {
				p[r.Intn(220)] = byte(r.Intn(20))
			}
		}
		seen[checkPage(t, p)]++
	}
	for k := range 256 {
		checkPage(t, api.Page(bytes.Repeat([]byte{byte(k)}, 256)))
	}
	if seen[true] < 2000 || seen[false] < 10000 {
		t.Error(seen)
	}
}

// P8.3: what is encoded is decoded as it is.
func TestBack(t *testing.T) {
	for _, b := range goodBytes() {
		for _, next := range goodNext() {
			p, e := chain.Encode(b, next)
			got, gotNext, e2 := chain.Decode(p)
			if !bytes.Equal(got, b) || gotNext != next || e != api.OK || e2 != api.OK {
				t.Errorf("% x, %v: % x, %v, %d, %d", b, next, got, gotNext, e, e2)
			}
			if again, e := chain.Encode(got, gotNext); again != p || e != api.OK {
				t.Errorf("% x, %v: another page, %d", b, next, e)
			}
		}
	}
}

// P8.3: any bytes and next ones, there and back; unlike ones have unlike pages.
func TestAnyBack(t *testing.T) {
	type told struct {
		b    string
		next api.Ptr
	}
	r := rand.New(rand.NewSource(9))
	pages := map[api.Page]told{}
	for range 20000 {
		b := make([]byte, 1+r.Intn(200)>>r.Intn(8))
		for i := range b {
			b[i] = byte(r.Intn(3) * 127)
		}
		var next api.Ptr
		if r.Intn(3) > 0 {
			next = ptr.Of(api.PtChain, 4+r.Intn(252), r.Intn(256), uint32(1+r.Intn(1<<30)), api.Page{byte(r.Intn(256))})
		}
		p, e := chain.Encode(b, next)
		got, gotNext, e2 := chain.Decode(p)
		if p != slowPage(b, next) || !bytes.Equal(got, b) || gotNext != next || e != api.OK || e2 != api.OK {
			t.Fatalf("% x, %v: % x, %v, %d, %d", b, next, got, gotNext, e, e2)
		}
		if was, there := pages[p]; there && was != (told{string(b), next}) {
			t.Fatalf("%v and % x, %v have one page", was, b, next)
		}
		pages[p] = told{string(b), next}
	}
}

// P8.2, Cut: written out.
func TestCutPlain(t *testing.T) {
	a, b, c := strings.Repeat("a", 200), strings.Repeat("b", 200), strings.Repeat("c", 200)
	for i, want := range [][]string{
		{}, {"a"}, {"\x00"}, {"abc"}, {a[:199]}, {a},
		{a, "b"}, {a, "\x00"}, {a, b[:199]}, {a, b},
		{a, b, "c"}, {a, b, c[:199]}, {a, b, c}, {a, b, c, "d"}, {a, b, c, a, b, c, a, b, c, a, b},
	} {
		got := chain.Cut([]byte(strings.Join(want, "")))
		if len(got) != len(want) {
			t.Errorf("%d: %d pieces", i, len(got))
			continue
		}
		for k := range got {
			if string(got[k]) != want[k] {
				t.Errorf("%d: piece %d: %q", i, k, got[k])
			}
		}
	}
	if len(chain.Cut(nil)) != 0 || len(chain.Cut([]byte{})) != 0 || len(chain.Cut(make([]byte, 0, 400))) != 0 {
		t.Error("nothing has pieces")
	}
}

// checkCut: P8.2, P8.3: ChainBytes each, the last one with what is left; put together, they are the value.
func checkCut(t *testing.T, val []byte) {
	t.Helper()
	l := chain.Cut(val)
	at := 0
	for i, x := range l {
		if i < len(l)-1 && len(x) != 200 || len(x) < 1 || len(x) > 200 || !bytes.Equal(x, val[at:min(at+len(x), len(val))]) {
			t.Errorf("a value of %d: piece %d of %d", len(val), i, len(x))
			return
		}
		at += len(x)
	}
	if at != len(val) || len(l) != chain.Many(len(val)) || !bytes.Equal(bytes.Join(l, nil), val) {
		t.Errorf("a value of %d: %d pieces of %d bytes, Many: %d", len(val), len(l), at, chain.Many(len(val)))
	}
}

// P8.2, P8.3: values of every size up to MaxValue and well beyond.
func TestCut(t *testing.T) {
	for n := range 1500 {
		checkCut(t, count(n))
		checkCut(t, make([]byte, n))
	}
	for _, n := range []int{1<<16 - 1, 1 << 16, 1<<16 + 1, 1 << 20, 200 << 10, 200<<10 + 1} {
		checkCut(t, count(n))
	}
}

// P8.2, Many: written out.
func TestManyPlain(t *testing.T) {
	full := math.MaxInt / 200 // pieces of 200 bytes each, as many as an int can count the bytes of
	for _, x := range []struct{ size, want int }{
		{math.MinInt, 0}, {math.MinInt + 1, 0}, {math.MinInt32, 0}, {-201, 0}, {-200, 0}, {-199, 0}, {-2, 0}, {-1, 0}, {0, 0},
		{1, 1}, {2, 1}, {199, 1}, {200, 1}, {201, 2}, {399, 2}, {400, 2}, {401, 3}, {599, 3}, {600, 3}, {601, 4}, {800, 4}, {801, 5}, {1000, 5},
		{65535, 328}, {65536, 328}, {2147483600, 10737418}, {2147483601, 10737419}, {2147483647, 10737419},
		{200*full - 199, full}, {200*full - 1, full}, {200 * full, full}, {200*full + 1, full + 1}, {math.MaxInt - 1, full + 1}, {math.MaxInt, full + 1},
	} {
		if got := chain.Many(x.size); got != x.want {
			t.Errorf("%d: %d, not %d", x.size, got, x.want)
		}
	}
}

// P8.2, Many: counted, piece after piece.
func TestMany(t *testing.T) {
	want := 0
	for size := range 5000 {
		if size > 200*want {
			want++
		}
		if got := chain.Many(size); got != want {
			t.Errorf("%d: %d, not %d", size, got, want)
		}
		if got := chain.Many(-size); got != 0 {
			t.Errorf("%d: %d", -size, got)
		}
	}
}

// chained: the pages of a value, from the last one on, each behind the one that tells of it.
func chained(t *testing.T, val []byte) []api.Page {
	t.Helper()
	l := chain.Cut(val)
	pages := make([]api.Page, len(l))
	var next api.Ptr
	for i := len(l) - 1; i >= 0; i-- {
		p, e := chain.Encode(l[i], next)
		if e != api.OK {
			t.Fatalf("a value of %d: piece %d: %d", len(val), i, e)
		}
		pages[i] = p
		next = ptr.Of(api.PtChain, 4+i, 0, 7, p)
	}
	return pages
}

// P8.3: a value in a chain's pages is found again, page after page; each next one fits the page behind.
func TestChained(t *testing.T) {
	for _, n := range []int{1, 17, 199, 200, 201, 399, 400, 401, 599, 600} {
		val := count(n)
		pages := chained(t, val)
		if len(pages) != chain.Many(n) {
			t.Errorf("%d: %d pages", n, len(pages))
		}
		var got []byte
		for i, p := range pages {
			b, next, e := chain.Decode(p)
			if e != api.OK {
				t.Fatalf("%d: page %d: %d", n, i, e)
			}
			got = append(got, b...)
			if last := i == len(pages)-1; ptr.None(next) != last || !last && !ptr.Fits(next, pages[i+1]) {
				t.Errorf("%d: page %d: next %v", n, i, next)
			}
		}
		if !bytes.Equal(got, val) {
			t.Errorf("%d: another value", n)
		}
	}
}

// scribble: all bytes are others, those of spare room too.
func scribble(b []byte) {
	b = b[:cap(b)]
	for i := range b {
		b[i] ^= 255
	}
}

// roomy: the same bytes, with spare room behind them.
func roomy(b []byte) []byte {
	return append(make([]byte, 0, len(b)+500), b...)
}

// P8.1, R4: what is decoded is in memory of its own, each time.
func TestDecodeMemory(t *testing.T) {
	for _, b := range goodBytes() {
		for _, next := range []api.Ptr{{}, nextPtr()} {
			p := slowPage(b, next)
			got, _, e := chain.Decode(p)
			again, _, _ := chain.Decode(p)
			scribble(got)
			if p != slowPage(b, next) || !bytes.Equal(again, b) || e != api.OK {
				t.Errorf("% x: memory is shared, %d", b, e)
			}
		}
	}
}

// P8.2, R4: pieces are in memory of their own, each time, each of them.
func TestCutMemory(t *testing.T) {
	for _, n := range []int{0, 1, 2, 199, 200, 201, 400, 401, 600, 601, 2000} {
		val := roomy(count(n))
		was := string(val[:cap(val)])
		l, again := chain.Cut(val), chain.Cut(val)
		for i := range l {
			scribble(l[i])
			if string(bytes.Join(l[i+1:], nil)) != string(count(n)[min(200*(i+1), n):]) {
				t.Errorf("%d: pieces share memory", n)
			}
		}
		if string(val[:cap(val)]) != was || !bytes.Equal(bytes.Join(again, nil), count(n)) {
			t.Errorf("%d: memory is shared", n)
		}
		clear(l[:cap(l)])
		scribble(val)
		if !bytes.Equal(bytes.Join(again, nil), count(n)) {
			t.Errorf("%d: pieces are the value's memory", n)
		}
	}
}

// R4: what is handed in stays as it is, spare room too.
func TestHandedIn(t *testing.T) {
	for _, b := range append(goodBytes(), badBytes()...) {
		given := roomy(b)
		was := string(given[:cap(given)])
		p, e := chain.Encode(given, nextPtr())
		chain.Cut(given)
		if string(given[:cap(given)]) != was {
			t.Errorf("% x: what was handed in is changed", b)
		}
		scribble(given)
		if e == api.OK && p != slowPage(b, nextPtr()) {
			t.Errorf("% x: the page is another one", b)
		}
	}
}

// R1, R3: long values, great numbers; told again, it is the same.
func TestExtremes(t *testing.T) {
	long := count(1 << 22)
	great := api.Ptr{Kind: 255, Addr: [2]uint16{65535, 65535}, Birth: math.MaxUint32, Sum: math.MaxUint64}
	for _, next := range []api.Ptr{{}, nextPtr(), great} {
		refused(t, long, next)
		refused(t, nil, next)
	}
	refused(t, []byte("b"), great)
	checkCut(t, long)
	for _, b := range goodBytes() {
		p, _ := chain.Encode(b, nextPtr())
		again, _ := chain.Encode(b, nextPtr())
		got, next, _ := chain.Decode(p)
		got2, next2, _ := chain.Decode(p)
		if p != again || !bytes.Equal(got, got2) || next != next2 {
			t.Errorf("% x: told again it is another one", b)
		}
	}
}
