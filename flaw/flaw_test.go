package flaw_test

import (
	"bytes"
	"math"
	"math/rand"
	"slices"
	"testing"

	"suture/api"
	"suture/flaw"
	"suture/vdev"
)

// full: a page of one byte all over.
func full(b byte) api.Page {
	return api.Page(bytes.Repeat([]byte{b}, api.PageSize))
}

// torn: a page of two bytes, half and half.
func torn(first, second byte) api.Page {
	return api.Page(append(bytes.Repeat([]byte{first}, 128), bytes.Repeat([]byte{second}, 128)...))
}

// disk: so many pages, page n full of n (from 256 on of n-256 again); a write at each of these places, the i-th full of 200+i.
func disk(size int, places ...int) api.Disk {
	var d api.Disk
	for n := range size {
		d.Pages = append(d.Pages, full(byte(n)))
	}
	for i, at := range places {
		d.Cache = append(d.Cache, api.Write{At: at, Data: full(byte(200 + i))})
	}
	return d
}

// bad: that disk, and these pages in Bad.
func bad(d api.Disk, places ...int) api.Disk {
	d.Bad = places
	return d
}

// off: that disk detached, and else as it is.
func off(d api.Disk) api.Disk {
	d.Off = true
	return d
}

// long: so many writes, with bytes that differ within a page, over all pages of a disk of 40.
func long(many int) api.Disk {
	r := rand.New(rand.NewSource(4))
	d := disk(40)
	for range many {
		w := api.Write{At: r.Intn(40)}
		r.Read(w.Data[:])
		d.Cache = append(d.Cache, w)
	}
	return d
}

// mayBe: disks that may be, by name.
func mayBe() map[string]api.Disk {
	return map[string]api.Disk{
		"the least":             disk(32),
		"the greatest":          disk(256, 255, 0, 17),
		"lists of nothing":      {Pages: disk(32).Pages, Cache: []api.Write{}, Bad: []int{}},
		"one write":             disk(32, 5),
		"writes":                disk(32, 5, 6, 7, 0, 31),
		"several at one place":  disk(32, 5, 5, 6, 5, 6),
		"bad":                   bad(disk(32), 0, 9, 31),
		"bad and written":       bad(disk(32, 9, 3, 9, 31), 0, 3, 9, 30, 31),
		"one write, to be full": long(api.MaxCache - 1),
		"a full cache":          bad(long(api.MaxCache), 0, 7, 39),
		"detached":              off(disk(32)),
		"detached and bad":      off(bad(disk(33), 4, 32)),
	}
}

// mayNotBe: disks that may not be, by name.
func mayNotBe() map[string]api.Disk {
	return map[string]api.Disk{
		"nothing":                 {},
		"no pages, but the rest":  off(bad(disk(0, 0, -1, 1), 0, 1)),
		"one page":                bad(disk(1, 0, 1, 0), 0, 1),
		"too small":               bad(disk(31, 30, 31), 30),
		"too great":               bad(disk(257, 256, 257, 0), 0, 256),
		"far too great":           bad(disk(1000, 999, 300, 999), 300, 998, 999),
		"too many writes":         long(api.MaxCache + 1),
		"writes off it":           disk(32, -1, 4, 32, math.MinInt, 5, math.MaxInt, 4),
		"bad twice":               bad(disk(32, 7), 3, 7, 7, 7, 9),
		"bad, not rising":         bad(disk(32, 7, 3), 9, 7, 3, 8, 7),
		"bad off it":              bad(disk(32, 40, -1, 4), -1, 4, 5, 40),
		"bad far off it":          bad(disk(32, math.MaxInt, math.MinInt), math.MinInt, 2, math.MaxInt),
		"detached, with writes":   off(disk(32, 5, 6, 5)),
		"detached, bad, writes":   off(bad(disk(32, 5, 6, 7), 5, 6, 7, 8)),
		"detached, all of it odd": off(bad(disk(20, 19, 20, -5, 19), 20, 19, 19)),
	}
}

// each: gives all of these disks with their names, in an order.
func each(yield func(name string, d api.Disk) bool) {
	for i, m := range []map[string]api.Disk{mayBe(), mayNotBe()} {
		var names []string
		for name := range m {
			names = append(names, name)
		}
		slices.Sort(names)
		for _, name := range names {
			if !yield([]string{"", "wrong: "}[i]+name, m[name]) {
				return
			}
		}
	}
}

// twin: a copy that is made here.
func twin(d api.Disk) api.Disk {
	return api.Disk{Pages: slices.Clone(d.Pages), Cache: slices.Clone(d.Cache), Bad: slices.Clone(d.Bad), Off: d.Off}
}

// like: the same in all parts; a list of nothing beside none.
func like(a, b api.Disk) bool {
	return slices.Equal(a.Pages, b.Pages) && slices.Equal(a.Cache, b.Cache) && slices.Equal(a.Bad, b.Bad) && a.Off == b.Off
}

// slowCrash: byte by byte, by the chapter's words.
func slowCrash(d api.Disk, picks []byte) api.Disk {
	c := twin(d)
	c.Cache = nil
	for i, w := range d.Cache {
		pick := 0
		if i < len(picks) {
			pick = int(picks[i]) % 3
		}
		if pick == 0 || w.At < 0 || w.At >= len(c.Pages) {
			continue
		}
		for j, b := range w.Data {
			if pick == 1 || j < api.PageSize/2 {
				c.Pages[w.At][j] = b
			}
		}
		c.Bad = slices.DeleteFunc(c.Bad, func(at int) bool { return at == w.At })
	}
	return c
}

// P4.1: each byte as a pick: by its rest by 3.
func TestCrashEachPick(t *testing.T) {
	for b := range 256 {
		want := []api.Page{full(5), full(200), torn(200, 5)}[b%3]
		c := flaw.Crash(bad(disk(32, 5), 4, 5, 6), byte(b))
		left := []int{4, 6}
		if b%3 == 0 {
			left = []int{4, 5, 6}
		}
		if c.Pages[5] != want || !slices.Equal(c.Bad, left) || len(c.Cache) != 0 || c.Off {
			t.Errorf("pick %d: %v, bad %v", b, c.Pages[5][126:130], c.Bad)
		}
	}
}

// P4.1: a pick for each write, at its place; as many picks, fewer, more, none.
func TestCrashPicks(t *testing.T) {
	n := full
	for i, x := range []struct {
		picks []byte
		want  [4]api.Page // pages 5 to 8
	}{
		{nil, [4]api.Page{n(5), n(6), n(7), n(8)}},
		{[]byte{}, [4]api.Page{n(5), n(6), n(7), n(8)}},
		{[]byte{0, 3, 252, 255}, [4]api.Page{n(5), n(6), n(7), n(8)}},
		{[]byte{1}, [4]api.Page{n(200), n(6), n(7), n(8)}},
		{[]byte{2, 1}, [4]api.Page{torn(200, 5), n(201), n(7), n(8)}},
		{[]byte{0, 1, 2}, [4]api.Page{n(5), n(201), torn(202, 7), n(8)}},
		{[]byte{2, 0, 1, 2}, [4]api.Page{torn(200, 5), n(6), n(202), torn(203, 8)}},
		{[]byte{254, 253, 3, 4}, [4]api.Page{torn(200, 5), n(201), n(7), n(203)}},
		{[]byte{0, 0, 0, 1, 1, 2, 1, 2}, [4]api.Page{n(5), n(6), n(7), n(203)}},
		{[]byte{1, 1, 1, 1, 2, 2, 2, 2}, [4]api.Page{n(200), n(201), n(202), n(203)}},
	} {
		want := disk(32)
		copy(want.Pages[5:], x.want[:])
		if c := flaw.Crash(disk(32, 5, 6, 7, 8), x.picks...); !like(c, want) {
			t.Errorf("case %d: %v", i, x.picks)
		}
	}
	if c := flaw.Crash(disk(32), 1, 2, 1); !like(c, disk(32)) {
		t.Error("picks, and no writes")
	}
}

// P4.1: several writes at one place, in order: the half that is not new is as the writes ahead left it.
func TestCrashOnePlace(t *testing.T) {
	for _, x := range []struct {
		picks []byte
		want  api.Page
	}{
		{[]byte{1, 1, 1}, full(202)},
		{[]byte{1, 1, 0}, full(201)},
		{[]byte{1, 0, 0}, full(200)},
		{[]byte{1, 2, 0}, torn(201, 200)},
		{[]byte{0, 1, 2}, torn(202, 201)},
		{[]byte{1, 0, 2}, torn(202, 200)},
		{[]byte{2, 0, 2}, torn(202, 5)},
		{[]byte{2, 2, 2}, torn(202, 5)},
		{[]byte{2, 2, 0}, torn(201, 5)},
		{[]byte{1, 2, 2}, torn(202, 200)},
		{[]byte{2, 1, 0}, full(201)},
		{[]byte{0, 0, 0}, full(5)},
	} {
		want := disk(32)
		want.Pages[5] = x.want
		if c := flaw.Crash(disk(32, 5, 5, 5), x.picks...); !like(c, want) {
			t.Errorf("%v: %v", x.picks, c.Pages[5][126:130])
		}
	}
}

// P4.1: a write at a bad page: whole and torn it can be read again, dropped it can't; others stay bad.
func TestCrashBad(t *testing.T) {
	for _, x := range []struct {
		picks []byte
		left  []int
		want  api.Page // page 5
	}{
		{nil, []int{4, 5, 6, 31}, full(5)},
		{[]byte{0, 1}, []int{4, 5, 31}, full(5)},
		{[]byte{1}, []int{4, 6, 31}, full(200)},
		{[]byte{2}, []int{4, 6, 31}, torn(200, 5)},
		{[]byte{2, 2, 0}, []int{4, 31}, torn(200, 5)},
		{[]byte{0, 0, 1}, []int{4, 6, 31}, full(202)},
		{[]byte{0, 0, 2}, []int{4, 6, 31}, torn(202, 5)},
		{[]byte{1, 2, 0, 1}, []int{4}, full(200)},
	} {
		d := bad(disk(32, 5, 6, 5, 31), 4, 5, 6, 31)
		c := flaw.Crash(d, x.picks...)
		if !slices.Equal(c.Bad, x.left) || c.Pages[5] != x.want || !like(c, slowCrash(d, x.picks)) {
			t.Errorf("%v: bad %v, not %v", x.picks, c.Bad, x.left)
		}
		for at := range 32 {
			p, e := vdev.Read(c, at)
			if slices.Contains(x.left, at) && e != api.ErrRead || !slices.Contains(x.left, at) && (e != api.OK || p != c.Pages[at]) {
				t.Errorf("%v: page %d: %d", x.picks, at, e)
			}
		}
	}
}

// P4.1: writes off the disk are dropped, each with the pick at its place.
func TestCrashOffTheDisk(t *testing.T) {
	d := bad(disk(32, -1, 5, 32, math.MaxInt, 6, math.MinInt, 7, 31), 5, 31)
	want := disk(32)
	want.Pages[5], want.Pages[6], want.Pages[31] = full(201), torn(204, 6), full(207)
	if c := flaw.Crash(d, 1, 1, 1, 2, 2, 2, 0, 1); !like(c, want) {
		t.Error("picks shifted, or a write off the disk told")
	}
	if c := flaw.Crash(disk(0, 0, 1, -1), 1, 1, 1); !like(c, api.Disk{}) {
		t.Error("no pages")
	}
	if c := flaw.Crash(bad(disk(32, 32, -1), -1, 32), 1, 2); !like(c, bad(disk(32), -1, 32)) {
		t.Error("what is bad off the disk")
	}
}

// P4.1: detached stays detached; what a detached disk has not flushed (it may have nothing) is settled as well.
func TestCrashDetached(t *testing.T) {
	if c := flaw.Crash(off(bad(disk(32), 4)), 1, 2); !like(c, off(bad(disk(32), 4))) {
		t.Error("without writes")
	}
	want := off(bad(disk(32), 8))
	want.Pages[6], want.Pages[7] = full(201), torn(202, 7)
	if c := flaw.Crash(off(bad(disk(32, 5, 6, 7), 6, 7, 8)), 0, 1, 2); !like(c, want) {
		t.Error("with writes")
	}
	if c := flaw.Crash(disk(32, 5), 1); c.Off {
		t.Error("detached by a crash")
	}
}

// P4.1: each disk, with picks of all kinds, as the words make it byte by byte.
func TestCrashSlow(t *testing.T) {
	r := rand.New(rand.NewSource(41))
	for name, d := range each {
		for _, many := range []int{0, 1, 2, 3, len(d.Cache) - 1, len(d.Cache), len(d.Cache) + 1, 2*len(d.Cache) + 5} {
			picks := make([]byte, max(many, 0))
			r.Read(picks)
			c := flaw.Crash(d, picks...)
			if !like(c, slowCrash(d, picks)) {
				t.Errorf("%s: %d picks", name, len(picks))
			}
			if vdev.May(d) && !vdev.May(c) {
				t.Errorf("%s: %d picks: it may not be", name, len(picks))
			}
		}
	}
}

// P4.2, Flip: that byte of that page, and nothing else.
func TestFlip(t *testing.T) {
	for name, d := range each {
		for _, at := range []int{0, 1, 5, len(d.Pages) / 2, len(d.Pages) - 1} {
			for _, offset := range []int{0, 1, 127, 128, 255} {
				for _, by := range []byte{0, 1, 128, 255} {
					if at < 0 || at >= len(d.Pages) {
						continue
					}
					want := twin(d)
					want.Pages[at][offset] ^= by
					if f, e := flaw.Flip(d, at, offset, by); e != api.OK || !like(f, want) {
						t.Fatalf("%s: page %d, byte %d, by %d: %d", name, at, offset, by, e)
					}
				}
			}
		}
	}
}

// P4.2, Flip: put together is xor, of each byte with each.
func TestFlipXor(t *testing.T) {
	d := disk(256)
	for at := range 256 {
		by := byte(at*37 + 11)
		f, e := flaw.Flip(d, at, at, by)
		if e != api.OK || f.Pages[at][at] != byte(at)^by || d.Pages[at][at] != byte(at) {
			t.Errorf("%d by %d: %d, %d", at, by, f.Pages[at][at], e)
		}
	}
	for by := range 256 {
		if f, e := flaw.Flip(d, 90, 200, byte(by)); e != api.OK || f.Pages[90][200] != 90^byte(by) {
			t.Errorf("by %d: %d", by, e)
		}
	}
}

// P4.2, Flip: by nought nothing changes.
func TestFlipByNought(t *testing.T) {
	for name, d := range each {
		for at := range min(len(d.Pages), 40) {
			if f, e := flaw.Flip(d, at, at, 0); e != api.OK || !like(f, d) {
				t.Errorf("%s: page %d: %d", name, at, e)
			}
		}
	}
}

// P4.2, Flip: what is not flushed stays: the page is read as it was written, till that is lost.
func TestFlipUnderAWrite(t *testing.T) {
	d := disk(32, 5, 5)
	f, e := flaw.Flip(d, 5, 3, 255)
	if e != api.OK || !slices.Equal(f.Cache, d.Cache) || f.Pages[5][3] != 5^255 {
		t.Fatal(e)
	}
	if p, e := vdev.Read(f, 5); e != api.OK || p != full(201) {
		t.Error("read", e)
	}
	if p, e := vdev.Read(flaw.Crash(f), 5); e != api.OK || p[3] != 5^255 || p[4] != 5 {
		t.Error("read behind a crash", e)
	}
}

// P4.2, Flip: a bad page's byte changes, and it stays bad; a detached disk's, and it stays detached.
func TestFlipBadOrDetached(t *testing.T) {
	f, e := flaw.Flip(off(bad(disk(32), 5)), 5, 255, 1)
	if e != api.OK || f.Pages[5][255] != 4 || !slices.Equal(f.Bad, []int{5}) || !f.Off {
		t.Error(f.Bad, f.Off, e)
	}
}

// offThe: numbers off a row of so many.
func offThe(many int) []int {
	return []int{-1, -2, many, many + 1, math.MinInt, math.MaxInt, 1 << 32, -1 << 32, 1<<32 + 5, 1 << 16}
}

// P4.2, Flip: off the disk, off the page, off both.
func TestFlipErrArg(t *testing.T) {
	for name, d := range each {
		for _, at := range offThe(len(d.Pages)) {
			for _, offset := range append(offThe(256), 0, 255) {
				if f, e := flaw.Flip(d, at, offset, 1); e != api.ErrArg || !like(f, d) {
					t.Fatalf("%s: page %d, byte %d: %d", name, at, offset, e)
				}
			}
		}
		for _, at := range []int{0, 5, len(d.Pages) - 1} {
			for _, offset := range offThe(256) {
				if f, e := flaw.Flip(d, at, offset, 1); e != api.ErrArg || !like(f, d) {
					t.Fatalf("%s: page %d, byte %d: %d", name, at, offset, e)
				}
			}
		}
	}
}

// P4.2, Spoil: ahead of the others, behind them, between; bad already: once.
func TestSpoil(t *testing.T) {
	for _, x := range []struct {
		bad  []int
		at   int
		want []int
	}{
		{nil, 0, []int{0}},
		{nil, 31, []int{31}},
		{[]int{}, 7, []int{7}},
		{[]int{5, 9}, 4, []int{4, 5, 9}},
		{[]int{5, 9}, 0, []int{0, 5, 9}},
		{[]int{5, 9}, 7, []int{5, 7, 9}},
		{[]int{5, 9}, 10, []int{5, 9, 10}},
		{[]int{5, 9}, 31, []int{5, 9, 31}},
		{[]int{5, 9}, 5, []int{5, 9}},
		{[]int{5, 9}, 9, []int{5, 9}},
		{[]int{0}, 0, []int{0}},
		{[]int{31}, 31, []int{31}},
	} {
		s, e := flaw.Spoil(bad(disk(32), x.bad...), x.at)
		if e != api.OK || !like(s, bad(disk(32), x.want...)) {
			t.Errorf("%d beside %v: %v, %d", x.at, x.bad, s.Bad, e)
		}
	}
}

// P4.2, Spoil: page by page, in an order of its own, till all are bad; each can no more be read, all others can.
func TestSpoilAll(t *testing.T) {
	d := disk(256)
	gone := make([]bool, 256)
	for i := range 512 {
		at := i * 77 % 256
		gone[at] = true
		var e api.Errno
		if d, e = flaw.Spoil(d, at); e != api.OK || !vdev.May(d) {
			t.Fatalf("page %d: %d", at, e)
		}
		for at := range gone {
			if slices.Contains(d.Bad, at) != gone[at] {
				t.Fatalf("%d pages: page %d", i+1, at)
			}
			if p, e := vdev.Read(d, at); gone[at] && e != api.ErrRead || !gone[at] && (e != api.OK || p != full(byte(at))) {
				t.Fatalf("%d pages: page %d: %d", i+1, at, e)
			}
		}
	}
}

// P4.2, Spoil: what is not flushed stays; read is what was written, till that is lost.
func TestSpoilUnderAWrite(t *testing.T) {
	d := disk(32, 5, 6)
	s, e := flaw.Spoil(d, 5)
	if e != api.OK || !slices.Equal(s.Cache, d.Cache) || !slices.Equal(s.Pages, d.Pages) {
		t.Fatal(e)
	}
	if p, e := vdev.Read(s, 5); e != api.OK || p != full(200) {
		t.Error("read", e)
	}
	if _, e := vdev.Read(flaw.Crash(s), 5); e != api.ErrRead {
		t.Error("read behind a crash", e)
	}
}

// P4.2, Spoil: of each disk, what is told of Bad is rising, each once; the rest stays.
func TestSpoilEach(t *testing.T) {
	for name, d := range each {
		for at := range min(len(d.Pages), 40) {
			want := twin(d)
			want.Bad = append(want.Bad, at)
			slices.Sort(want.Bad)
			want.Bad = slices.Compact(want.Bad)
			s, e := flaw.Spoil(d, at)
			if e != api.OK || !like(s, want) || vdev.May(d) && !vdev.May(s) {
				t.Errorf("%s: page %d: %v, %d", name, at, s.Bad, e)
			}
		}
	}
	if s, e := flaw.Spoil(bad(disk(32), 9, 3, 9, 3), 5); e != api.OK || !slices.Equal(s.Bad, []int{3, 5, 9}) {
		t.Error(s.Bad, e)
	}
}

// P4.2, Spoil: off the disk: ErrArg, and it is as it was, what is odd of it, too.
func TestSpoilErrArg(t *testing.T) {
	for name, d := range each {
		for _, at := range offThe(len(d.Pages)) {
			if s, e := flaw.Spoil(d, at); e != api.ErrArg || !like(s, d) {
				t.Errorf("%s: page %d: %d", name, at, e)
			}
		}
	}
}

// P4.3: of each disk: detached with nothing unflushed; not detached; the same.
func TestDetachAttachOwn(t *testing.T) {
	for name, d := range each {
		gone := twin(d)
		gone.Off, gone.Cache = true, nil
		if !like(flaw.Detach(d), gone) {
			t.Errorf("%s: Detach", name)
		}
		here := twin(d)
		here.Off = false
		if !like(flaw.Attach(d), here) {
			t.Errorf("%s: Attach", name)
		}
		if !like(flaw.Own(d), d) {
			t.Errorf("%s: Own", name)
		}
		if vdev.May(d) && !(vdev.May(flaw.Detach(d)) && vdev.May(flaw.Attach(d)) && vdev.May(flaw.Own(d))) {
			t.Errorf("%s: may not be any more", name)
		}
	}
}

// P4.3: written out: away and back a disk has what it had flushed, and is read and written again.
func TestAwayAndBack(t *testing.T) {
	d := bad(disk(32, 5, 9), 9)
	away := flaw.Detach(d)
	if _, e := vdev.Read(away, 5); e != api.ErrOff || !away.Off || len(away.Cache) != 0 || !slices.Equal(away.Bad, []int{9}) {
		t.Error("away", e)
	}
	if !like(flaw.Detach(away), away) || !like(flaw.Attach(d), d) {
		t.Error("twice")
	}
	back := flaw.Attach(away)
	if p, e := vdev.Read(back, 5); e != api.OK || p != full(5) || back.Off {
		t.Error("back", e)
	}
	if _, e := vdev.Read(back, 9); e != api.ErrRead {
		t.Error("bad", e)
	}
	if _, e := vdev.Write(back, 5, full(1)); e != api.OK {
		t.Error("written", e)
	}
}

// P4.4: flipped twice by the same a disk is as it was; by two it is flipped by both.
func TestFlippedTwice(t *testing.T) {
	for name, d := range each {
		for at := range min(len(d.Pages), 40) {
			once, _ := flaw.Flip(d, at, 255-at, byte(at+1))
			twice, e := flaw.Flip(once, at, 255-at, byte(at+1))
			if e != api.OK || !like(twice, d) || like(once, d) {
				t.Errorf("%s: page %d: %d", name, at, e)
			}
		}
	}
	one, _ := flaw.Flip(disk(32), 3, 3, 12)
	two, _ := flaw.Flip(one, 3, 3, 10)
	if both, _ := flaw.Flip(disk(32), 3, 3, 6); !like(two, both) {
		t.Error("by two")
	}
}

// P4.4: a crash without picks: what was not flushed is lost, and nothing else.
func TestCrashWithoutPicks(t *testing.T) {
	for name, d := range each {
		want := twin(d)
		want.Cache = nil
		for _, c := range []api.Disk{
			flaw.Crash(d),
			flaw.Crash(d, nil...),
			flaw.Crash(d, []byte{}...),
			flaw.Crash(d, make([]byte, len(d.Cache))...),
			flaw.Crash(d, bytes.Repeat([]byte{255}, len(d.Cache)+1)...),
		} {
			if !like(c, want) {
				t.Errorf("%s", name)
			}
		}
	}
}

// P4.4: a crash with picks of 1, and more of them than writes: what a flush would do.
func TestCrashAsFlushed(t *testing.T) {
	for name, d := range mayBe() {
		if d.Off {
			continue
		}
		f, e := vdev.Flush(d)
		if e != api.OK {
			t.Fatalf("%s: %d", name, e)
		}
		for _, pick := range []byte{1, 4, 253} {
			for more := range 3 {
				if !like(flaw.Crash(d, bytes.Repeat([]byte{pick}, len(d.Cache)+more)...), f) {
					t.Errorf("%s: picks of %d, %d more", name, pick, more)
				}
			}
		}
	}
}

// Behind a crash nothing is left to settle: a second one changes nothing.
func TestCrashTwice(t *testing.T) {
	for name, d := range each {
		c := flaw.Crash(d, 1, 2, 0, 2, 1)
		if !like(flaw.Crash(c, 2, 1, 2, 1, 2), c) || !like(flaw.Crash(c), c) {
			t.Errorf("%s", name)
		}
	}
}

// A list of nothing beside none: no call tells them apart.
func TestNothingBesideNone(t *testing.T) {
	none := api.Disk{Pages: disk(32).Pages}
	nothing := api.Disk{Pages: disk(32).Pages, Cache: []api.Write{}, Bad: []int{}}
	for i, deed := range deeds() {
		if !like(deed(none), deed(nothing)) {
			t.Errorf("deed %d", i)
		}
	}
}

// deeds: each call of the package that tells a disk, with and without an error.
func deeds() []func(api.Disk) api.Disk {
	crash := func(picks ...byte) func(api.Disk) api.Disk {
		return func(d api.Disk) api.Disk { return flaw.Crash(d, picks...) }
	}
	flip := func(at, offset int) func(api.Disk) api.Disk {
		return func(d api.Disk) api.Disk {
			f, _ := flaw.Flip(d, at, offset, 9)
			return f
		}
	}
	spoil := func(at int) func(api.Disk) api.Disk {
		return func(d api.Disk) api.Disk {
			s, _ := flaw.Spoil(d, at)
			return s
		}
	}
	return []func(api.Disk) api.Disk{
		crash(), crash(0, 0), crash(1, 2, 1, 2, 1, 2), flip(5, 5), flip(0, 0), flip(-1, 0), flip(5, 256),
		spoil(5), spoil(0), spoil(31), spoil(-1), flaw.Detach, flaw.Attach, flaw.Own,
	}
}

// roomy: that disk with spare room behind each of its lists.
func roomy(d api.Disk) api.Disk {
	r := api.Disk{Pages: make([]api.Page, 0, len(d.Pages)+4), Cache: make([]api.Write, 0, len(d.Cache)+4), Bad: make([]int, 0, len(d.Bad)+4), Off: d.Off}
	r.Pages, r.Cache, r.Bad = append(r.Pages, d.Pages...), append(r.Cache, d.Cache...), append(r.Bad, d.Bad...)
	return r
}

// whole: all memory of a disk's lists, spare room too.
func whole(d api.Disk) api.Disk {
	return api.Disk{Pages: d.Pages[:cap(d.Pages)], Cache: d.Cache[:cap(d.Cache)], Bad: d.Bad[:cap(d.Bad)], Off: d.Off}
}

// spoilt: all memory of a disk's lists is another one.
func spoilt(d api.Disk) {
	d = whole(d)
	for i := range d.Pages {
		d.Pages[i] = full(d.Pages[i][0] ^ 170)
	}
	for i := range d.Cache {
		d.Cache[i] = api.Write{At: d.Cache[i].At ^ 4096, Data: full(170)}
	}
	for i := range d.Bad {
		d.Bad[i] ^= 4096
	}
}

// P4.3, R4: what each call tells is in memory of its own, beside an error too; what is handed in stays, spare room too.
func TestMemoryOfItsOwn(t *testing.T) {
	for name, plain := range each {
		for i, deed := range deeds() {
			d := roomy(plain)
			was := twin(whole(d))
			one, other := deed(d), deed(d)
			told := twin(one)
			if !like(whole(d), was) {
				t.Fatalf("%s, deed %d: what was handed in is another one", name, i)
			}
			spoilt(one)
			if !like(whole(d), was) || !like(other, told) {
				t.Fatalf("%s, deed %d: two hang together", name, i)
			}
			spoilt(d)
			if !like(other, told) {
				t.Fatalf("%s, deed %d: what is told hangs on what was handed in", name, i)
			}
			if !like(deed(plain), told) {
				t.Fatalf("%s, deed %d: told otherwise a second time", name, i)
			}
		}
	}
}

// R4: picks stay as they were.
func TestPicksStay(t *testing.T) {
	picks := []byte{1, 2, 3, 4, 5, 255, 254, 253}
	was := bytes.Clone(picks)
	flaw.Crash(disk(32, 5, 6, 7), picks[:2]...)
	flaw.Crash(disk(32, 5, 6, 7, 5, 6, 7, 8, 9, 10), picks...)
	if !bytes.Equal(picks, was) {
		t.Error(picks)
	}
}
