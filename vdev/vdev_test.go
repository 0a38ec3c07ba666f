package vdev_test

import (
	"math"
	"math/rand"
	"slices"
	"testing"

	"suture/api"
	"suture/vdev"
)

// page: a page of some bytes, the same ones each time for one seed.
func page(seed int) api.Page {
	var p api.Page
	x := uint64(seed)*0x9E3779B97F4A7C15 + 1
	for i := range p {
		x ^= x << 13
		x ^= x >> 7
		x ^= x << 17
		p[i] = byte(x >> 32)
	}
	return p
}

// disk: a disk of that size; each page has bytes of its own.
func disk(size int) api.Disk {
	d := api.Disk{Pages: make([]api.Page, size)}
	for at := range d.Pages {
		d.Pages[at] = page(at)
	}
	return d
}

// cached: that disk with one write at each of these places behind those of its cache.
func cached(d api.Disk, places ...int) api.Disk {
	d = twin(d)
	for _, at := range places {
		d.Cache = append(d.Cache, api.Write{At: at, Data: page(1000 + len(d.Cache))})
	}
	return d
}

// many: so many writes, over all pages of a disk of 40 pages.
func many(n int) api.Disk {
	d := disk(40)
	for i := range n {
		d.Cache = append(d.Cache, api.Write{At: i * 7 % 40, Data: page(1000 + i)})
	}
	return d
}

// with: a disk changed in one way.
func with(d api.Disk, change func(d *api.Disk)) api.Disk {
	d = twin(d)
	change(&d)
	return d
}

// twin: a copy that is made here.
func twin(d api.Disk) api.Disk {
	return api.Disk{Pages: slices.Clone(d.Pages), Cache: slices.Clone(d.Cache), Bad: slices.Clone(d.Bad), Off: d.Off}
}

// like: alike, by a look of its own.
func like(a, b api.Disk) bool {
	if len(a.Pages) != len(b.Pages) || len(a.Cache) != len(b.Cache) || len(a.Bad) != len(b.Bad) || a.Off != b.Off {
		return false
	}
	for i := range a.Pages {
		if a.Pages[i] != b.Pages[i] {
			return false
		}
	}
	for i := range a.Cache {
		if a.Cache[i].At != b.Cache[i].At || a.Cache[i].Data != b.Cache[i].Data {
			return false
		}
	}
	for i := range a.Bad {
		if a.Bad[i] != b.Bad[i] {
			return false
		}
	}
	return true
}

// roomy: d with spare room behind each of its lists.
func roomy(d api.Disk) api.Disk {
	pages, cache, bad := len(d.Pages), len(d.Cache), len(d.Bad)
	d = twin(d)
	for i := range 5 {
		d.Pages = append(d.Pages, page(5000+i))
		d.Cache = append(d.Cache, api.Write{At: i, Data: page(6000 + i)})
		d.Bad = append(d.Bad, 7000+i)
	}
	return api.Disk{Pages: d.Pages[:pages], Cache: d.Cache[:cache], Bad: d.Bad[:bad], Off: d.Off}
}

// whole: all of a disk's memory, spare room too.
func whole(d api.Disk) api.Disk {
	return api.Disk{Pages: d.Pages[:cap(d.Pages)], Cache: d.Cache[:cap(d.Cache)], Bad: d.Bad[:cap(d.Bad)], Off: d.Off}
}

// scribble: all of a disk's memory is other; done twice, it is as it was.
func scribble(d api.Disk) {
	d = whole(d)
	for i := range d.Pages {
		for j := range d.Pages[i] {
			d.Pages[i][j] ^= 255
		}
	}
	for i := range d.Cache {
		d.Cache[i].At ^= 1 << 20
		d.Cache[i].Data[i%api.PageSize] ^= 255
	}
	for i := range d.Bad {
		d.Bad[i] ^= 1 << 20
	}
}

// good: disks that may be, by name.
func good() map[string]api.Disk {
	return map[string]api.Disk{
		"of MinPages":          disk(api.MinPages),
		"of MaxPages":          disk(api.MaxPages),
		"between":              disk(100),
		"lists of nothing":     with(disk(32), func(d *api.Disk) { d.Cache, d.Bad = []api.Write{}, []int{} }),
		"a cache":              cached(disk(32), 3, 3, 1, 31, 0, 3),
		"a cache of one fewer": many(api.MaxCache - 1),
		"a full cache":         many(api.MaxCache),
		"bad":                  with(disk(32), func(d *api.Disk) { d.Bad = []int{0, 3, 4, 31} }),
		"all bad":              with(disk(32), func(d *api.Disk) { d.Bad = upTo(32) }),
		"bad, and a cache":     with(cached(disk(32), 3, 9, 3), func(d *api.Disk) { d.Bad = []int{3, 7} }),
		"full cache, all bad":  with(many(api.MaxCache), func(d *api.Disk) { d.Bad = upTo(40) }),
		"detached":             with(disk(32), func(d *api.Disk) { d.Off = true }),
		"detached, and bad":    with(disk(256), func(d *api.Disk) { d.Off, d.Bad = true, []int{5, 255} }),
		"detached, no writes":  with(disk(32), func(d *api.Disk) { d.Off, d.Cache = true, []api.Write{} }),
	}
}

// wrong: disks that may not be, by name.
func wrong() map[string]api.Disk {
	return map[string]api.Disk{
		"nothing":                 {},
		"of one page":             disk(1),
		"one below MinPages":      disk(api.MinPages - 1),
		"one above MaxPages":      disk(api.MaxPages + 1),
		"of many pages":           disk(1000),
		"a cache of one more":     many(api.MaxCache + 1),
		"a write at -1":           cached(disk(32), 3, -1, 4),
		"a write behind the last": cached(disk(32), 32),
		"a first write off it":    cached(disk(32), 32, 1, 2),
		"a last write off it":     cached(disk(100), 1, 2, 100),
		"a write far below":       cached(disk(32), math.MinInt),
		"a write far above":       cached(disk(32), math.MaxInt),
		"bad twice":               with(disk(32), func(d *api.Disk) { d.Bad = []int{1, 1} }),
		"bad falling":             with(disk(32), func(d *api.Disk) { d.Bad = []int{2, 1} }),
		"bad falling at the end":  with(disk(32), func(d *api.Disk) { d.Bad = []int{2, 5, 9, 8} }),
		"bad at -1":               with(disk(32), func(d *api.Disk) { d.Bad = []int{-1} }),
		"bad at -1 and above":     with(disk(32), func(d *api.Disk) { d.Bad = []int{-1, 4} }),
		"bad behind the last":     with(disk(32), func(d *api.Disk) { d.Bad = []int{1, 32} }),
		"bad far above":           with(disk(32), func(d *api.Disk) { d.Bad = []int{math.MaxInt} }),
		"bad far below":           with(disk(32), func(d *api.Disk) { d.Bad = []int{math.MinInt, 0} }),
		"bad, too many":           with(disk(32), func(d *api.Disk) { d.Bad = upTo(33) }),
		"detached, and a cache":   with(cached(disk(32), 1), func(d *api.Disk) { d.Off = true }),
		"detached, full cache":    with(many(api.MaxCache), func(d *api.Disk) { d.Off = true }),
		"detached, and too small": with(disk(31), func(d *api.Disk) { d.Off = true }),
		"detached, and bad wrong": with(disk(32), func(d *api.Disk) { d.Off, d.Bad = true, []int{3, 3} }),
	}
}

// upTo: 0 to n-1.
func upTo(n int) []int {
	var l []int
	for i := range n {
		l = append(l, i)
	}
	return l
}

// all: the good and the wrong ones.
func all() map[string]api.Disk {
	m := good()
	for name, d := range wrong() {
		m[name] = d
	}
	return m
}

// slowRead: the last write in the cache there, else the page; by P3.2's words.
func slowRead(d api.Disk, at int) (api.Page, api.Errno) {
	p, e := d.Pages[at], api.OK
	for _, b := range d.Bad {
		if b == at {
			p, e = api.Page{}, api.ErrRead
		}
	}
	for _, w := range d.Cache {
		if w.At == at {
			p, e = w.Data, api.OK
		}
	}
	if d.Off {
		p, e = api.Page{}, api.ErrOff
	}
	return p, e
}

// slowFlush: write by write, in order; by the words of 'Flushed'.
func slowFlush(d api.Disk) api.Disk {
	f := api.Disk{Pages: slices.Clone(d.Pages), Bad: slices.Clone(d.Bad)}
	for _, w := range d.Cache {
		f.Pages[w.At] = w.Data
		f.Bad = slices.DeleteFunc(f.Bad, func(at int) bool { return at == w.At })
	}
	return f
}

// P3.1, May: in each way that the chapter names, and at its edges.
func TestMay(t *testing.T) {
	for name, d := range good() {
		if !vdev.May(d) {
			t.Errorf("%s: may not be", name)
		}
	}
	for name, d := range wrong() {
		if vdev.May(d) {
			t.Errorf("%s: may be", name)
		}
	}
}

// P3.1, May: sizes, each one around the bounds.
func TestMaySizes(t *testing.T) {
	for size := range 300 {
		if got := vdev.May(disk(size)); got != (size >= 32 && size <= 256) {
			t.Errorf("%d pages: %v", size, got)
		}
	}
}

// P3.1, New: ErrArg and nothing, or pages of noughts.
func TestNew(t *testing.T) {
	for size := -2; size < 300; size++ {
		d, e := vdev.New(size)
		if size < 32 || size > 256 {
			if e != api.ErrArg || !like(d, api.Disk{}) {
				t.Errorf("%d: %d", size, e)
			}
			continue
		}
		if e != api.OK || !like(d, api.Disk{Pages: make([]api.Page, size)}) || !vdev.May(d) {
			t.Errorf("%d: %d, %d pages", size, e, len(d.Pages))
		}
	}
	for _, size := range []int{math.MinInt, -1 << 32, 1 << 32, 1<<32 + 32, math.MaxInt} {
		if d, e := vdev.New(size); e != api.ErrArg || !like(d, api.Disk{}) {
			t.Errorf("%d: %d", size, e)
		}
	}
}

// P3.1, Copy: the same; of disks that may not be, too.
func TestCopy(t *testing.T) {
	for name, d := range all() {
		if c := vdev.Copy(d); !like(c, d) {
			t.Errorf("%s: another one", name)
		}
	}
}

// P3.1, Same: each disk beside each other one.
func TestSameOrNot(t *testing.T) {
	for name, a := range all() {
		for other, b := range all() {
			if got := vdev.Same(a, b); got != like(a, b) {
				t.Errorf("%s, %s: %v", name, other, got)
			}
		}
	}
}

// P3.1, Same: a list of nothing and none alike.
func TestSameNothing(t *testing.T) {
	none := disk(32)
	nothing := with(none, func(d *api.Disk) { d.Cache, d.Bad = []api.Write{}, []int{} })
	room := with(none, func(d *api.Disk) { d.Cache, d.Bad = make([]api.Write, 0, 9), make([]int, 0, 9) })
	for i, d := range []api.Disk{none, nothing, room} {
		if !vdev.Same(none, d) || !vdev.Same(d, none) || !vdev.Same(d, nothing) {
			t.Error(i)
		}
	}
	if !vdev.Same(api.Disk{}, api.Disk{Pages: []api.Page{}, Cache: []api.Write{}, Bad: []int{}}) {
		t.Error("no pages")
	}
	if !vdev.Same(nothing, roomy(nothing)) {
		t.Error("spare room")
	}
}

// P3.1, Same: a change of any one part is told.
func TestSameParts(t *testing.T) {
	d := with(cached(disk(32), 3, 1, 3), func(d *api.Disk) { d.Bad = []int{4, 9} })
	for i, change := range []func(d *api.Disk){
		func(d *api.Disk) { d.Pages[0][0]++ },
		func(d *api.Disk) { d.Pages[31][255]++ },
		func(d *api.Disk) { d.Pages = d.Pages[:31] },
		func(d *api.Disk) { d.Pages = append(d.Pages, api.Page{}) },
		func(d *api.Disk) { d.Pages = nil },
		func(d *api.Disk) { d.Pages[0], d.Pages[1] = d.Pages[1], d.Pages[0] },
		func(d *api.Disk) { d.Cache[0].At = 2 },
		func(d *api.Disk) { d.Cache[2].Data[255]++ },
		func(d *api.Disk) { d.Cache[0], d.Cache[1] = d.Cache[1], d.Cache[0] },
		func(d *api.Disk) { d.Cache[0], d.Cache[2] = d.Cache[2], d.Cache[0] },
		func(d *api.Disk) { d.Cache = d.Cache[:2] },
		func(d *api.Disk) { d.Cache = d.Cache[1:] },
		func(d *api.Disk) { d.Cache = nil },
		func(d *api.Disk) { d.Cache = append(d.Cache, d.Cache[2]) },
		func(d *api.Disk) { d.Bad[1]++ },
		func(d *api.Disk) { d.Bad[0]-- },
		func(d *api.Disk) { d.Bad = d.Bad[:1] },
		func(d *api.Disk) { d.Bad = nil },
		func(d *api.Disk) { d.Bad = append(d.Bad, 10) },
		func(d *api.Disk) { d.Off = true },
	} {
		other := with(d, change)
		if vdev.Same(d, other) || vdev.Same(other, d) || !vdev.Same(other, twin(other)) {
			t.Error(i)
		}
	}
}

// P3.2, Read: each page of each disk that may be.
func TestRead(t *testing.T) {
	for name, d := range good() {
		for at := range d.Pages {
			p, e := vdev.Read(d, at)
			want, f := slowRead(d, at)
			if p != want || e != f {
				t.Errorf("%s, %d: %d, not %d", name, at, e, f)
			}
		}
	}
}

// P3.2, Read: written out.
func TestReadPlain(t *testing.T) {
	d := with(cached(disk(32), 3, 9, 3, 0), func(d *api.Disk) { d.Bad = []int{3, 7, 8} })
	for _, x := range []struct {
		at int
		p  api.Page
		e  api.Errno
	}{
		{0, page(1003), api.OK},
		{1, page(1), api.OK},
		{3, page(1002), api.OK},
		{7, api.Page{}, api.ErrRead},
		{8, api.Page{}, api.ErrRead},
		{9, page(1001), api.OK},
		{31, page(31), api.OK},
		{-1, api.Page{}, api.ErrArg},
		{32, api.Page{}, api.ErrArg},
	} {
		if p, e := vdev.Read(d, x.at); p != x.p || e != x.e {
			t.Errorf("%d: %d, not %d", x.at, e, x.e)
		}
	}
}

// places: what is off each disk of that size.
func places(size int) []int {
	return []int{-1, -2, size, size + 1, 256, 257, math.MinInt, math.MaxInt, 1 << 32, -1 << 32}
}

// P3.2, P3.3: the errors, in their order: ErrArg ahead of ErrOff, of ErrRead, of ErrCache.
func TestArg(t *testing.T) {
	for name, d := range good() {
		for _, at := range places(len(d.Pages)) {
			if p, e := vdev.Read(d, at); p != (api.Page{}) || e != api.ErrArg {
				t.Errorf("%s, read %d: %d", name, at, e)
			}
			if w, e := vdev.Write(d, at, page(1)); !like(w, d) || e != api.ErrArg {
				t.Errorf("%s, written %d: %d", name, at, e)
			}
		}
	}
	for name, d := range wrong() {
		for _, at := range append(places(len(d.Pages)), 0, 1, 3, 31) {
			if p, e := vdev.Read(d, at); p != (api.Page{}) || e != api.ErrArg {
				t.Errorf("%s, read %d: %d", name, at, e)
			}
			if w, e := vdev.Write(d, at, page(1)); !like(w, d) || e != api.ErrArg {
				t.Errorf("%s, written %d: %d", name, at, e)
			}
		}
		if f, e := vdev.Flush(d); !like(f, d) || e != api.ErrArg {
			t.Errorf("%s, flushed: %d", name, e)
		}
	}
}

// P3.2, P3.3: ErrOff, ahead of ErrRead.
func TestOff(t *testing.T) {
	d := with(disk(32), func(d *api.Disk) { d.Off, d.Bad = true, []int{5} })
	for _, at := range []int{0, 5, 31} {
		if p, e := vdev.Read(d, at); p != (api.Page{}) || e != api.ErrOff {
			t.Errorf("read %d: %d", at, e)
		}
		if w, e := vdev.Write(d, at, page(1)); !like(w, d) || e != api.ErrOff {
			t.Errorf("written %d: %d", at, e)
		}
	}
	if f, e := vdev.Flush(d); !like(f, d) || e != api.ErrOff {
		t.Errorf("flushed: %d", e)
	}
}

// P3.3, Write: behind those of the cache, at each page, whether it is bad or in the cache.
func TestWrite(t *testing.T) {
	for name, d := range good() {
		if d.Off || len(d.Cache) == api.MaxCache {
			continue
		}
		for at := range d.Pages {
			p := page(3000 + at)
			w, e := vdev.Write(d, at, p)
			if e != api.OK || !like(w, with(d, func(d *api.Disk) { d.Cache = append(d.Cache, api.Write{At: at, Data: p}) })) {
				t.Errorf("%s, %d: %d", name, at, e)
			}
			if !vdev.May(w) {
				t.Errorf("%s, %d: may not be", name, at)
			}
		}
	}
}

// P3.3, Write: ErrCache from MaxCache writes on, not sooner.
func TestWriteFull(t *testing.T) {
	d := many(api.MaxCache - 1)
	full, e := vdev.Write(d, 3, page(1))
	if e != api.OK || len(full.Cache) != 2000 || full.Cache[1999] != (api.Write{At: 3, Data: page(1)}) {
		t.Fatalf("one fewer: %d, %d writes", e, len(full.Cache))
	}
	over, e := vdev.Write(full, 3, page(2))
	if e != api.ErrCache || !like(over, full) {
		t.Errorf("as many: %d", e)
	}
	if p, e := vdev.Read(over, 3); p != page(1) || e != api.OK {
		t.Errorf("read: %d", e)
	}
	f, e := vdev.Flush(over)
	if e != api.OK || len(f.Cache) != 0 {
		t.Fatalf("flushed: %d", e)
	}
	if _, e := vdev.Write(f, 3, page(2)); e != api.OK {
		t.Errorf("behind a flush: %d", e)
	}
}

// P3.3, Flush: as written write by write.
func TestFlush(t *testing.T) {
	for name, d := range good() {
		if d.Off {
			continue
		}
		f, e := vdev.Flush(d)
		if e != api.OK || !like(f, slowFlush(d)) {
			t.Errorf("%s: %d", name, e)
		}
		again, e := vdev.Flush(f)
		if e != api.OK || !like(again, f) {
			t.Errorf("%s, twice: %d", name, e)
		}
	}
}

// P3.3, Flush: written out.
func TestFlushPlain(t *testing.T) {
	d := with(cached(disk(32), 3, 9, 3, 0, 31), func(d *api.Disk) { d.Bad = []int{3, 7, 9, 30, 31} })
	f, e := vdev.Flush(d)
	if e != api.OK || len(f.Cache) != 0 || !slices.Equal(f.Bad, []int{7, 30}) || f.Off || len(f.Pages) != 32 {
		t.Fatal(e, f.Bad)
	}
	for at, p := range f.Pages {
		want := page(at)
		switch at {
		case 3:
			want = page(1002)
		case 9:
			want = page(1001)
		case 0:
			want = page(1003)
		case 31:
			want = page(1004)
		}
		if p != want {
			t.Errorf("page %d", at)
		}
	}
}

// P3.3, Waits: rising, each once; of disks that may not be, too.
func TestWaits(t *testing.T) {
	for _, x := range []struct{ places, want []int }{
		{nil, nil},
		{[]int{5}, []int{5}},
		{[]int{5, 5}, []int{5}},
		{[]int{3, 9, 3, 0, 31, 9}, []int{0, 3, 9, 31}},
		{[]int{31, 0}, []int{0, 31}},
		{[]int{4, 3, 2, 1, 0}, []int{0, 1, 2, 3, 4}},
		{[]int{40, -1, math.MaxInt, 40, math.MinInt}, []int{math.MinInt, -1, 40, math.MaxInt}},
	} {
		if got := vdev.Waits(cached(disk(32), x.places...)); !slices.Equal(got, x.want) {
			t.Errorf("%v: %v", x.places, got)
		}
	}
	for _, n := range []int{api.MaxCache - 1, api.MaxCache, api.MaxCache + 1} {
		if got := vdev.Waits(many(n)); !slices.Equal(got, upTo(40)) {
			t.Errorf("%d writes: %v", n, got)
		}
	}
	if got := vdev.Waits(with(disk(32), func(d *api.Disk) { d.Cache, d.Bad = []api.Write{}, []int{1} })); len(got) != 0 {
		t.Errorf("a cache of nothing: %v", got)
	}
	off := with(cached(disk(3), 2, 1), func(d *api.Disk) { d.Off = true })
	if got := vdev.Waits(off); !slices.Equal(got, []int{1, 2}) {
		t.Errorf("detached: %v", got)
	}
}

// deeds: each call that tells a disk.
func deeds() []func(api.Disk) api.Disk {
	write := func(at int) func(api.Disk) api.Disk {
		return func(d api.Disk) api.Disk {
			w, _ := vdev.Write(d, at, page(at))
			return w
		}
	}
	flush := func(d api.Disk) api.Disk {
		f, _ := vdev.Flush(d)
		return f
	}
	return []func(api.Disk) api.Disk{vdev.Copy, flush, write(3), write(0), write(-1), write(40)}
}

// P3.4, R4: a disk that is told is in memory of its own, beside an error too; what was handed in stays, spare room too.
func TestOwn(t *testing.T) {
	for name, plain := range all() {
		for i, deed := range deeds() {
			d := roomy(plain)
			was := twin(whole(d))
			first, second := deed(d), deed(d)
			told := twin(first)
			scribble(first)
			if !like(second, told) || !like(whole(d), was) {
				t.Errorf("%s, %d: what is told hangs together", name, i)
			}
			scribble(d)
			if !like(second, told) {
				t.Errorf("%s, %d: what is told hangs on what was handed in", name, i)
			}
		}
	}
}

// P3.4, R4: the other calls leave what was handed in as it is; lists of places are their own.
func TestStays(t *testing.T) {
	for name, plain := range all() {
		d := roomy(plain)
		was := twin(whole(d))
		l, other := vdev.Waits(d), vdev.Waits(d)
		told := slices.Clone(l)
		clear(other[:cap(other)])
		vdev.May(d)
		vdev.Read(d, 3)
		vdev.Same(d, roomy(plain))
		if !like(whole(d), was) || !slices.Equal(l, told) {
			t.Errorf("%s: changed", name)
		}
		clear(l[:cap(l)])
		if !like(whole(d), was) {
			t.Errorf("%s: places are part of it", name)
		}
	}
}

// P3.4: a new disk is in memory of its own each time.
func TestNewOwn(t *testing.T) {
	a, _ := vdev.New(32)
	b, _ := vdev.New(32)
	a.Pages[3][3] = 3
	if b.Pages[3] != (api.Page{}) {
		t.Error("shared")
	}
	if c, _ := vdev.New(32); c.Pages[3] != (api.Page{}) {
		t.Error("kept")
	}
}

// P3.4: what is written behind one disk twice makes two disks.
func TestTwoWays(t *testing.T) {
	d := roomy(cached(disk(32), 1, 2))
	a, _ := vdev.Write(d, 5, page(100))
	b, _ := vdev.Write(d, 5, page(200))
	c, _ := vdev.Write(a, 6, page(300))
	if p, _ := vdev.Read(a, 5); p != page(100) {
		t.Error("the first")
	}
	if p, _ := vdev.Read(b, 5); p != page(200) {
		t.Error("the second")
	}
	if p, _ := vdev.Read(c, 5); p != page(100) || len(a.Cache) != 3 || len(d.Cache) != 2 {
		t.Error("behind the first")
	}
}

// P3.4: a page that was written is read as it, until it is written again; behind a flush, too; other pages stay.
func TestWrittenIsRead(t *testing.T) {
	r := rand.New(rand.NewSource(3))
	for _, size := range []int{32, 33, 256} {
		d := with(disk(size), func(d *api.Disk) { d.Bad = []int{0, 5, 6, 7, 30, 31} })
		want, bad := slices.Clone(d.Pages), map[int]bool{}
		for _, at := range d.Bad {
			bad[at] = true
		}
		for step := range 400 {
			var e api.Errno
			if r.Intn(9) == 0 {
				d, e = vdev.Flush(d)
			} else {
				at := r.Intn(size)
				want[at] = page(step)
				delete(bad, at)
				d, e = vdev.Write(d, at, want[at])
			}
			if e != api.OK || !vdev.May(d) {
				t.Fatalf("step %d: %d", step, e)
			}
			for at := range size {
				p, e := vdev.Read(d, at)
				if bad[at] && e != api.ErrRead || !bad[at] && (e != api.OK || p != want[at]) {
					t.Fatalf("step %d, page %d: %d", step, at, e)
				}
			}
		}
	}
}

// P3.4, and the chapter's example: a page in Bad, written, read; flushed, read.
func TestBadWritten(t *testing.T) {
	d := with(disk(32), func(d *api.Disk) { d.Bad = []int{5, 6} })
	if _, e := vdev.Read(d, 5); e != api.ErrRead {
		t.Error(e)
	}
	w, _ := vdev.Write(d, 5, page(77))
	if p, e := vdev.Read(w, 5); e != api.OK || p != page(77) || !slices.Equal(w.Bad, []int{5, 6}) {
		t.Error(e, w.Bad)
	}
	f, _ := vdev.Flush(w)
	if p, e := vdev.Read(f, 5); e != api.OK || p != page(77) || !slices.Equal(f.Bad, []int{6}) {
		t.Error(e, f.Bad)
	}
	if p, e := vdev.Read(f, 6); e != api.ErrRead || p != (api.Page{}) {
		t.Error(e)
	}
	if _, e := vdev.Read(d, 5); e != api.ErrRead {
		t.Error("what was handed in is mended")
	}
}
