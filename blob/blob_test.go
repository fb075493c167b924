package blob

import (
	"bytes"
	"maps"
	"math"
	"math/rand"
	"slices"
	"strings"
	"testing"

	"wharfage/api"
	"wharfage/bitmap"
	"wharfage/disk"
	"wharfage/heap"
	"wharfage/pages"
	"wharfage/tree"
)

func must(t *testing.T, why api.Errno) {
	t.Helper()
	if why != api.OK {
		t.Fatal(why)
	}
}

// formatted returns an empty store of n pages, with a journal for all of them.
func formatted(t *testing.T, n int) *pages.Store {
	t.Helper()
	size, why := pages.Size(n, api.MaxJournal)
	must(t, why)
	d, why := disk.New(size)
	must(t, why)
	s, why := pages.Format(d, n, api.MaxJournal)
	must(t, why)
	return s
}

func do(t *testing.T, s *pages.Store, by func(h *heap.Heap)) {
	t.Helper()
	must(t, heap.Do(s, by))
}

// view is do, but its changes are lost.
func view(t *testing.T, s *pages.Store, by func(h *heap.Heap)) {
	t.Helper()
	must(t, heap.View(s, by))
}

// text returns n bytes, among them all values.
func text(n int) string {
	b := make([]byte, n)
	for i := range b {
		b[i] = byte(i*7 + i/256)
	}
	return string(b)
}

func contents(h *heap.Heap) []string {
	var l []string
	for i := range h.Pages() {
		l = append(l, h.Get(i))
	}
	return l
}

// aPage returns a page of a body.
func aPage(next int, data string) string {
	b := make([]byte, 480)
	b[0], b[1] = byte(next>>8), byte(next)
	b[2], b[3] = byte(len(data)>>8), byte(len(data))
	copy(b[4:], data)
	return string(b)
}

func setUsed(h *heap.Heap, page int, on bool) {
	bits, _ := bitmap.Set(h.Get(1), page, on)
	h.Put(1, bits)
}

// putPage writes a page of a body, which is in use then.
func putPage(h *heap.Heap, page, next int, data string) {
	h.Put(page, aPage(next, data))
	setUsed(h, page, true)
}

// setByte changes a byte of a page.
func setByte(h *heap.Heap, page, at int, c byte) {
	b := []byte(h.Get(page))
	b[at] = c
	h.Put(page, string(b))
}

func TestP14_1Need(t *testing.T) {
	for size, want := range map[int]int{
		math.MinInt: 0, -477: 0, -1: 0, 0: 0, 1: 1, 2: 1, 475: 1, 476: 1, 477: 2, 952: 2, 953: 3,
		1024: 3, 4095: 9, 4096: 9, 4284: 9, 4285: 10, math.MaxInt32: 4511521, math.MaxInt: 19376832010199109,
	} {
		if got := Need(size); got != want {
			t.Error(size, got, want)
		}
	}
	for size := 1; size <= 5000; size++ {
		if n := Need(size); n*476 < size || (n-1)*476 >= size {
			t.Fatal(size, n)
		}
	}
}

func TestP14_1PutWritesAChain(t *testing.T) {
	s := formatted(t, 16)
	for _, size := range []int{0, 1, 2, 475, 476, 477, 951, 952, 953, 4095, 4096} {
		body := text(size)
		view(t, s, func(h *heap.Heap) {
			before := contents(h)
			b := Put(h, body)
			if size == 0 {
				if b != (api.Blob{}) || !slices.Equal(contents(h), before) {
					t.Error(b)
				}
				return
			}
			if b != (api.Blob{First: 2, Size: size}) {
				t.Error(b)
			}
			n := (size + 475) / 476
			want := slices.Clone(before)
			for i := range n {
				next := i + 3
				if i == n-1 {
					next = 0
				}
				want[i+2] = aPage(next, body[i*476:min(size, i*476+476)])
				want[1], _ = bitmap.Set(want[1], i+2, true)
			}
			if !slices.Equal(contents(h), want) {
				t.Error(size, "other pages")
			}
		})
	}
}

func TestP14_1PutAllocatesOneByOne(t *testing.T) {
	s := formatted(t, 16)
	do(t, s, func(h *heap.Heap) {
		for range 14 {
			h.Put(h.Take(), strings.Repeat("x", 480))
		}
		for _, page := range []int{13, 4, 9, 5} {
			h.Give(page)
		}
	})
	view(t, s, func(h *heap.Heap) {
		// The lowest free page is the first of the chain.
		b := Put(h, text(1500))
		if l := Pages(h, b); b.First != 4 || !slices.Equal(l, []int{4, 5, 9, 13}) || h.Free() != 0 {
			t.Error(b, l)
		}
		for i, next := range map[int]int{4: 5, 5: 9, 9: 13, 13: 0} {
			if got := h.Get(i); int(got[0])*256+int(got[1]) != next {
				t.Errorf("page %d: %q", i, got[:4])
			}
		}
		if h.Get(13) != aPage(0, text(1500)[1428:]) {
			t.Error("an old byte is left behind the data")
		}
		if h.Get(6) != strings.Repeat("x", 480) {
			t.Error("it wrote to another page")
		}
	})
	view(t, s, func(h *heap.Heap) {
		a, b := Put(h, "a"), Put(h, text(700))
		if a != (api.Blob{First: 4, Size: 1}) || b != (api.Blob{First: 5, Size: 700}) || !slices.Equal(Pages(h, b), []int{5, 9}) {
			t.Error(a, b)
		}
	})
}

func TestP14_1PutOfTooLongBodies(t *testing.T) {
	s := formatted(t, 16)
	for range 2 { // with free pages, and without
		for _, size := range []int{4097, 4284, 4760, 1 << 20} {
			waiting := s.Waiting()
			if why := heap.Do(s, func(h *heap.Heap) {
				h.Put(0, strings.Repeat("r", 480))
				Put(h, text(size))
				t.Error("it went on")
			}); why != api.ErrLong || s.Waiting() != waiting {
				t.Error(size, why)
			}
		}
		do(t, s, func(h *heap.Heap) {
			for h.Free() > 0 {
				h.Take()
			}
		})
	}
}

func TestP14_1PutWithoutEnoughPages(t *testing.T) {
	for _, size := range []int{0, 1, 476, 477, 1000, 4096} {
		need := (size + 475) / 476
		for free := max(0, need-2); free <= need+1; free++ {
			s := formatted(t, 16)
			do(t, s, func(h *heap.Heap) {
				for h.Free() > free {
					h.Take()
				}
			})
			waiting := s.Waiting()
			before, after := 0, 0
			why := heap.Do(s, func(h *heap.Heap) {
				before = h.Free()
				if b := Put(h, text(size)); Get(h, b) != text(size) {
					t.Error(size)
				}
				after = h.Free()
			})
			switch {
			case free < need && (why != api.ErrDisk || s.Waiting() != waiting):
				t.Error(size, free, why)
			case free >= need && (why != api.OK || before-after != need):
				t.Error(size, free, why, before-after)
			}
			if free < need {
				view(t, s, func(h *heap.Heap) {
					if h.Free() != free {
						t.Error(size, h.Free())
					}
				})
			}
		}
	}
}

func TestP14_1PutOfABodyThatTheJournalIsTooSmallFor(t *testing.T) {
	size, _ := pages.Size(16, 9)
	d, _ := disk.New(size)
	s, why := pages.Format(d, 16, 9)
	must(t, why)
	// Nine pages and the bitmap are more images than fit, eight are not.
	if why := heap.Do(s, func(h *heap.Heap) { Put(h, text(4096)) }); why != api.ErrJournal || s.Waiting() != 0 {
		t.Error(why)
	}
	do(t, s, func(h *heap.Heap) { Put(h, text(7*476)) })
}

// chained puts the chain 9, 3, 12 of a body of 1000 bytes.
func chained(h *heap.Heap) api.Blob {
	body := text(1000)
	putPage(h, 9, 3, body[:476])
	putPage(h, 3, 12, body[476:952])
	putPage(h, 12, 0, body[952:])
	return api.Blob{First: 9, Size: 1000}
}

func TestP14_2Functions(t *testing.T) {
	s := formatted(t, 16)
	view(t, s, func(h *heap.Heap) {
		b := chained(h)
		before := contents(h)
		if Get(h, b) != text(1000) || !slices.Equal(Pages(h, b), []int{9, 3, 12}) || !slices.Equal(contents(h), before) {
			t.Error(Pages(h, b))
		}
		Drop(h, b)
		if h.Free() != 14 {
			t.Error(h.Free())
		}
		before[1] = strings.Repeat("\x00", 480)
		if !slices.Equal(contents(h), before) {
			t.Error("the contents of a page that was released have changed")
		}
	})
	view(t, s, func(h *heap.Heap) {
		before := contents(h)
		if Get(h, api.Blob{}) != "" || len(Pages(h, api.Blob{})) != 0 {
			t.Error("the empty body")
		}
		Drop(h, api.Blob{})
		if !slices.Equal(contents(h), before) {
			t.Error("it was changed")
		}
	})
}

func TestP14_2OtherValidBlobs(t *testing.T) {
	s := formatted(t, 16)
	for i, change := range []func(h *heap.Heap, b *api.Blob){
		func(h *heap.Heap, b *api.Blob) { setUsed(h, 7, true); setUsed(h, 3839, true) },
		func(h *heap.Heap, b *api.Blob) { h.Put(7, strings.Repeat("x", 480)) },
		func(h *heap.Heap, b *api.Blob) { putPage(h, 12, 0, "x"); b.Size = 953 },
		func(h *heap.Heap, b *api.Blob) { putPage(h, 12, 0, text(476)); b.Size = 1428 },
		func(h *heap.Heap, b *api.Blob) { putPage(h, 12, 0, strings.Repeat("\x00", 48)) },
		func(h *heap.Heap, b *api.Blob) { putPage(h, 12, 2, text(476)); putPage(h, 2, 0, "x"); b.Size = 1429 },
		func(h *heap.Heap, b *api.Blob) { putPage(h, 12, 15, text(476)); putPage(h, 15, 0, "x"); b.Size = 1429 },
		func(h *heap.Heap, b *api.Blob) { *b = api.Blob{First: 12, Size: 48} },
		func(h *heap.Heap, b *api.Blob) { *b = api.Blob{First: 3, Size: 524} },
		// All pages of the store: its form does not bound the length.
		func(h *heap.Heap, b *api.Blob) {
			for page := 2; page < 15; page++ {
				putPage(h, page, page+1, text(476))
			}
			putPage(h, 15, 0, text(476))
			*b = api.Blob{First: 2, Size: 14 * 476}
		},
	} {
		view(t, s, func(h *heap.Heap) {
			b := chained(h)
			change(h, &b)
			l, body, ok := inspect(h, b)
			if !ok {
				t.Fatal(i)
			}
			if Get(h, b) != body || !slices.Equal(Pages(h, b), l) {
				t.Error(i)
			}
			free := h.Free()
			Drop(h, b)
			if h.Free() != free+len(l) {
				t.Error(i, h.Free())
			}
		})
	}
}

// inspect returns the pages and the body of a blob, and whether it is valid,
// by the document's words.
func inspect(h *heap.Heap, b api.Blob) ([]int, string, bool) {
	if b.First == 0 {
		return nil, "", b.Size == 0
	}
	var l []int
	body := ""
	for page := b.First; page != 0; {
		if page < 2 || page >= h.Pages() || slices.Contains(l, page) || h.Get(1)[page/8]>>(page%8)&1 == 0 {
			return nil, "", false
		}
		l = append(l, page)
		x := h.Get(page)
		next, n := int(x[0])*256+int(x[1]), int(x[2])*256+int(x[3])
		if n < 1 || n > 476 || next != 0 && n != 476 || strings.Trim(x[4+n:], "\x00") != "" {
			return nil, "", false
		}
		body += x[4 : 4+n]
		page = next
	}
	if len(body) != b.Size {
		return nil, "", false
	}
	return l, body, true
}

// readers are the functions that abort if a blob is not valid.
var readers = []func(h *heap.Heap, b api.Blob){
	func(h *heap.Heap, b api.Blob) { Get(h, b) },
	func(h *heap.Heap, b api.Blob) { Pages(h, b) },
	Drop,
}

// isRefused fails if a function does not abort with ErrForm, or if it changes
// anything.
func isRefused(t *testing.T, i, n int, prepare func(h *heap.Heap) api.Blob) {
	t.Helper()
	for j, by := range readers {
		s := formatted(t, n)
		if why := heap.Do(s, func(h *heap.Heap) {
			by(h, prepare(h))
			t.Error(i, j, "it went on")
		}); why != api.ErrForm || s.Waiting() != 0 {
			t.Error(i, j, why)
		}
	}
}

func TestP14_2BlobsThatAreNotValid(t *testing.T) {
	for i, b := range []api.Blob{
		// The size.
		{First: 9, Size: 999}, {First: 9, Size: 1001}, {First: 9, Size: 0}, {First: 9, Size: -1}, {First: 9, Size: math.MinInt}, {First: 9, Size: math.MaxInt},
		{First: 9, Size: 476}, {First: 9, Size: 952}, {First: 9, Size: 1428}, {First: 9, Size: 1476}, {First: 9, Size: 4096}, {First: 9, Size: 4097},
		{First: 9, Size: 1 << 32}, {First: 9, Size: 1000 + 1<<32}, {First: 12, Size: 47}, {First: 12, Size: 49}, {First: 12, Size: 0},
		// The first page.
		{First: 0, Size: 1}, {First: 0, Size: 1000}, {First: 0, Size: -1}, {First: 0, Size: math.MinInt}, {First: 1, Size: 1}, {First: 1, Size: 0}, {First: 3, Size: 1000},
		{First: 2, Size: 1000}, {First: 2, Size: 0}, {First: 15, Size: 1}, {First: 16, Size: 1}, {First: 16, Size: 0}, {First: 3839, Size: 1}, {First: 3840, Size: 1},
		{First: 9 + 65536, Size: 1000}, {First: -1, Size: 1}, {First: -1, Size: 0}, {First: -1, Size: -1}, {First: -9, Size: 1000}, {First: math.MinInt, Size: 1}, {First: math.MaxInt, Size: math.MaxInt},
		{First: 9 + 1<<32, Size: 1000},
	} {
		isRefused(t, i, 16, func(h *heap.Heap) api.Blob {
			chained(h)
			return b
		})
	}
}

func TestP14_2ChainsThatAreNotValid(t *testing.T) {
	data := text(476)
	for i, change := range []func(h *heap.Heap, b *api.Blob){
		// Pages that are not in use, or do not exist.
		func(h *heap.Heap, b *api.Blob) { setUsed(h, 9, false) },
		func(h *heap.Heap, b *api.Blob) { setUsed(h, 3, false) },
		func(h *heap.Heap, b *api.Blob) { setUsed(h, 12, false) },
		func(h *heap.Heap, b *api.Blob) { putPage(h, 3, 16, data); setUsed(h, 16, true) },
		func(h *heap.Heap, b *api.Blob) { putPage(h, 3, 3839, data); setUsed(h, 3839, true) },
		func(h *heap.Heap, b *api.Blob) { putPage(h, 3, 3840, data) },
		func(h *heap.Heap, b *api.Blob) { putPage(h, 3, 65535, data) },
		func(h *heap.Heap, b *api.Blob) { setUsed(h, 16, true); *b = api.Blob{First: 16, Size: 1} },
		// The root page and the bitmap, as pages of a body.
		func(h *heap.Heap, b *api.Blob) { putPage(h, 3, 1, data) },
		func(h *heap.Heap, b *api.Blob) {
			putPage(h, 0, 0, "x")
			setUsed(h, 0, true)
			*b = api.Blob{First: 0, Size: 1}
		},
		func(h *heap.Heap, b *api.Blob) {
			putPage(h, 0, 3, data)
			setUsed(h, 0, true)
			*b = api.Blob{First: 0, Size: 1000}
		},
		func(h *heap.Heap, b *api.Blob) { h.Put(1, aPage(512, data)); *b = api.Blob{First: 1, Size: 476} },
		// The end of the chain.
		func(h *heap.Heap, b *api.Blob) { putPage(h, 12, 2, data[:48]) },
		func(h *heap.Heap, b *api.Blob) { putPage(h, 12, 2, data[:48]); putPage(h, 2, 0, "x") },
		func(h *heap.Heap, b *api.Blob) { putPage(h, 12, 2, data[:48]); putPage(h, 2, 0, "x"); b.Size = 1001 },
		func(h *heap.Heap, b *api.Blob) { putPage(h, 3, 0, data) },
		func(h *heap.Heap, b *api.Blob) { putPage(h, 9, 0, data) },
		func(h *heap.Heap, b *api.Blob) { putPage(h, 12, 2, data); putPage(h, 2, 0, ""); b.Size = 1428 },
		// Pages before the last one that are not full.
		func(h *heap.Heap, b *api.Blob) { putPage(h, 9, 3, data[:475]); b.Size = 999 },
		func(h *heap.Heap, b *api.Blob) { putPage(h, 3, 12, data[:475]); b.Size = 999 },
		func(h *heap.Heap, b *api.Blob) { putPage(h, 3, 12, data[:475]); putPage(h, 12, 0, data[:49]) },
		func(h *heap.Heap, b *api.Blob) { putPage(h, 3, 12, ""); b.Size = 524 },
		// More data than the size.
		func(h *heap.Heap, b *api.Blob) { putPage(h, 12, 0, data); b.Size = 1427 },
		func(h *heap.Heap, b *api.Blob) { putPage(h, 12, 0, data); b.Size = 953 },
		func(h *heap.Heap, b *api.Blob) { putPage(h, 12, 0, data); b.Size = 952 },
		// The number of data bytes.
		func(h *heap.Heap, b *api.Blob) { putPage(h, 12, 0, ""); b.Size = 952 },
		func(h *heap.Heap, b *api.Blob) { putPage(h, 9, 0, ""); b.Size = 0 },
		func(h *heap.Heap, b *api.Blob) { h.Put(9, noughts(480)); b.Size = 0 },
		func(h *heap.Heap, b *api.Blob) { h.Put(9, noughts(480)) },
		func(h *heap.Heap, b *api.Blob) { h.Put(12, "\x00\x00\x01\xdd"+data); b.Size = 1429 },
		func(h *heap.Heap, b *api.Blob) { h.Put(12, "\x00\x00\x01\xdd"+data); b.Size = 1428 },
		func(h *heap.Heap, b *api.Blob) { h.Put(12, "\x00\x00\xff\xff"+data); b.Size = 952 + 65535 },
		func(h *heap.Heap, b *api.Blob) { h.Put(9, "\x00\x03\x01\xdd"+data); b.Size = 1001 },
		func(h *heap.Heap, b *api.Blob) { h.Put(9, "\x00\x03\x01\xdd"+data) },
		func(h *heap.Heap, b *api.Blob) { setByte(h, 12, 3, 47) },
		func(h *heap.Heap, b *api.Blob) { setByte(h, 12, 3, 49) },
		func(h *heap.Heap, b *api.Blob) { setByte(h, 12, 2, 1) },
		// Other bytes behind the data.
		func(h *heap.Heap, b *api.Blob) { setByte(h, 12, 52, 1) },
		func(h *heap.Heap, b *api.Blob) { setByte(h, 12, 479, 1) },
		func(h *heap.Heap, b *api.Blob) { setByte(h, 12, 300, 255) },
		// Pages that repeat.
		func(h *heap.Heap, b *api.Blob) { putPage(h, 3, 9, data) },
		func(h *heap.Heap, b *api.Blob) { putPage(h, 3, 3, data) },
		func(h *heap.Heap, b *api.Blob) { putPage(h, 9, 9, data) },
		func(h *heap.Heap, b *api.Blob) { putPage(h, 9, 9, data); b.Size = 476 },
		func(h *heap.Heap, b *api.Blob) { putPage(h, 9, 9, data); b.Size = 952 },
		func(h *heap.Heap, b *api.Blob) { putPage(h, 9, 9, data); b.Size = 4096 },
		func(h *heap.Heap, b *api.Blob) { putPage(h, 9, 9, data); b.Size = 16 * 476 },
		func(h *heap.Heap, b *api.Blob) { putPage(h, 9, 9, data); b.Size = math.MaxInt },
		func(h *heap.Heap, b *api.Blob) { putPage(h, 3, 9, data); b.Size = math.MaxInt / 476 * 476 },
		func(h *heap.Heap, b *api.Blob) { putPage(h, 12, 3, data[:48]) },
		func(h *heap.Heap, b *api.Blob) { putPage(h, 12, 3, data); b.Size = 1428 },
		func(h *heap.Heap, b *api.Blob) { putPage(h, 12, 9, data); b.Size = 3 * 1428 },
	} {
		isRefused(t, i, 16, func(h *heap.Heap) api.Blob {
			b := chained(h)
			change(h, &b)
			if _, _, ok := inspect(h, b); ok {
				t.Fatal(i, "it is valid")
			}
			return b
		})
	}
}

// The bitmap happens to be a page of a body that is in use itself, and so does
// its next page.
func TestP14_2TheBitmapIsNoPageOfABody(t *testing.T) {
	prepare := func(h *heap.Heap) {
		h.Put(1, "\x02\x00\x01\xdc"+noughts(476))
		putPage(h, 40, 1, text(476))
		putPage(h, 512, 0, "x")
		if !bitmap.Used(h.Get(1), 1) || h.Get(1)[:4] != "\x02\x00\x01\xdc" {
			t.Error("the bitmap")
		}
	}
	for i, b := range []api.Blob{{First: 1, Size: 477}, {First: 40, Size: 953}} {
		isRefused(t, i, 600, func(h *heap.Heap) api.Blob {
			prepare(h)
			return b
		})
	}
}

func noughts(n int) string { return strings.Repeat("\x00", n) }

// Chains with random changes are held against the document's words.
func TestP14_2ChangedChains(t *testing.T) {
	r := rand.New(rand.NewSource(14))
	s := formatted(t, 16)
	valid := 0
	for i := range 4000 {
		var l []int
		var body string
		var ok bool
		why := heap.View(s, func(h *heap.Heap) {
			b := chained(h)
			page := []int{9, 3, 12}[r.Intn(3)]
			switch r.Intn(7) {
			case 0:
				setByte(h, page, r.Intn(480), byte(r.Intn(256)))
			case 1:
				setByte(h, page, r.Intn(4), byte(r.Intn(16)))
			case 2:
				setUsed(h, r.Intn(16), r.Intn(2) == 0)
			case 3:
				putPage(h, page, r.Intn(18), text(r.Intn(477)))
			case 4:
				b.First = r.Intn(18)
			case 5:
				b = api.Blob{First: []int{9, 3, 12}[r.Intn(3)], Size: []int{1000, 524, 48}[r.Intn(3)]}
			case 6:
				putPage(h, page, []int{9, 3, 12, 0}[r.Intn(4)], text(476))
				b.Size = 476 * r.Intn(6)
			}
			l, body, ok = inspect(h, b)
			got := Pages(h, b)
			if !ok || !slices.Equal(got, l) || Get(h, b) != body {
				t.Error(i, got, l)
			}
		})
		if ok != (why == api.OK) || !ok && why != api.ErrForm {
			t.Fatal(i, ok, why)
		}
		if ok {
			valid++
		}
	}
	if valid < 200 || valid > 3800 {
		t.Error(valid)
	}
}

func TestP14_2DropTwice(t *testing.T) {
	s := formatted(t, 16)
	var b api.Blob
	do(t, s, func(h *heap.Heap) {
		Put(h, text(500))
		b = Put(h, text(1000))
		Put(h, text(500))
	})
	do(t, s, func(h *heap.Heap) { Drop(h, b) })
	for i, by := range readers {
		if why := heap.Do(s, func(h *heap.Heap) { by(h, b) }); why != api.ErrForm {
			t.Error(i, why)
		}
	}
	if why := heap.Do(s, func(h *heap.Heap) {
		again := Put(h, text(300))
		Drop(h, again)
		Drop(h, again)
	}); why != api.ErrForm {
		t.Error(why)
	}
}

// user is a store with bodies, and what its user remembers.
type user struct {
	r      *rand.Rand
	bodies map[api.Blob]string
	items  map[string]string
	taken  []int
}

func (u *user) clone() *user {
	return &user{u.r, maps.Clone(u.bodies), maps.Clone(u.items), slices.Clone(u.taken)}
}

func (u *user) some() string {
	size := []int{u.r.Intn(20), u.r.Intn(500), u.r.Intn(4097), 476 * u.r.Intn(9)}[u.r.Intn(4)]
	b := make([]byte, size)
	if u.r.Intn(4) > 0 {
		u.r.Read(b)
	}
	return string(b)
}

// aBlob returns one of the blobs.
func (u *user) aBlob() api.Blob {
	l := slices.SortedFunc(maps.Keys(u.bodies), func(a, b api.Blob) int { return a.First - b.First })
	return l[u.r.Intn(len(l))]
}

func (u *user) put(t *testing.T, h *heap.Heap) {
	t.Helper()
	body := u.some()
	free, before := h.Free(), h.Get(1)
	b := Put(h, body)
	l := Pages(h, b)
	if free-h.Free() != Need(len(body)) || len(l) != Need(len(body)) || b.Size != len(body) {
		t.Error(b, free, h.Free())
	}
	for _, page := range l {
		if bitmap.Used(before, page) {
			t.Error(page, "was in use")
		}
	}
	if len(body) > 0 {
		u.bodies[b] = body
	}
}

func (u *user) drop(t *testing.T, h *heap.Heap) {
	t.Helper()
	if len(u.bodies) == 0 {
		return
	}
	b := u.aBlob()
	free := h.Free()
	Drop(h, b)
	if h.Free()-free != Need(b.Size) {
		t.Error(b, free, h.Free())
	}
	delete(u.bodies, b)
}

// other uses pages for other things.
func (u *user) other(h *heap.Heap) {
	switch k := string([]byte{byte(u.r.Intn(60))}); u.r.Intn(4) {
	case 0:
		u.items[k] = text(u.r.Intn(65))
		tree.Put(h, k, u.items[k])
	case 1:
		tree.Delete(h, k)
		delete(u.items, k)
	case 2:
		page := h.Take()
		h.Put(page, strings.Repeat("\xff", 480))
		u.taken = append(u.taken, page)
	default:
		if n := len(u.taken); n > 0 {
			h.Give(u.taken[n-1])
			u.taken = u.taken[:n-1]
		}
	}
}

func (u *user) check(t *testing.T, h *heap.Heap) {
	t.Helper()
	n := len(u.taken) + len(tree.Pages(h))
	for b, body := range u.bodies {
		if Get(h, b) != body {
			t.Error("another body", b)
		}
		n += Need(len(body))
	}
	for k, v := range u.items {
		if got, have := tree.Get(h, k); got != v || !have {
			t.Errorf("another item %q", k)
		}
	}
	if tree.Check(h) != api.OK || tree.Many(h) != uint64(len(u.items)) || h.Free() != h.Pages()-2-n {
		t.Error(tree.Check(h), h.Free(), n)
	}
}

func TestP14_3RoundTrip(t *testing.T) {
	for seed := range int64(12) {
		s := formatted(t, []int{12, 40, 120}[seed%3])
		u := &user{rand.New(rand.NewSource(seed)), map[api.Blob]string{}, map[string]string{}, nil}
		full := 0
		for i := range 400 {
			next := u.clone()
			why := heap.Do(s, func(h *heap.Heap) {
				for range 1 + u.r.Intn(4) {
					switch u.r.Intn(4) {
					case 0:
						next.other(h)
					case 1:
						next.drop(t, h)
					default:
						next.put(t, h)
					}
				}
				if u.r.Intn(6) == 0 {
					h.Stop(api.ErrQuota)
				}
			})
			switch why {
			case api.OK:
				u = next
			case api.ErrDisk:
				full++
			case api.ErrQuota:
			default:
				t.Fatal(seed, i, why)
			}
			view(t, s, func(h *heap.Heap) { u.check(t, h) })
			if full%20 == 19 {
				full++
				do(t, s, func(h *heap.Heap) {
					for len(u.bodies) > 0 {
						u.drop(t, h)
					}
				})
			}
			if t.Failed() {
				t.Fatal(seed, i)
			}
		}
		if full < 10 {
			t.Error(seed, full)
		}
	}
}

func TestP14_3OfAllSizes(t *testing.T) {
	s := formatted(t, 12)
	for size := range 4097 {
		body := bytes.Repeat([]byte{0}, size)
		for i := range body {
			body[i] = byte(i + size)
		}
		view(t, s, func(h *heap.Heap) {
			b := Put(h, string(body))
			if l, got, ok := inspect(h, b); Get(h, b) != string(body) || !slices.Equal(Pages(h, b), l) || got != string(body) || !ok {
				t.Error(size)
			}
			Drop(h, b)
			if h.Free() != 10 {
				t.Error(size, h.Free())
			}
		})
	}
}

func TestP14_3AfterLoad(t *testing.T) {
	size, _ := pages.Size(20, 30)
	d, _ := disk.New(size)
	s, why := pages.Format(d, 20, 30)
	must(t, why)
	var b api.Blob
	do(t, s, func(h *heap.Heap) { b = Put(h, text(3000)) })
	must(t, s.Flush())
	do(t, s, func(h *heap.Heap) { Drop(h, b) })
	d.Up()
	s, why = pages.Load(d)
	must(t, why)
	view(t, s, func(h *heap.Heap) {
		if Get(h, b) != text(3000) {
			t.Error("another body")
		}
	})
}

// all calls every function.
func all(h *heap.Heap) (api.Blob, string, []int) {
	for _, b := range []api.Blob{{First: 2, Size: 1}, {Size: 1}, {First: 2}, {First: 1, Size: -1}, {First: math.MaxInt, Size: math.MaxInt}, {First: math.MinInt, Size: math.MinInt}} {
		Drop(h, b)
		if Get(h, b) != "" || len(Pages(h, b)) != 0 {
			return b, Get(h, b), Pages(h, b)
		}
	}
	if b := Put(h, text(5000)); b != (api.Blob{}) {
		return b, "", nil
	}
	return Put(h, text(1000)), Get(h, api.Blob{}), Pages(h, api.Blob{})
}

func TestP1WithoutATransaction(t *testing.T) {
	s := formatted(t, 8)
	var ended *heap.Heap
	do(t, s, func(h *heap.Heap) {
		ended = h
		Put(h, "x")
	})
	for i, h := range []*heap.Heap{nil, {}, ended} {
		if b, body, l := all(h); b != (api.Blob{}) || body != "" || len(l) != 0 {
			t.Error(i, b, body, l)
		}
	}
	view(t, s, func(h *heap.Heap) {
		if Get(h, api.Blob{First: 2, Size: 1}) != "x" || h.Free() != 5 {
			t.Error("it was changed")
		}
	})
}

func TestP1OnSpoiltPages(t *testing.T) {
	// All errors are ErrForm, whatever the pages contain.
	r := rand.New(rand.NewSource(15))
	for _, n := range []int{8, 300, 3840} {
		s := formatted(t, n)
		for i := range 200 {
			for _, by := range readers {
				why := heap.View(s, func(h *heap.Heap) {
					h.Put(1, strings.Repeat(string([]byte{byte(255 << r.Intn(3))}), 480))
					for range 20 {
						h.Put(r.Intn(n), aPage(r.Intn(n+2), text(476)))
					}
					by(h, api.Blob{First: r.Intn(n), Size: r.Intn(10) * 476})
				})
				if why != api.OK && why != api.ErrForm {
					t.Fatal(n, i, why)
				}
			}
		}
		// A circle through all pages.
		for _, by := range readers {
			why := heap.View(s, func(h *heap.Heap) {
				h.Put(1, strings.Repeat("\xff", 480))
				for page := 2; page < n; page++ {
					h.Put(page, aPage(max((page+1)%n, 2), text(476)))
				}
				by(h, api.Blob{First: 2, Size: math.MaxInt})
			})
			if why != api.ErrForm {
				t.Error(n, why)
			}
		}
	}
}

func TestP2ResultsAreNewMemory(t *testing.T) {
	s := formatted(t, 16)
	view(t, s, func(h *heap.Heap) {
		b := chained(h)
		l := Pages(h, b)
		l[0], l[1] = 0, 0
		if !slices.Equal(Pages(h, b), []int{9, 3, 12}) {
			t.Error("it is shared")
		}
	})
}
