package heap

import (
	"math"
	"math/rand"
	"runtime"
	"slices"
	"strings"
	"testing"

	"wharfage/api"
	"wharfage/disk"
	"wharfage/pages"
)

var noughts = strings.Repeat("\x00", 480)

func text(c byte) string { return strings.Repeat(string([]byte{c}), 480) }

func must(t *testing.T, why api.Errno) {
	t.Helper()
	if why != api.OK {
		t.Fatal(why)
	}
}

// formatted returns an empty store, with its disk.
func formatted(t *testing.T, n, size int) (*disk.Disk, *pages.Store) {
	t.Helper()
	d, why := disk.New(1 + size + n)
	must(t, why)
	s, why := pages.Format(d, n, size)
	must(t, why)
	return d, s
}

func contents(t *testing.T, s *pages.Store) []string {
	t.Helper()
	var l []string
	for i := range s.Pages() {
		x, why := s.Read(i)
		must(t, why)
		l = append(l, x)
	}
	return l
}

// state is all that is observed of a store and its disk.
type state struct {
	texts                []string
	room, waiting, dirty int
	epoch                uint64
	ops                  int64
	pending              int
}

func stateOf(t *testing.T, d *disk.Disk, s *pages.Store) state {
	t.Helper()
	return state{contents(t, s), s.Room(), s.Waiting(), s.Fresh(), s.Epoch(), int64(d.Ops()), d.Pending()}
}

func (a state) is(b state) bool {
	return slices.Equal(a.texts, b.texts) && a.room == b.room && a.waiting == b.waiting && a.dirty == b.dirty &&
		a.epoch == b.epoch && a.ops == b.ops && a.pending == b.pending
}

// unchanged fails if f changes anything of a store.
func unchanged(t *testing.T, d *disk.Disk, s *pages.Store, f func()) {
	t.Helper()
	before := stateOf(t, d, s)
	f()
	if after := stateOf(t, d, s); !before.is(after) {
		t.Errorf("it has changed: room %d %d, waiting %d %d, dirty %d %d, operations %d %d", before.room, after.room,
			before.waiting, after.waiting, before.dirty, after.dirty, before.ops, after.ops)
	}
}

// bits returns a bitmap in which exactly these pages are in use.
func bits(used ...int) string {
	b := make([]byte, 480)
	for _, i := range used {
		b[i/8] |= 1 << (i % 8)
	}
	return string(b)
}

func TestP11_1NilArguments(t *testing.T) {
	d, s := formatted(t, 8, 6)
	called := false
	by := func(h *Heap) { called = true }
	for _, run := range []func(*pages.Store, func(*Heap)) api.Errno{Do, View} {
		unchanged(t, d, s, func() {
			if why := run(nil, by); why != api.ErrArg {
				t.Error(why)
			}
			if why := run(s, nil); why != api.ErrArg {
				t.Error(why)
			}
			if why := run(nil, nil); why != api.ErrArg {
				t.Error(why)
			}
		})
	}
	if called {
		t.Error("it was called without a store")
	}
}

func TestP11_1CallsOnce(t *testing.T) {
	_, s := formatted(t, 8, 6)
	n := 0
	must(t, Do(s, func(h *Heap) { n++ }))
	if n != 1 {
		t.Error(n)
	}
	must(t, View(s, func(h *Heap) { n++ }))
	if n != 2 {
		t.Error(n)
	}
}

func TestP11_1DoCommitsWhatDiffersInOrder(t *testing.T) {
	d, s := formatted(t, 8, 6)
	must(t, Do(s, func(h *Heap) { h.Put(4, text('d')) }))
	epoch, room := s.Epoch(), s.Room()
	must(t, Do(s, func(h *Heap) {
		h.Put(7, text('x'))
		h.Put(3, text('y'))
		h.Put(4, text('d')) // as it is
		h.Put(5, text('z'))
		h.Put(5, noughts) // as it was
		h.Put(0, text('r'))
		h.Put(3, text('c'))
	}))
	if want := []string{text('r'), noughts, noughts, text('c'), text('d'), noughts, noughts, text('x')}; !slices.Equal(contents(t, s), want) {
		t.Error("contents")
	}
	// Three images and the sector that completes the transaction.
	if s.Epoch() != epoch || s.Room() != room-4 || s.Waiting() != 2 || s.Fresh() != 4 {
		t.Error(s.Epoch(), s.Room(), s.Waiting(), s.Fresh())
	}
	must(t, s.Flush())
	again, why := pages.Load(d)
	must(t, why)
	if !slices.Equal(contents(t, again), contents(t, s)) {
		t.Error("contents after Load")
	}
}

func TestP11_1ImagesAreInIncreasingOrder(t *testing.T) {
	// The journal begins at sector 1, and each image has a sector of its own
	// that contains the page's bytes: they are found in the order of pages,
	// whatever the order of the changes.
	for _, order := range [][]int{{2, 3, 4, 5, 6}, {6, 5, 4, 3, 2}, {4, 6, 2, 5, 3}} {
		d, s := formatted(t, 8, 12)
		must(t, Do(s, func(h *Heap) {
			for _, p := range order {
				h.Put(p, text(byte('0'+p)))
			}
		}))
		must(t, s.Flush())
		var got string
		for i := range 5 {
			x, why := d.Read(1 + i)
			must(t, why)
			for p := range 8 {
				if strings.Contains(x, text(byte('0'+p))) {
					got += string([]byte{byte('0' + p)})
				}
			}
		}
		if got != "23456" {
			t.Error(order, got)
		}
	}
}

func TestP11_1NoCommitIfNothingDiffers(t *testing.T) {
	d, s := formatted(t, 8, 6)
	must(t, Do(s, func(h *Heap) { h.Put(3, text('a')) }))
	idle := []func(h *Heap){
		func(h *Heap) {},
		func(h *Heap) { h.Get(3); h.Free(); h.Pages() },
		func(h *Heap) { h.Put(3, text('a')); h.Put(4, noughts) },
		func(h *Heap) { h.Put(3, text('b')); h.Put(3, text('a')) },
		func(h *Heap) { h.Give(h.Take()) },
	}
	for i, by := range idle {
		unchanged(t, d, s, func() {
			if why := Do(s, by); why != api.OK {
				t.Error(i, why)
			}
		})
	}
	d.Arm(1)
	s.Flush()
	if !d.Down() {
		t.Fatal("it is up")
	}
	for i, by := range idle {
		if why := Do(s, by); why != api.OK {
			t.Error(i, why, "on a disk that is down")
		}
	}
}

func TestP11_1DoReturnsTheErrorOfCommit(t *testing.T) {
	d, s := formatted(t, 8, 4)
	must(t, Do(s, func(h *Heap) { h.Put(5, text('a')) }))
	fill := func(n int) func(h *Heap) {
		return func(h *Heap) {
			for p := range n {
				h.Put(p, text('x'))
			}
		}
	}
	for _, n := range []int{4, 5, 8} {
		unchanged(t, d, s, func() {
			if why := Do(s, fill(n)); why != api.ErrJournal {
				t.Error(n, why)
			}
		})
	}
	must(t, Do(s, fill(3)))
	d.Arm(1)
	before := contents(t, s)
	if why := Do(s, fill(2)); why != api.OK {
		t.Error(why, "nothing differs")
	}
	for range 2 { // it goes down, and it is down
		if why := Do(s, func(h *Heap) { h.Put(2, text('z')) }); why != api.ErrDown {
			t.Error(why)
		}
	}
	if why := Do(s, func(h *Heap) {
		for p := range 8 {
			h.Put(p, text('w'))
		}
	}); why != api.ErrJournal {
		t.Error(why, "comes before ErrDown")
	}
	if !slices.Equal(contents(t, s), before) {
		t.Error("it has changed")
	}
}

func TestP11_1ViewCommitsNothing(t *testing.T) {
	d, s := formatted(t, 8, 4)
	must(t, Do(s, func(h *Heap) { h.Put(5, text('a')); h.Take() }))
	unchanged(t, d, s, func() {
		must(t, View(s, func(h *Heap) {
			for p := range 8 { // more than the journal has room for
				h.Put(p, text('x'))
			}
			if h.Get(5) != text('x') {
				t.Error("a change is not seen in its transaction")
			}
		}))
		must(t, View(s, func(h *Heap) {
			if h.Get(5) != text('a') {
				t.Error("a change of another view is seen")
			}
			h.Give(2)
			if h.Take() != 2 || h.Take() != 3 {
				t.Error("pages of a view")
			}
		}))
		if why := View(s, func(h *Heap) { h.Put(3, text('x')); h.Stop(api.ErrKey) }); why != api.ErrKey {
			t.Error(why)
		}
	})
	d.Arm(1)
	s.Flush()
	must(t, View(s, func(h *Heap) { h.Put(5, text('x')) }))
}

// own is a panic of the caller.
type own struct{ n int }

func TestP11_1OtherPanicsArePassedOn(t *testing.T) {
	d, s := formatted(t, 8, 6)
	var list []int
	for i, by := range []func(h *Heap){
		func(h *Heap) { h.Put(3, text('a')); panic("other") },
		func(h *Heap) { h.Put(3, text('a')); panic(api.ErrArg) },
		func(h *Heap) { h.Take(); panic(own{3}) },
		func(h *Heap) { h.Take(); list[h.Pages()]++ },
		func(h *Heap) { h.Take(); panic(nil) },
		func(h *Heap) { panic(&own{4}) },
	} {
		for j, run := range []func(*pages.Store, func(*Heap)) api.Errno{Do, View} {
			unchanged(t, d, s, func() {
				defer func() {
					switch x := recover().(type) {
					case string:
						if i != 0 || x != "other" {
							t.Error(i, j, x)
						}
					case api.Errno:
						if i != 1 || x != api.ErrArg {
							t.Error(i, j, x)
						}
					case own:
						if i != 2 || x.n != 3 {
							t.Error(i, j, x)
						}
					case *runtime.PanicNilError:
						if i != 4 {
							t.Error(i, j, x)
						}
					case runtime.Error:
						if i != 3 {
							t.Error(i, j, x)
						}
					case *own:
						if i != 5 || x.n != 4 {
							t.Error(i, j, x)
						}
					default:
						t.Error(i, j, x)
					}
				}()
				run(s, by)
				t.Error(i, j, "it went on")
			})
		}
	}
	// The store can be used as before.
	must(t, Do(s, func(h *Heap) {
		if h.Take() != 2 {
			t.Error("a page of a panic")
		}
	}))
}

func TestP11_1AnEndedGoroutineCommitsNothing(t *testing.T) {
	d, s := formatted(t, 8, 6)
	unchanged(t, d, s, func() {
		done := make(chan bool)
		go func() {
			defer close(done)
			Do(s, func(h *Heap) {
				h.Put(3, text('a'))
				runtime.Goexit()
			})
			t.Error("it went on")
		}()
		<-done
	})
}

func TestP11_1AbortsOfTransactionsWithinOthers(t *testing.T) {
	d, s := formatted(t, 8, 6)
	_, other := formatted(t, 8, 6)
	// The inner one aborts, and the outer one goes on.
	must(t, Do(s, func(h *Heap) {
		h.Put(3, text('a'))
		if why := Do(other, func(in *Heap) { in.Put(3, text('b')); in.Stop(api.ErrKey) }); why != api.ErrKey {
			t.Error(why)
		}
		h.Put(4, text('a'))
	}))
	if l := contents(t, s); l[3] != text('a') || l[4] != text('a') {
		t.Error("the outer one")
	}
	if l := contents(t, other); l[3] != noughts {
		t.Error("the inner one")
	}
	// The outer one aborts within the inner one, which is no error of that.
	unchanged(t, d, s, func() {
		if why := Do(s, func(h *Heap) {
			h.Put(3, text('c'))
			why := Do(other, func(in *Heap) { in.Put(3, text('d')); h.Get(99) })
			t.Error(why, "the outer one went on")
		}); why != api.ErrArg {
			t.Error(why)
		}
	})
	if l := contents(t, other); l[3] != noughts {
		t.Error("the inner one was committed")
	}
	// A transaction sees what was committed most recently.
	must(t, Do(s, func(h *Heap) {
		must(t, Do(s, func(in *Heap) { in.Put(5, text('e')) }))
		if h.Get(5) != text('e') {
			t.Error("what was committed is not seen")
		}
		h.Put(6, text('f'))
	}))
	if l := contents(t, s); l[5] != text('e') || l[6] != text('f') {
		t.Error("both were committed")
	}
}

func TestP11_1AnAbortThatWasRecoveredIsOne(t *testing.T) {
	d, s := formatted(t, 8, 6)
	unchanged(t, d, s, func() {
		if why := Do(s, func(h *Heap) {
			defer func() { recover() }()
			h.Put(3, text('a'))
			h.Stop(api.ErrQuota)
		}); why != api.ErrQuota {
			t.Error(why)
		}
		// The first error is that of the transaction.
		if why := Do(s, func(h *Heap) {
			defer h.Give(1)
			h.Stop(api.ErrKey)
		}); why != api.ErrKey {
			t.Error(why)
		}
	})
}

func TestP11_2Pages(t *testing.T) {
	for _, n := range []int{8, 9, 100, 3840} {
		_, s := formatted(t, n, 4)
		must(t, View(s, func(h *Heap) {
			if h.Pages() != n {
				t.Error(h.Pages(), n)
			}
		}))
	}
}

// noPages are pages that a store of 8 pages does not have.
var noPages = []int{-1, -2, 8, 9, 3839, 3840, 1 << 32, math.MinInt, math.MaxInt}

// aborts fails if by does not abort with that error, or changes anything.
func aborts(t *testing.T, d *disk.Disk, s *pages.Store, want api.Errno, by func(h *Heap)) {
	t.Helper()
	for _, run := range []func(*pages.Store, func(*Heap)) api.Errno{Do, View} {
		unchanged(t, d, s, func() {
			t.Helper()
			why := run(s, func(h *Heap) {
				h.Put(0, text('?'))
				h.Take()
				by(h)
				t.Error("it went on")
			})
			if why != want {
				t.Error(why, want)
			}
		})
	}
}

func TestP11_2GetAndPut(t *testing.T) {
	d, s := formatted(t, 8, 12)
	must(t, Do(s, func(h *Heap) {
		for p := range 8 {
			if h.Get(p) != noughts {
				t.Error(p)
			}
			h.Put(p, text(byte('a'+p)))
			if h.Get(p) != text(byte('a'+p)) {
				t.Error(p)
			}
			h.Put(p, text(byte('A'+p)))
		}
		for p := range 8 {
			if h.Get(p) != text(byte('A'+p)) {
				t.Error(p)
			}
			if x, _ := s.Read(p); x != noughts {
				t.Error(p, "is changed before the end")
			}
		}
	}))
	for p, x := range contents(t, s) {
		if x != text(byte('A'+p)) {
			t.Error(p)
		}
	}
	must(t, Do(s, func(h *Heap) { h.Put(1, noughts) })) // so that pages can be taken
	for _, p := range noPages {
		aborts(t, d, s, api.ErrArg, func(h *Heap) { h.Get(p) })
		aborts(t, d, s, api.ErrArg, func(h *Heap) { h.Put(p, noughts) })
		aborts(t, d, s, api.ErrArg, func(h *Heap) { h.Put(p, "") })
	}
	for _, x := range []string{"", "x", noughts[:479], noughts + "x", noughts + noughts} {
		for p := range 8 {
			aborts(t, d, s, api.ErrArg, func(h *Heap) { h.Put(p, x) })
		}
	}
}

func TestP11_2TakeIsTheLowestFreePage(t *testing.T) {
	d, s := formatted(t, 8, 12)
	// A page keeps what it had until it is taken.
	must(t, Do(s, func(h *Heap) {
		for p := 2; p < 8; p++ {
			h.Put(p, text('x'))
		}
	}))
	must(t, Do(s, func(h *Heap) {
		for p := 2; p < 5; p++ {
			if got := h.Take(); got != p || h.Get(p) != noughts || h.Get(p+1) != text('x') {
				t.Error(got, p)
			}
		}
		if h.Get(1) != bits(2, 3, 4) {
			t.Error("bits")
		}
		h.Give(3)
		if h.Get(1) != bits(2, 4) {
			t.Error("bits")
		}
		h.Put(3, text('y'))
		if got := h.Take(); got != 3 || h.Get(3) != noughts {
			t.Error(got)
		}
		for p := 5; p < 8; p++ {
			if got := h.Take(); got != p {
				t.Error(got, p)
			}
		}
	}))
	if l := contents(t, s); l[0] != noughts || l[1] != bits(2, 3, 4, 5, 6, 7) {
		t.Error("the bits of pages 0 and 1 have changed")
	}
	unchanged(t, d, s, func() {
		for _, run := range []func(*pages.Store, func(*Heap)) api.Errno{Do, View} {
			if why := run(s, func(h *Heap) { h.Put(0, text('?')); h.Take(); t.Error("it went on") }); why != api.ErrDisk {
				t.Error(why)
			}
		}
	})
}

func TestP11_2TakeGoesByTheBitmapOfTheStore(t *testing.T) {
	// Bits of pages that do not exist, and of pages 0 and 1, do not count and
	// do not change.
	d, s := formatted(t, 8, 12)
	must(t, Do(s, func(h *Heap) { h.Put(1, bits(0, 1, 3, 8, 9, 3839)) }))
	must(t, Do(s, func(h *Heap) {
		if h.Free() != 5 {
			t.Error(h.Free())
		}
		for _, want := range []int{2, 4, 5, 6, 7} {
			if got := h.Take(); got != want {
				t.Error(got, want)
			}
		}
		if h.Free() != 0 {
			t.Error(h.Free())
		}
		h.Give(3)
		if h.Free() != 1 || h.Get(1) != bits(0, 1, 2, 4, 5, 6, 7, 8, 9, 3839) {
			t.Error(h.Free())
		}
	}))
	for _, p := range []int{8, 9, 3839} {
		aborts(t, d, s, api.ErrArg, func(h *Heap) { h.Give(p) })
	}
	for _, p := range []int{0, 1} {
		aborts(t, d, s, api.ErrArg, func(h *Heap) { h.Give(p) })
	}
}

func TestP11_2TakeAllOfALargeStore(t *testing.T) {
	_, s := formatted(t, 3840, 1024)
	must(t, View(s, func(h *Heap) {
		for p := 2; p < 3840; p++ {
			if got := h.Take(); got != p || h.Free() != 3839-p {
				t.Fatal(got, p, h.Free())
			}
		}
	}))
	must(t, Do(s, func(h *Heap) { h.Put(1, text('\xff')) }))
	if why := Do(s, func(h *Heap) { h.Take() }); why != api.ErrDisk {
		t.Error(why)
	}
	must(t, Do(s, func(h *Heap) {
		h.Give(3839)
		if h.Free() != 1 || h.Take() != 3839 || h.Free() != 0 {
			t.Error("the last page")
		}
	}))
}

func TestP11_2Give(t *testing.T) {
	d, s := formatted(t, 8, 12)
	must(t, Do(s, func(h *Heap) {
		for range 3 {
			h.Put(h.Take(), text('x'))
		}
	}))
	must(t, Do(s, func(h *Heap) {
		h.Give(3)
		if h.Get(3) != text('x') || h.Get(1) != bits(2, 4) || h.Free() != 4 {
			t.Error("Give")
		}
	}))
	if l := contents(t, s); l[3] != text('x') || l[1] != bits(2, 4) {
		t.Error("Give")
	}
	for _, p := range noPages {
		aborts(t, d, s, api.ErrArg, func(h *Heap) { h.Give(p) })
	}
	for _, p := range []int{0, 1, 5, 6, 7} {
		aborts(t, d, s, api.ErrArg, func(h *Heap) { h.Give(p) })
	}
	aborts(t, d, s, api.ErrArg, func(h *Heap) { h.Give(2); h.Give(2) })
}

func TestP11_2Free(t *testing.T) {
	for _, n := range []int{8, 9, 50, 3840} {
		_, s := formatted(t, n, 4)
		must(t, Do(s, func(h *Heap) {
			if h.Free() != n-2 {
				t.Error(h.Free(), n)
			}
			p := h.Take()
			if h.Free() != n-3 {
				t.Error(h.Free(), n)
			}
			h.Take()
			h.Give(p)
			if h.Free() != n-3 {
				t.Error(h.Free(), n)
			}
		}))
		must(t, View(s, func(h *Heap) {
			if h.Free() != n-3 {
				t.Error(h.Free(), n)
			}
		}))
	}
}

func TestP11_2Stop(t *testing.T) {
	d, s := formatted(t, 8, 6)
	for why := range api.Errno(api.Errnos) {
		want := why
		if why == api.OK {
			want = api.ErrArg
		}
		aborts(t, d, s, want, func(h *Heap) { h.Stop(why) })
	}
	for _, why := range []api.Errno{-1, 21, math.MaxInt, math.MinInt} {
		aborts(t, d, s, why, func(h *Heap) { h.Stop(why) })
	}
}

func TestP1NoTransactionNoPanic(t *testing.T) {
	d, s := formatted(t, 8, 6)
	var done *Heap
	must(t, Do(s, func(h *Heap) { done = h; h.Take() }))
	var stopped *Heap
	if why := Do(s, func(h *Heap) { stopped = h; h.Stop(api.ErrKey) }); why != api.ErrKey {
		t.Error(why)
	}
	unchanged(t, d, s, func() {
		for i, h := range []*Heap{nil, {}, done, stopped} {
			for _, p := range append([]int{0, 1, 2}, noPages...) {
				if h.Get(p) != "" {
					t.Error(i, p)
				}
				h.Put(p, noughts)
				h.Put(p, "")
				h.Give(p)
			}
			if h.Pages() != 0 || h.Take() != 0 || h.Free() != 0 {
				t.Error(i)
			}
			h.Stop(api.OK)
			h.Stop(api.ErrQuota)
		}
	})
	// A store without pages has none that could be used.
	for _, by := range []func(h *Heap){
		func(h *Heap) { h.Get(0) }, func(h *Heap) { h.Put(0, noughts) }, func(h *Heap) { h.Give(2) },
	} {
		if why := Do(&pages.Store{}, by); why != api.ErrArg {
			t.Error(why)
		}
	}
	if why := Do(&pages.Store{}, func(h *Heap) { h.Take() }); why == api.OK {
		t.Error("a page of no store")
	}
}

// model is the plain contents of a store.
type model struct {
	texts [9]string
	used  [9]bool
}

// act performs one operation on the heap and on the model. It reports whether
// the operation is possible.
func act(t *testing.T, r *rand.Rand, h *Heap, m *model) bool {
	p := r.Intn(11) - 1
	exists := p >= 0 && p < 9
	switch r.Intn(8) {
	case 0, 1:
		x := text(byte(r.Intn(4)))
		if p == 1 {
			return true // the bitmap is the heap's
		}
		h.Put(p, x)
		if exists {
			m.texts[p] = x
		}
		return exists
	case 2, 3:
		want := slices.Index(m.used[:], false)
		if got := h.Take(); got != want {
			t.Error(got, want)
		}
		if want < 0 {
			return false
		}
		m.used[want], m.texts[want] = true, noughts
	case 4, 5:
		h.Give(p)
		if p < 2 || !exists || !m.used[p] {
			return false
		}
		m.used[p] = false
	case 6:
		if p != 1 && h.Get(p) != m.texts[p] {
			t.Error(p)
		}
	case 7:
		if r.Intn(4) == 0 {
			h.Stop(api.ErrKey)
			return false
		}
		n := 0
		for _, on := range m.used {
			if !on {
				n++
			}
		}
		if h.Free() != n {
			t.Error(h.Free(), n)
		}
	}
	return true
}

// same fails if a store differs from its model.
func same(t *testing.T, s *pages.Store, m model) {
	t.Helper()
	var used []int
	for p := 2; p < 9; p++ {
		if m.used[p] {
			used = append(used, p)
		}
	}
	m.texts[1] = bits(used...)
	if !slices.Equal(contents(t, s), m.texts[:]) {
		t.Error("the store differs from its model")
	}
}

func TestP11_3Atomicity(t *testing.T) {
	r := rand.New(rand.NewSource(11))
	kinds := map[api.Errno]int{}
	for range 150 {
		d, s := formatted(t, 9, 4+r.Intn(2))
		m := model{used: [9]bool{true, true}}
		for p := range m.texts {
			m.texts[p] = noughts
		}
		for range 40 {
			next := m
			before := contents(t, s)
			state := stateOf(t, d, s)
			n := r.Intn(8)
			why := Do(s, func(h *Heap) {
				for range n {
					if !act(t, r, h, &next) {
						t.Error("it went on")
					}
				}
			})
			kinds[why]++
			if why == api.OK {
				m = next
			} else if !stateOf(t, d, s).is(state) {
				t.Error(why, "something has changed")
			}
			same(t, s, m)
			if why != api.OK && !slices.Equal(contents(t, s), before) {
				t.Error(why)
			}
		}
	}
	for _, why := range []api.Errno{api.OK, api.ErrArg, api.ErrDisk, api.ErrKey, api.ErrJournal} {
		if kinds[why] < 10 {
			t.Error(why, kinds[why], "is hardly tested")
		}
	}
}

func TestP11_3FailuresOfTheDisk(t *testing.T) {
	// Wherever the disk fails, all of a transaction or nothing of it is loaded.
	by := func(c byte) func(h *Heap) {
		return func(h *Heap) {
			for range 2 {
				h.Put(h.Take(), text(c))
			}
			h.Put(0, text(c))
		}
	}
	for at := range 36 { // the three transactions need 34 operations of the disk
		for _, keep := range [][]bool{nil, {true}, {true, true}, {false, true, true}, {true, true, true, true}, slices.Repeat([]bool{true}, 30)} {
			d, s := formatted(t, 8, 5)
			d.Arm(at + 1)
			var all [][]string
			all = append(all, contents(t, s))
			safe := 0
			for _, c := range []byte{'a', 'b', 'c'} {
				before := contents(t, s)
				why := Do(s, by(c))
				if why == api.OK {
					all = append(all, contents(t, s))
				} else if why != api.ErrDown || !slices.Equal(contents(t, s), before) {
					t.Error(at, keep, why)
				}
				if s.Flush() == api.OK {
					safe = len(all) - 1
				}
			}
			done := len(all)
			if d.Down() && done < 4 {
				// What was about to be written may have survived.
				must(t, View(s, func(h *Heap) {
					by("abc"[done-1])(h)
					next := make([]string, 8)
					for p := range next {
						next[p] = h.Get(p)
					}
					all = append(all, next)
				}))
			}
			d.Up(keep...)
			again, why := pages.Load(d)
			must(t, why)
			l := contents(t, again)
			if i := slices.IndexFunc(all, func(x []string) bool { return slices.Equal(x, l) }); i < safe {
				t.Error(at, keep, i, safe)
			}
		}
	}
}
