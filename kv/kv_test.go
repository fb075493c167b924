package kv

import (
	"maps"
	"math"
	"math/rand"
	"slices"
	"strings"
	"testing"

	"wharfage/api"
	"wharfage/disk"
	"wharfage/heap"
	"wharfage/octets"
	"wharfage/pages"
	"wharfage/tree"
)

func must(t *testing.T, why api.Errno) {
	t.Helper()
	if why != api.OK {
		t.Fatal(why)
	}
}

// blank returns a disk for a store.
func blank(t *testing.T, n, journal int) *disk.Disk {
	t.Helper()
	size, why := pages.Size(n, journal)
	must(t, why)
	d, why := disk.New(size)
	must(t, why)
	return d
}

// formatted returns an empty store, with its disk.
func formatted(t *testing.T, n, journal int) (*disk.Disk, *Store) {
	t.Helper()
	d := blank(t, n, journal)
	s, why := Format(d, n, journal)
	must(t, why)
	return d, s
}

func do(t *testing.T, s *Store, by func(x *Tx)) {
	t.Helper()
	must(t, s.Do(by))
}

// view is do, but its changes are lost.
func view(t *testing.T, s *Store, by func(x *Tx)) {
	t.Helper()
	must(t, s.View(by))
}

// text returns n bytes, among them all values.
func text(n int) string {
	b := make([]byte, n)
	for i := range b {
		b[i] = byte(i*7 + i/256)
	}
	return string(b)
}

// model is what a user of a store remembers: the values of the items, but the
// bodies of those whose key begins with "b".
type model map[string]string

// refers returns the blob that an item refers to.
func refers(x api.Item) []api.Blob {
	if x.Key[0] != 'b' {
		return nil
	}
	r := octets.Open(x.Value)
	return []api.Blob{{First: int(r.Num(2)), Size: int(r.Num(2))}}
}

// set changes an item, or its body, in a transaction.
func set(x *Tx, key, value string) {
	if key[0] == 'b' {
		unset(x, key)
		b := x.Keep(value)
		value = octets.Num(2, uint64(b.First)) + octets.Num(2, uint64(b.Size))
	}
	x.Put(key, value)
}

// unset removes an item and its body in a transaction.
func unset(x *Tx, key string) {
	value, have := x.Get(key)
	if !have {
		return
	}
	for _, b := range refers(api.Item{Key: key, Value: value}) {
		x.Drop(b)
	}
	x.Delete(key)
}

// modelOf reads everything.
func modelOf(x *Tx) model {
	m := model{}
	l, _ := x.Scan("", "", math.MaxInt)
	for _, y := range l {
		m[y.Key] = y.Value
		for _, b := range refers(y) {
			m[y.Key] = x.Body(b)
		}
	}
	return m
}

// isModel fails if a store has anything else, or if a page of it is lost.
func isModel(t *testing.T, s *Store, m model) {
	t.Helper()
	view(t, s, func(x *Tx) {
		if got := modelOf(x); !maps.Equal(got, m) {
			t.Errorf("%d items instead of %d, or other ones", len(got), len(m))
		}
	})
	if why := s.Check(refers); why != api.OK {
		t.Error("check", why)
	}
}

func TestP15_1Format(t *testing.T) {
	d, s := formatted(t, 20, 10)
	e := blank(t, 20, 10)
	p, why := pages.Format(e, 20, 10)
	must(t, why)
	if !slices.Equal(d.Safe(), e.Safe()) || d.Ops() != e.Ops() || d.Pending() != 0 || s.Waiting() != p.Waiting() || s.Free() != 18 {
		t.Error("it differs from pages.Format", d.Ops(), e.Ops())
	}
	isModel(t, s, model{})
	// A disk that is not blank.
	do(t, s, func(x *Tx) { x.Put("k", "v") })
	s, why = Format(d, 20, 10)
	must(t, why)
	isModel(t, s, model{})
}

func TestP15_1FormatFails(t *testing.T) {
	for i, x := range []struct {
		d          *disk.Disk
		n, journal int
	}{
		{nil, 20, 10}, {blank(t, 20, 10), 20, 11}, {blank(t, 20, 10), 19, 10}, {blank(t, 20, 10), 10, 20 + 1}, {blank(t, 8, 4), 7, 5}, {blank(t, 8, 4), 9, 3},
		{blank(t, 20, 10), 0, 0}, {blank(t, 20, 10), -1, 31}, {blank(t, 20, 10), math.MinInt, math.MaxInt}, {blank(t, 20, 10), math.MaxInt, math.MaxInt},
	} {
		if s, why := Format(x.d, x.n, x.journal); s != nil || why != api.ErrArg {
			t.Error(i, s, why)
		}
	}
	for n := 1; n <= 32; n++ { // 30 sectors are written, and the head, with a flush behind each
		d := blank(t, 20, 10)
		d.Arm(n)
		if s, why := Format(d, 20, 10); s != nil || why != api.ErrDown {
			t.Error(n, s, why)
		}
	}
	if s, why := Format(blank(t, 20, 10), 20, 10); s == nil || why != api.OK {
		t.Error(why)
	}
}

func TestP15_1Load(t *testing.T) {
	d, s := formatted(t, 20, 10)
	var b api.Blob
	do(t, s, func(x *Tx) {
		x.Put("k", "v")
		b = x.Keep(text(1000))
	})
	must(t, s.Flush())
	again, why := Load(d)
	must(t, why)
	if again.Waiting() != 0 || again.Free() != 14 {
		t.Error(again.Waiting(), again.Free())
	}
	view(t, again, func(x *Tx) {
		if v, have := x.Get("k"); v != "v" || !have || x.Body(b) != text(1000) {
			t.Error(v, have)
		}
	})
}

func TestP15_1LoadFails(t *testing.T) {
	if s, why := Load(nil); s != nil || why != api.ErrArg {
		t.Error(s, why)
	}
	if s, why := Load(blank(t, 20, 10)); s != nil || why != api.ErrForm {
		t.Error(s, why)
	}
	d, _ := formatted(t, 20, 10)
	must(t, d.Write(12, text(512)))
	if s, why := Load(d); s != nil || why != api.ErrForm {
		t.Error(s, why)
	}
	d, _ = formatted(t, 20, 10)
	for n := 1; ; n++ { // the checkpoint fails
		d.Arm(n)
		s, why := Load(d)
		if why == api.OK {
			break
		}
		if s != nil || why != api.ErrDown {
			t.Error(n, s, why)
		}
		if s, why := Load(d); s != nil || why != api.ErrDown {
			t.Error(n, s, why)
		}
		d.Up()
	}
	if d.Down() || d.Ops() < 4 {
		t.Error(d.Ops())
	}
}

func TestP15_1Do(t *testing.T) {
	d, s := formatted(t, 20, 40)
	for i, run := range []func(by func(x *Tx)) api.Errno{s.Do, s.View} {
		if why := run(nil); why != api.ErrArg {
			t.Error(i, why)
		}
		// It is called once, and sees its own changes.
		n := 0
		must(t, run(func(x *Tx) {
			n++
			_, before := x.Get("k")
			set(x, "k", "v")
			set(x, "b", text(600))
			if after, _ := x.Get("k"); before || after != "v" || !maps.Equal(modelOf(x), model{"k": "v", "b": text(600)}) {
				t.Error(i, before, after)
			}
			unset(x, "k")
			unset(x, "b")
		}))
		if n != 1 {
			t.Error(i, n)
		}
	}
	isModel(t, s, model{})
	ops, waiting := d.Ops(), s.Waiting()
	view(t, s, func(x *Tx) { set(x, "k", "v") })
	isModel(t, s, model{})
	if s.Waiting() != waiting || d.Ops() != ops {
		t.Error("View committed something")
	}
	do(t, s, func(x *Tx) { set(x, "k", "v"); set(x, "b", text(600)) })
	isModel(t, s, model{"k": "v", "b": text(600)})
	if s.Waiting() != waiting+1 || d.Ops() == ops {
		t.Error("Do did not commit")
	}
	ops = d.Ops()
	do(t, s, func(x *Tx) { x.Put("k", "v") }) // as it is
	if s.Waiting() != waiting+1 || d.Ops() != ops {
		t.Error("there is nothing to commit")
	}
}

func TestP15_1Aborts(t *testing.T) {
	d, s := formatted(t, 20, 10)
	do(t, s, func(x *Tx) { set(x, "k", "v"); set(x, "b", text(600)) })
	ops := d.Ops()
	for i, run := range []func(by func(x *Tx)) api.Errno{s.Do, s.View} {
		for _, why := range []api.Errno{api.ErrQuota, api.ErrBad, -1, math.MaxInt, api.OK} {
			got := run(func(x *Tx) {
				set(x, "k", "w")
				unset(x, "b")
				set(x, "b2", text(900))
				x.Stop(why)
				t.Error("it went on")
			})
			if got != why && (why != api.OK || got != api.ErrArg) {
				t.Error(i, got, why)
			}
		}
	}
	isModel(t, s, model{"k": "v", "b": text(600)})
	if s.Waiting() != 1 || d.Ops() != ops || s.Free() != 15 {
		t.Error("it was changed")
	}
}

func TestP15_1ErrorsOfTheCommit(t *testing.T) {
	d, s := formatted(t, 20, 4)
	do(t, s, func(x *Tx) { x.Put("k", "v") })
	// A body of two pages, the leaf and the bitmap are four images.
	by := func(x *Tx) { set(x, "b", text(600)) }
	if why := s.Do(by); why != api.ErrJournal {
		t.Error(why)
	}
	view(t, s, by)
	isModel(t, s, model{"k": "v"})
	d.Arm(1)
	if why := s.Do(func(x *Tx) { x.Put("k", "w") }); why != api.ErrDown {
		t.Error(why)
	}
	if why := s.Do(func(x *Tx) { x.Put("k", "w") }); why != api.ErrDown {
		t.Error(why)
	}
	// Nothing to commit, and what is in memory, need no disk.
	do(t, s, func(x *Tx) { x.Put("k", "v") })
	isModel(t, s, model{"k": "v"})
}

func TestP15_1PanicsArePassedOn(t *testing.T) {
	_, s := formatted(t, 20, 10)
	do(t, s, func(x *Tx) { set(x, "b", text(600)) })
	for i, run := range []func(){
		func() { s.Do(func(x *Tx) { unset(x, "b"); panic("mine") }) },
		func() { s.View(func(x *Tx) { unset(x, "b"); panic("mine") }) },
		func() { s.Check(func(x api.Item) []api.Blob { panic("mine") }) },
	} {
		func() {
			defer func() {
				if got := recover(); got != "mine" {
					t.Error(i, got)
				}
			}()
			run()
			t.Error(i, "no panic")
		}()
	}
	isModel(t, s, model{"b": text(600)})
	if s.Waiting() != 1 {
		t.Error(s.Waiting())
	}
}

func TestP15_1TransactionsWithinOthers(t *testing.T) {
	_, s := formatted(t, 20, 10)
	_, other := formatted(t, 20, 10)
	// An abort ends the transaction whose it is, through those within it.
	if why := s.Do(func(x *Tx) {
		x.Put("k", "v")
		if why := other.Do(func(y *Tx) { y.Put("k", "v"); y.Stop(api.ErrQuota) }); why != api.ErrQuota {
			t.Error(why)
		}
		do(t, other, func(y *Tx) { y.Put("k2", "v") })
		other.Do(func(y *Tx) { y.Put("k3", "v"); x.Stop(api.ErrBad) })
		t.Error("it went on")
	}); why != api.ErrBad {
		t.Error(why)
	}
	isModel(t, s, model{})
	isModel(t, other, model{"k2": "v"})
	if why := s.Do(func(x *Tx) {
		other.Check(func(api.Item) []api.Blob { x.Stop(api.ErrLong); return nil })
		t.Error("it went on")
	}); why != api.ErrLong {
		t.Error(why)
	}
}

func TestP15_1FlushAndCheckpoint(t *testing.T) {
	d, s := formatted(t, 20, 40)
	e := blank(t, 20, 40)
	p, why := pages.Format(e, 20, 40)
	must(t, why)
	same := func(step int) {
		t.Helper()
		if s.Waiting() != p.Waiting() || d.Ops() != e.Ops() || d.Pending() != e.Pending() || !slices.Equal(d.Safe(), e.Safe()) {
			t.Fatal(step, s.Waiting(), p.Waiting(), d.Ops(), e.Ops(), d.Pending(), e.Pending())
		}
	}
	put := func(k string) {
		t.Helper()
		do(t, s, func(x *Tx) { x.Put(k, "v") })
		must(t, heap.Do(p, func(h *heap.Heap) { tree.Put(h, k, "v") }))
	}
	for i, step := range []string{"flush", "checkpoint", "a", "b", "flush", "flush", "c", "checkpoint", "checkpoint", "d", "e", "checkpoint", "flush", "f"} {
		switch step {
		case "flush":
			must(t, s.Flush())
			must(t, p.Flush())
		case "checkpoint":
			must(t, s.Checkpoint())
			must(t, p.Checkpoint())
		default:
			put(step)
		}
		same(i)
	}
	if s.Waiting() != 1 {
		t.Error(s.Waiting())
	}
	d.Arm(1)
	for range 2 {
		if why := s.Flush(); why != api.ErrDown || s.Waiting() != 1 {
			t.Error(why, s.Waiting())
		}
		if why := s.Checkpoint(); why != api.ErrDown || s.Waiting() != 1 {
			t.Error(why, s.Waiting())
		}
	}
}

func TestP15_1Free(t *testing.T) {
	for _, n := range []int{8, 20, 3840} {
		_, s := formatted(t, n, 20)
		if s.Free() != n-2 {
			t.Error(n, s.Free())
		}
		do(t, s, func(x *Tx) { x.Put("k", "v") })
		do(t, s, func(x *Tx) { set(x, "b", text(477)) })
		if s.Free() != n-5 {
			t.Error(n, s.Free())
		}
		do(t, s, func(x *Tx) { unset(x, "b"); unset(x, "k") })
		if s.Free() != n-2 {
			t.Error(n, s.Free())
		}
	}
}

func TestP15_1WithoutAStore(t *testing.T) {
	for i, s := range []*Store{nil, {}} {
		by := func(x *Tx) { t.Error(i, "it was called") }
		blobs := func(x api.Item) []api.Blob { t.Error(i, "it was called"); return nil }
		for j, why := range []api.Errno{s.Do(by), s.View(by), s.Do(nil), s.View(nil), s.Flush(), s.Checkpoint(), s.Check(blobs), s.Check(nil)} {
			if why != api.ErrArg {
				t.Error(i, j, why)
			}
		}
		if s.Waiting() != 0 || s.Free() != 0 {
			t.Error(i, s.Waiting(), s.Free())
		}
	}
}

func TestP15_2MethodsAreThoseOfTheLayersBelow(t *testing.T) {
	_, s := formatted(t, 30, 40)
	do(t, s, func(x *Tx) {
		if v, have := x.Get("a"); v != "" || have || x.Delete("a") {
			t.Error(v, have)
		}
		x.Put("a", "1")
		x.Put("a", "2")
		x.Put("c", "")
		if v, have := x.Get("a"); v != "2" || !have {
			t.Error(v, have)
		}
		if v, have := x.Get("c"); v != "" || !have {
			t.Error(v, have)
		}
		if !x.Delete("a") || x.Delete("a") || x.Delete("") {
			t.Error("Delete")
		}
		a, b := x.Keep(text(500)), x.Keep("")
		if a != (api.Blob{First: 3, Size: 500}) || b != (api.Blob{}) || x.Body(a) != text(500) || x.Body(b) != "" {
			t.Error(a, b)
		}
		x.Drop(a)
		x.Drop(b)
		if c := x.Keep(text(4096)); c.First != 3 || x.Body(c) != text(4096) {
			t.Error(c)
		}
	})
	for i, y := range []struct {
		by  func(x *Tx)
		why api.Errno
	}{
		{func(x *Tx) { x.Put("", "v") }, api.ErrArg},
		{func(x *Tx) { x.Put(text(65), "v") }, api.ErrArg},
		{func(x *Tx) { x.Put("k", text(65)) }, api.ErrArg},
		{func(x *Tx) { x.Put(text(64), text(64)) }, api.OK},
		{func(x *Tx) { x.Keep(text(4097)) }, api.ErrLong},
		{func(x *Tx) { x.Keep(text(4096)); x.Keep(text(4096)); x.Keep(text(4096)) }, api.ErrDisk},
		{func(x *Tx) { x.Body(api.Blob{First: 3, Size: 1}) }, api.ErrForm},
		{func(x *Tx) { x.Body(api.Blob{First: 3, Size: 4096}) }, api.OK},
		{func(x *Tx) { x.Drop(api.Blob{First: 4, Size: 4096}) }, api.ErrForm},
		{func(x *Tx) { x.Drop(api.Blob{First: 3, Size: 4096}); x.Body(api.Blob{First: 3, Size: 4096}) }, api.ErrForm},
		{func(x *Tx) { x.Stop(api.ErrEmpty) }, api.ErrEmpty},
		{func(x *Tx) { x.Stop(api.OK) }, api.ErrArg},
	} {
		if why := s.View(y.by); why != y.why {
			t.Error(i, why, y.why)
		}
	}
}

func TestP15_2ScanExample(t *testing.T) {
	_, s := formatted(t, 30, 40)
	do(t, s, func(x *Tx) {
		if l, more := x.Scan("", "", 9); len(l) != 0 || more {
			t.Error(l, more)
		}
		for _, k := range []string{"c", "ab", "a\x00", "b", "a", "a\xff", "\xff", "b\xff\xff"} {
			x.Put(k, "v"+k)
		}
	})
	for _, y := range []struct {
		prefix, after string
		most          int
		want          string
		more          bool
	}{
		{"", "", 9, "a a\x00 ab a\xff b b\xff\xff c \xff", false},
		{"", "", 8, "a a\x00 ab a\xff b b\xff\xff c \xff", false},
		{"", "", 7, "a a\x00 ab a\xff b b\xff\xff c", true},
		{"", "", math.MaxInt, "a a\x00 ab a\xff b b\xff\xff c \xff", false},
		{"", "", 0, "", true}, {"", "", -1, "", true}, {"", "", math.MinInt, "", true},
		{"a", "", 9, "a a\x00 ab a\xff", false},
		{"a", "", 4, "a a\x00 ab a\xff", false},
		{"a", "", 3, "a a\x00 ab", true},
		{"a", "", 1, "a", true}, {"a", "", 0, "", true},
		{"a", "a", 9, "a\x00 ab a\xff", false},
		{"a", "a", 1, "a\x00", true},
		{"a", "a\x00", 9, "ab a\xff", false},
		{"a", "aa", 9, "ab a\xff", false},
		{"a", "ab", 1, "a\xff", false},
		{"a", "a\xff", 9, "", false}, {"a", "a\xff", 0, "", false}, {"a", "b", 9, "", false}, {"a", "\xff\xff", -1, "", false},
		{"b", "a", 9, "b b\xff\xff", false}, {"b", "a", 1, "b", true}, {"b", "b", 9, "b\xff\xff", false}, {"b\xff", "", 9, "b\xff\xff", false},
		{"b\xff\xff\xff", "", 9, "", false}, {"d", "", 9, "", false}, {"d", "", 0, "", false}, {"d", "", math.MinInt, "", false},
		{"\xff", "", 9, "\xff", false}, {"\xff", "\xff", 9, "", false}, {"", "\xff", 9, "", false}, {"", "c", 9, "\xff", false}, {"", "c", 0, "", true},
		{strings.Repeat("a", 1000), "", 9, "", false}, {"", strings.Repeat("a", 1000), 1, "ab", true}, {"", "\x00", 1, "a", true},
	} {
		view(t, s, func(x *Tx) {
			l, more := x.Scan(y.prefix, y.after, y.most)
			var keys []string
			for _, z := range l {
				keys = append(keys, z.Key)
				if z.Value != "v"+z.Key {
					t.Errorf("%q has the value %q", z.Key, z.Value)
				}
			}
			if got := strings.Join(keys, " "); got != y.want || more != y.more {
				t.Errorf("%.9q %.9q %d: %q %v", y.prefix, y.after, y.most, got, more)
			}
		})
	}
}

// scanned is what Scan has to return.
func scanned(l []api.Item, prefix, after string, most int) ([]api.Item, bool) {
	var got []api.Item
	for _, x := range l {
		if strings.HasPrefix(x.Key, prefix) && x.Key > after {
			got = append(got, x)
		}
	}
	n := min(len(got), max(most, 0))
	return got[:n], n < len(got)
}

func TestP15_2Scan(t *testing.T) {
	r := rand.New(rand.NewSource(15))
	key := func(longest int) string {
		b := make([]byte, r.Intn(longest+1))
		for i := range b {
			b[i] = "ab\x00\xff"[r.Intn(4)]
		}
		return string(b)
	}
	for _, n := range []int{1, 15, 16, 17, 47, 48, 49, 300} {
		_, s := formatted(t, 200, 400)
		m := map[string]string{}
		do(t, s, func(x *Tx) {
			for len(m) < n {
				k := key(6)
				if k != "" {
					m[k] = text(r.Intn(40))
					x.Put(k, m[k])
				}
			}
		})
		var l []api.Item
		for _, k := range slices.Sorted(maps.Keys(m)) {
			l = append(l, api.Item{Key: k, Value: m[k]})
		}
		view(t, s, func(x *Tx) {
			for i := range 3000 {
				prefix, after, most := key(3), key(6), r.Intn(n+4)-2
				switch r.Intn(6) {
				case 0:
					prefix = ""
				case 1:
					after = l[r.Intn(n)].Key
				case 2:
					prefix, after = "", ""
				case 3:
					most = math.MaxInt - r.Intn(2)
				}
				want, wantMore := scanned(l, prefix, after, most)
				if got, more := x.Scan(prefix, after, most); !slices.Equal(got, want) || more != wantMore {
					t.Fatalf("%d %d: %q %q %d: %d %v instead of %d %v", n, i, prefix, after, most, len(got), more, len(want), wantMore)
				}
			}
			for most := range n + 3 {
				want, wantMore := scanned(l, "", "", most)
				if got, more := x.Scan("", "", most); !slices.Equal(got, want) || more != wantMore {
					t.Error(n, most, len(got), more)
				}
			}
		})
	}
}

func TestP15_2PagesOfAScan(t *testing.T) {
	// Each scan continues behind the last item of the one before it.
	_, s := formatted(t, 200, 400)
	do(t, s, func(x *Tx) {
		for i := range 500 {
			x.Put("k"+octets.Num(2, uint64(i)), "")
			x.Put("l"+octets.Num(2, uint64(i)), "")
		}
	})
	view(t, s, func(x *Tx) {
		for _, most := range []int{1, 7, 100, 499, 500, 501} {
			n, after := 0, ""
			for more := true; more; {
				var l []api.Item
				l, more = x.Scan("k", after, most)
				for _, y := range l {
					if y.Key != "k"+octets.Num(2, uint64(n)) {
						t.Fatalf("%d %d: %q", most, n, y.Key)
					}
					n++
					after = y.Key
				}
				if len(l) > most || more && len(l) != most {
					t.Fatal(most, len(l))
				}
			}
			if n != 500 {
				t.Error(most, n)
			}
		}
	})
}

func TestP2ResultsAreNewMemory(t *testing.T) {
	_, s := formatted(t, 30, 40)
	do(t, s, func(x *Tx) {
		x.Put("a", "1")
		x.Put("b", "2")
		l, _ := x.Scan("", "", 9)
		l[0].Key, l[1] = "z", api.Item{}
		if l, _ = x.Scan("", "", 9); !slices.Equal(l, []api.Item{{Key: "a", Value: "1"}, {Key: "b", Value: "2"}}) {
			t.Error(l)
		}
	})
}

func TestP1TxWithoutATransaction(t *testing.T) {
	_, s := formatted(t, 20, 10)
	var ended *Tx
	do(t, s, func(x *Tx) {
		ended = x
		set(x, "k", "v")
		set(x, "b", text(600))
	})
	b := api.Blob{First: 3, Size: 600}
	for i, x := range []*Tx{nil, {}, ended} {
		x.Put("k", "w")
		x.Put("", "")
		x.Drop(b)
		x.Stop(api.ErrQuota)
		v, have := x.Get("k")
		l, more := x.Scan("", "", 9)
		if v != "" || have || len(l) != 0 || more || x.Delete("k") || x.Body(b) != "" || x.Keep(text(600)) != (api.Blob{}) || x.Keep(text(5000)) != (api.Blob{}) {
			t.Error(i, v, have, l, more)
		}
	}
	isModel(t, s, model{"k": "v", "b": text(600)})
	if s.Waiting() != 1 {
		t.Error(s.Waiting())
	}
}

// tampered returns the store of a disk whose pages were changed.
func tampered(t *testing.T, d *disk.Disk, by func(h *heap.Heap)) *Store {
	t.Helper()
	p, why := pages.Load(d)
	must(t, why)
	must(t, heap.Do(p, by))
	must(t, p.Flush())
	s, why := Load(d)
	must(t, why)
	return s
}

// filled returns the disk of a store with a tree on more than one page and
// with bodies.
func filled(t *testing.T, n int) *disk.Disk {
	t.Helper()
	d, s := formatted(t, n, 100)
	do(t, s, func(x *Tx) {
		for i := range 20 {
			set(x, "k"+octets.Num(1, uint64(i)), text(60))
		}
		set(x, "b1", text(1000))
		set(x, "b2", text(476))
		set(x, "b3", "")
		set(x, "b4", "")
		set(x, "b5", text(477))
	})
	must(t, s.Flush())
	return d
}

func TestP15_3Check(t *testing.T) {
	d := filled(t, 40)
	s, why := Load(d)
	must(t, why)
	calls := map[string]int{}
	last := ""
	if why := s.Check(func(x api.Item) []api.Blob {
		calls[x.Key]++
		if x.Key <= last || x.Key[0] == 'k' && x.Value != text(60) {
			t.Errorf("%q after %q", x.Key, last)
		}
		last = x.Key
		return refers(x)
	}); why != api.OK || len(calls) != 25 {
		t.Error(why, len(calls))
	}
	if calls["b1"] != 1 || s.Check(nil) != api.ErrForm {
		t.Error("without the bodies")
	}
	do(t, s, func(x *Tx) {
		for _, k := range []string{"b1", "b2", "b3", "b4", "b5"} {
			unset(x, k)
		}
	})
	if why := s.Check(nil); why != api.OK {
		t.Error(why)
	}
	do(t, s, func(x *Tx) {
		for i := range 20 {
			x.Delete("k" + octets.Num(1, uint64(i)))
		}
	})
	if s.Check(nil) != api.OK || s.Check(refers) != api.OK || s.Free() != 38 {
		t.Error("the empty store", s.Free())
	}
}

func TestP15_3CheckChangesNothing(t *testing.T) {
	d := filled(t, 40)
	s, why := Load(d)
	must(t, why)
	ops, free := d.Ops(), s.Free()
	s.Check(refers)
	s.Check(nil)
	if d.Ops() != ops || s.Waiting() != 0 || s.Free() != free {
		t.Error("it was changed")
	}
	// It sees what was committed, and needs no disk.
	do(t, s, func(x *Tx) {
		x.Keep("lost")
		if why := s.Check(refers); why != api.OK {
			t.Error(why)
		}
	})
	d.Arm(1)
	s.Flush()
	if why := s.Check(refers); why != api.ErrForm {
		t.Error(why)
	}
}

func TestP15_3CheckOfPagesThatDiffer(t *testing.T) {
	var b1 api.Blob
	s, why := Load(filled(t, 40))
	must(t, why)
	view(t, s, func(x *Tx) {
		v, _ := x.Get("b1")
		b1 = refers(api.Item{Key: "b1", Value: v})[0]
	})
	for i, change := range []func(h *heap.Heap){
		// A page that belongs to nothing.
		func(h *heap.Heap) { h.Take() },
		func(h *heap.Heap) {
			for h.Free() > 1 {
				h.Take()
			}
			last := h.Take()
			for page := 2; page < last; page++ {
				if h.Get(page) == strings.Repeat("\x00", 480) {
					h.Give(page)
				}
			}
		},
		func(h *heap.Heap) { tree.Delete(h, "b1") },
		func(h *heap.Heap) { tree.Put(h, "b5", "\x00\x00\x00\x00") },
		// A page that is free, but belongs to something.
		func(h *heap.Heap) { h.Give(b1.First) },
		func(h *heap.Heap) { h.Give(b1.First); h.Take() },
		func(h *heap.Heap) { h.Give(tree.Pages(h)[0]) },
		func(h *heap.Heap) { h.Give(tree.Pages(h)[1]) },
		func(h *heap.Heap) { h.Put(1, strings.Repeat("\x00", 480)) },
		func(h *heap.Heap) { h.Put(1, strings.Repeat("\xff", 480)) },
		// As many pages are in use as belong to something.
		func(h *heap.Heap) { page := h.Take(); h.Take(); h.Give(page); h.Give(b1.First) },
		func(h *heap.Heap) { h.Take(); tree.Put(h, "b2", "\x00\x00\x00\x00") },
		func(h *heap.Heap) { tree.Delete(h, "b1"); b2, _ := tree.Get(h, "b2"); tree.Put(h, "b6", b2) },
		// A tree that is not valid.
		func(h *heap.Heap) { h.Put(0, strings.Repeat("\x00", 479)+"\x01") },
		func(h *heap.Heap) { h.Put(0, strings.Repeat("\x00", 480)) },
		func(h *heap.Heap) { h.Put(0, "\x00\x00\x00\x00\x00\x00\x00\x00\x00\x01"+strings.Repeat("\x00", 470)) },
		func(h *heap.Heap) { b := []byte(h.Get(0)); b[9]++; h.Put(0, string(b)) },
		func(h *heap.Heap) { b := []byte(h.Get(0)); b[1]++; h.Put(0, string(b)) },
		func(h *heap.Heap) { h.Put(tree.Pages(h)[2], strings.Repeat("\x00", 480)) },
		// A blob that is not valid.
		func(h *heap.Heap) { tree.Put(h, "b2", "\x00\x00\x00\x01") },
		func(h *heap.Heap) { tree.Put(h, "b6", "\xff\xff\x00\x01") },
		func(h *heap.Heap) { tree.Put(h, "b6", "\x00\x28\x00\x01") },
		func(h *heap.Heap) { tree.Put(h, "b1", octets.Num(2, uint64(b1.First))+octets.Num(2, 999)) },
		func(h *heap.Heap) { h.Put(b1.First, strings.Repeat("\x00", 480)) },
		func(h *heap.Heap) {
			h.Put(b1.First, octets.Num(2, uint64(b1.First))+h.Get(b1.First)[2:])
		},
		// A page that belongs to two blobs.
		func(h *heap.Heap) { v, _ := tree.Get(h, "b1"); tree.Put(h, "b6", v) },
		func(h *heap.Heap) { v, _ := tree.Get(h, "b2"); tree.Put(h, "b6", v) },
		func(h *heap.Heap) {
			page := h.Take()
			h.Put(page, h.Get(b1.First))
			tree.Put(h, "b6", octets.Num(2, uint64(page))+octets.Num(2, 1000))
		},
		func(h *heap.Heap) { tree.Put(h, "b6", h.Get(b1.First)[:2]+octets.Num(2, 524)) },
	} {
		d := filled(t, 40)
		if s := tampered(t, d, change); s.Check(refers) != api.ErrForm {
			t.Error(i, s.Check(refers))
		}
	}
	if s := tampered(t, filled(t, 40), func(h *heap.Heap) {
		// What is in a free page, and behind the end, belongs to nothing.
		h.Put(39, text(480))
		b := []byte(h.Get(1))
		b[400] = 255
		h.Put(1, string(b))
	}); s.Check(refers) != api.OK {
		t.Error(s.Check(refers))
	}
}

func TestP15_3CheckOfTheBlobsThatAreTold(t *testing.T) {
	_, s := formatted(t, 40, 100)
	var a, b, c api.Blob
	do(t, s, func(x *Tx) {
		a, b, c = x.Keep(text(1000)), x.Keep(text(5)), x.Keep(text(2000))
		x.Put("k", "")
		x.Put("l", "")
	})
	for i, x := range []struct {
		k, l []api.Blob
		why  api.Errno
	}{
		{[]api.Blob{a, b, c}, nil, api.OK},
		{nil, []api.Blob{c, b, a}, api.OK},
		{[]api.Blob{b}, []api.Blob{a, c}, api.OK},
		{[]api.Blob{{}, b, {}, a, {}}, []api.Blob{{}, c}, api.OK},
		{[]api.Blob{a, b}, nil, api.ErrForm},
		{nil, nil, api.ErrForm},
		{[]api.Blob{a, b, c, a}, nil, api.ErrForm},
		{[]api.Blob{a, b, c}, []api.Blob{b}, api.ErrForm},
		{[]api.Blob{a, a}, []api.Blob{c}, api.ErrForm},
		{[]api.Blob{a, b}, []api.Blob{c, {First: 0, Size: 1}}, api.ErrForm},
		{[]api.Blob{a, b}, []api.Blob{c, {First: 30, Size: 0}}, api.ErrForm},
		{[]api.Blob{a, b}, []api.Blob{c, {First: -1, Size: -1}}, api.ErrForm},
		{[]api.Blob{a, b}, []api.Blob{c, {First: math.MaxInt, Size: math.MaxInt}}, api.ErrForm},
		{[]api.Blob{a, b}, []api.Blob{{First: c.First, Size: 1999}}, api.ErrForm},
		{[]api.Blob{a, b}, []api.Blob{{First: c.First + 1, Size: 1524}}, api.ErrForm},
		{[]api.Blob{a, b}, []api.Blob{c, {First: c.First + 1, Size: 1524}}, api.ErrForm},
		// As many pages as are in use.
		{[]api.Blob{a, a}, []api.Blob{c}, api.ErrForm},
		{[]api.Blob{b, b, b, b}, []api.Blob{c}, api.ErrForm},
	} {
		if why := s.Check(func(y api.Item) []api.Blob {
			if y.Key == "k" {
				return x.k
			}
			return x.l
		}); why != x.why {
			t.Error(i, why)
		}
	}
}

func TestP15_3CheckOfManyBodies(t *testing.T) {
	_, s := formatted(t, 600, 1000)
	m := model{}
	do(t, s, func(x *Tx) {
		for i := range 300 {
			k := "b" + octets.Num(2, uint64(i))
			m[k] = text(i)
			set(x, k, m[k])
		}
	})
	isModel(t, s, m)
	do(t, s, func(x *Tx) { x.Delete("b" + octets.Num(2, 299)) })
	if why := s.Check(refers); why != api.ErrForm {
		t.Error(why)
	}
}

// The root node's page happens to be a page of a body, whose next one is 257.
func TestP15_3CheckOfAPageOfABlobAndTheTree(t *testing.T) {
	_, s := formatted(t, 300, 1000)
	do(t, s, func(x *Tx) { x.Put("\xdc", "") })
	var l []api.Blob
	do(t, s, func(x *Tx) {
		for i := range 255 {
			l = append(l, x.Keep(text(i+1)))
		}
	})
	all := func(api.Item) []api.Blob { return l }
	if s.Check(all) != api.OK || l[254] != (api.Blob{First: 257, Size: 255}) {
		t.Fatal(l[254])
	}
	l[254] = api.Blob{First: 2, Size: 476 + 255}
	view(t, s, func(x *Tx) {
		if body := x.Body(l[254]); body[476:] != text(255) {
			t.Errorf("%q", body)
		}
	})
	if why := s.Check(all); why != api.ErrForm {
		t.Error(why)
	}
}

func TestP1OnSpoiltPages(t *testing.T) {
	// All functions end, with no other errors than those of the layers below.
	r := rand.New(rand.NewSource(16))
	for i := range 150 {
		s := tampered(t, filled(t, 40), func(h *heap.Heap) {
			for range 1 + r.Intn(3) {
				b := []byte(h.Get(r.Intn(20)))
				switch r.Intn(3) {
				case 0:
					r.Read(b)
				case 1:
					b[r.Intn(480)] = byte(r.Intn(256))
				default:
					b[r.Intn(8)] = byte(r.Intn(42))
				}
				h.Put(r.Intn(20), string(b))
			}
		})
		for j, by := range []func(x *Tx){
			func(x *Tx) { x.Get("k\x05") },
			func(x *Tx) { x.Scan("", "", math.MaxInt) },
			func(x *Tx) { x.Scan("k", "k\x05", 3) },
			func(x *Tx) { x.Put("k\x055", text(60)) },
			func(x *Tx) { x.Delete("k\x05") },
			func(x *Tx) { x.Keep(text(4096)) },
			func(x *Tx) { x.Body(api.Blob{First: r.Intn(40), Size: 1000}) },
			func(x *Tx) { x.Drop(api.Blob{First: r.Intn(40), Size: 1000}) },
		} {
			if why := s.View(by); why != api.OK && why != api.ErrForm && why != api.ErrArg && why != api.ErrDisk {
				t.Error(i, j, why)
			}
		}
		if why := s.Check(func(x api.Item) []api.Blob { return []api.Blob{{First: len(x.Value), Size: len(x.Key)}} }); why != api.ErrForm {
			t.Error(i, why)
		}
		if n := s.Free(); n < 0 || n > 38 {
			t.Error(i, n)
		}
	}
}
