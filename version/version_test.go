package version

import (
	"maps"
	"math"
	"math/rand"
	"slices"
	"strings"
	"testing"

	"wharfage/api"
	"wharfage/bucket"
	"wharfage/crc"
	"wharfage/disk"
	"wharfage/keys"
	"wharfage/kv"
	"wharfage/meter"
	"wharfage/pages"
	"wharfage/record"
)

const most = api.MaxCount

var (
	none      = api.Count{Bytes: -1, Objects: -1} // no limits
	newest    = api.Id{Newest: true}
	noTenants = []int{math.MinInt, -256, -8, -1, 8, 9, 255, 256, 264, 1 << 32, math.MaxInt}
	noNames   = []string{"", "-", "b-", "-b", "B", "b b", "b\x00", "b\xff", "abcdefghijklm", strings.Repeat("b", 70000)}
	noKeys    = []string{"", "\x00", "k\x00", "\x00k", "k\x00k", strings.Repeat("k", 25), strings.Repeat("k", 70000)}
	noCounts  = []api.Count{{Bytes: -1}, {Objects: -1}, {Bytes: most + 1}, {Objects: most + 1}, {Bytes: math.MinInt64, Objects: math.MaxInt64}}
	validKeys = []string{"k", "kk", "k\x01", "\x01", "\xff", " ", "k-", strings.Repeat("k", 24), strings.Repeat("\xff", 24)}
	modes     = []int{api.Plain, api.Kept, api.Held}
	long      = strings.Repeat("x", api.MaxObject+1)
)

func amount(bytes, objects int64) api.Count { return api.Count{Bytes: bytes, Objects: objects} }

func number(n uint64) api.Id { return api.Id{N: n} }

// formatted returns an empty store.
func formatted(t *testing.T, n, journal int) *kv.Store {
	t.Helper()
	size, why := pages.Size(n, journal)
	if why != api.OK {
		t.Fatal(why)
	}
	d, why := disk.New(size)
	if why != api.OK {
		t.Fatal(why)
	}
	s, why := kv.Format(d, n, journal)
	if why != api.OK {
		t.Fatal(why)
	}
	return s
}

// do requires that a transaction succeeds.
func do(t *testing.T, s *kv.Store, by func(x *kv.Tx)) {
	t.Helper()
	if why := s.Do(by); why != api.OK {
		t.Fatal(why)
	}
}

// fails requires that a transaction aborts with an error within by, and that it
// changes nothing.
func fails(t *testing.T, s *kv.Store, want api.Errno, by func(x *kv.Tx)) {
	t.Helper()
	before, free, returned := all(t, s), s.Free(), false
	why := s.Do(func(x *kv.Tx) {
		by(x)
		returned = true
	})
	if why != want || returned {
		t.Error("aborts with", why, "instead of", want)
	}
	if !maps.Equal(all(t, s), before) || s.Free() != free {
		t.Error("an abort changes something")
	}
}

// all returns all items of a store.
func all(t *testing.T, s *kv.Store) map[string]string {
	t.Helper()
	m := map[string]string{}
	if why := s.View(func(x *kv.Tx) {
		l, _ := x.Scan("", "", math.MaxInt)
		for _, y := range l {
			m[y.Key] = y.Value
		}
	}); why != api.OK {
		t.Fatal(why)
	}
	return m
}

// whole requires that each page in use belongs to the tree or to the body of
// one version.
func whole(t *testing.T, s *kv.Store) {
	t.Helper()
	if why := s.Check(func(x api.Item) []api.Blob {
		k, why := keys.Open(x.Key)
		if why != api.OK || k.Kind != keys.Version {
			return nil
		}
		v, why := record.GetVersion(x.Value)
		if why != api.OK {
			t.Error(k, why)
		}
		return []api.Blob{v.Blob}
	}); why != api.OK {
		t.Error("pages are lost:", why)
	}
}

func made(t *testing.T, k keys.Key) string {
	t.Helper()
	key, why := keys.Make(k)
	if why != api.OK {
		t.Fatal(k, why)
	}
	return key
}

func ofVersion(t *testing.T, tenant int, bucket, key string, seq uint64) string {
	t.Helper()
	return made(t, keys.Key{Kind: keys.Version, Tenant: tenant, Bucket: bucket, Name: key, Number: seq})
}

// mode returns a transaction that makes a bucket of a mode.
func mode(tenant int, y string, m int) func(x *kv.Tx) {
	return func(x *kv.Tx) {
		bucket.Make(x, tenant, y)
		bucket.SetMode(x, tenant, y, m)
	}
}

// used returns the usage of a bucket, which must be that of its tenant.
func used(t *testing.T, x *kv.Tx, tenant int, y string) api.Count {
	t.Helper()
	c := meter.Bucket(x, tenant, y).Used
	if all := meter.Tenant(x, tenant).Used; all != c {
		t.Error("the tenant uses", all, "and the bucket", c)
	}
	return c
}

// calls returns a call of each function.
func calls(tenant int, y, key string, x New, id api.Id) map[string]func(t *kv.Tx) {
	return map[string]func(t *kv.Tx){
		"Chain":  func(t *kv.Tx) { Chain(t, tenant, y, key) },
		"Find":   func(t *kv.Tx) { Find(t, tenant, y, key, id) },
		"Get":    func(t *kv.Tx) { Get(t, tenant, y, key, id) },
		"Add":    func(t *kv.Tx) { Add(t, tenant, y, key, x) },
		"Put":    func(t *kv.Tx) { Put(t, tenant, y, key, x.Body) },
		"Delete": func(t *kv.Tx) { Delete(t, tenant, y, key, id) },
	}
}

// The errors of the tenant, the bucket and the key come before all others, in
// this order.
func TestP20_1FirstErrors(t *testing.T) {
	s := formatted(t, 40, 60)
	do(t, s, func(x *kv.Tx) {
		for tenant := range 8 {
			meter.Save(x, tenant, "b", api.Bucket{Mode: tenant % 3, Next: math.MaxUint64})
		}
		x.Put("B\x08b", "no bucket")
		x.Put("B\xffb", "no bucket")
	})
	bad := New{Marker: true, Sum: 1, Body: long, Less: noCounts[0]}
	for _, tenant := range noTenants {
		for _, y := range []string{"b", "c", "", "B"} {
			for _, key := range []string{"k", "", "k\x00"} {
				for name, by := range calls(tenant, y, key, bad, number(7)) {
					if fails(t, s, api.ErrTenant, by); t.Failed() {
						t.Fatal(name, tenant, y, key)
					}
				}
			}
		}
	}
	for tenant := range 3 {
		for _, y := range append([]string{"a", "c", "bb"}, noNames...) {
			for _, key := range []string{"k", "", "k\x00"} {
				for name, by := range calls(tenant, y, key, bad, number(7)) {
					if fails(t, s, api.ErrBucket, by); t.Failed() {
						t.Fatal(name, tenant, y, key)
					}
				}
			}
		}
		for _, key := range noKeys {
			for _, id := range []api.Id{newest, {}, {N: 7}} {
				for name, by := range calls(tenant, "b", key, bad, id) {
					if fails(t, s, api.ErrArg, by); t.Failed() {
						t.Fatalf("%s %d %.20q", name, tenant, key)
					}
				}
			}
		}
	}
}

func TestP20_1Chain(t *testing.T) {
	s := formatted(t, 400, 400)
	do(t, s, func(x *kv.Tx) {
		for _, y := range []string{"b", "bb", "a"} {
			bucket.Make(x, 1, y)
			bucket.SetMode(x, 1, y, api.Kept)
		}
		bucket.Make(x, 2, "b")
		if l := Chain(x, 1, "b", "k"); len(l) != 0 {
			t.Error(l)
		}
	})
	want := map[string][]Entry{}
	for i := range 300 {
		key := validKeys[i%3]
		body := strings.Repeat("x", i%5)
		do(t, s, func(x *kv.Tx) {
			id, sum := Put(x, 1, "b", key, body)
			l := Chain(x, 1, "b", key)
			if len(l) == 0 || l[0].Seq != id || l[0].Version.Id != id || l[0].Version.Sum != sum || l[0].Version.Blob.Size != len(body) {
				t.Fatal(i, l)
			}
			want[key] = append([]Entry{l[0]}, want[key]...)
			if !slices.Equal(l, want[key]) {
				t.Fatal(i, l)
			}
			l[0] = Entry{} // the caller's own memory
			if l := Chain(x, 1, "b", key); !slices.Equal(l, want[key]) {
				t.Fatal(i, l)
			}
		})
	}
	do(t, s, func(x *kv.Tx) {
		for _, key := range validKeys {
			if l := Chain(x, 1, "b", key); !slices.Equal(l, want[key]) {
				t.Errorf("%q %v", key, l)
			}
			for _, y := range []string{"bb", "a"} {
				if l := Chain(x, 1, y, key); len(l) != 0 {
					t.Errorf("%q %v", key, l)
				}
			}
			if l := Chain(x, 2, "b", key); len(l) != 0 {
				t.Errorf("%q %v", key, l)
			}
		}
	})
	whole(t, s)
}

// odd puts versions that have other Ids than usual, the newest first.
func odd(t *testing.T, s *kv.Store, y, key string) []Entry {
	t.Helper()
	l := []Entry{
		{math.MaxUint64, api.Version{Id: 7, Sum: 1}},
		{1 << 40, api.Version{Id: 0, Marker: true}},
		{256, api.Version{Id: 9, Sum: 2}},
		{255, api.Version{Id: 7, Sum: 3}},
		{7, api.Version{Id: 0, Sum: 4}},
		{0, api.Version{Id: math.MaxUint64, Sum: 5}},
	}
	for _, e := range l {
		value, why := record.PutVersion(e.Version)
		if why != api.OK {
			t.Fatal(why)
		}
		do(t, s, func(x *kv.Tx) { x.Put(ofVersion(t, 0, y, key, e.Seq), value) })
	}
	return l
}

func TestP20_1Find(t *testing.T) {
	s := formatted(t, 30, 30)
	do(t, s, func(x *kv.Tx) {
		bucket.Make(x, 0, "b")
		bucket.Make(x, 0, "c")
	})
	l := odd(t, s, "b", "k")
	do(t, s, func(x *kv.Tx) {
		if got := Chain(x, 0, "b", "k"); !slices.Equal(got, l) {
			t.Error(got)
		}
		for id, want := range map[api.Id]Entry{
			newest:                  l[0],
			{Newest: true, N: 9}:    l[0],
			{Newest: true, N: 1000}: l[0],
			{}:                      l[1],
			{N: 7}:                  l[0],
			{N: 9}:                  l[2],
			{N: math.MaxUint64}:     l[5],
		} {
			if e, why := Find(x, 0, "b", "k", id); e != want || why != api.OK {
				t.Error(id, e, why)
			}
		}
		for _, n := range []uint64{1, 8, 255, 256, 1 << 40, math.MaxUint64 - 1} {
			if e, why := Find(x, 0, "b", "k", number(n)); e != (Entry{}) || why != api.ErrVersion {
				t.Error(n, e, why)
			}
		}
		for _, key := range append([]string{"j", "l"}, validKeys[1:]...) {
			for _, id := range []api.Id{newest, {}, {N: 7}} {
				if e, why := Find(x, 0, "b", key, id); e != (Entry{}) || why != api.ErrKey {
					t.Errorf("%q %v %v", key, e, why)
				}
			}
		}
		if e, why := Find(x, 0, "c", "k", newest); e != (Entry{}) || why != api.ErrKey {
			t.Error(e, why)
		}
	})
}

func TestP20_1Get(t *testing.T) {
	s := formatted(t, 60, 60)
	do(t, s, mode(0, "b", api.Kept))
	bodies := []string{"", "one", strings.Repeat("two", 1000), strings.Repeat("x", 4096), "\x00\xff"}
	do(t, s, func(x *kv.Tx) {
		for i, body := range bodies {
			id, sum := Put(x, 0, "b", "k", body)
			if id != uint64(i)+1 || sum != crc.Sum(body) {
				t.Error(id, sum)
			}
		}
	})
	do(t, s, func(x *kv.Tx) {
		for i, body := range bodies {
			id := number(uint64(i) + 1)
			e, _ := Find(x, 0, "b", "k", id)
			want := api.Version{Id: id.N, Sum: crc.Sum(body), Blob: e.Version.Blob}
			if v, got := Get(x, 0, "b", "k", id); v != want || got != body || v.Blob.Size != len(body) {
				t.Error(v, len(got))
			}
		}
		if v, body := Get(x, 0, "b", "k", newest); v.Id != 5 || body != bodies[4] {
			t.Error(v, body)
		}
		Delete(x, 0, "b", "k", newest)
	})
	fails(t, s, api.ErrMarker, func(x *kv.Tx) { Get(x, 0, "b", "k", newest) })
	fails(t, s, api.ErrMarker, func(x *kv.Tx) { Get(x, 0, "b", "k", number(6)) })
	for _, n := range []uint64{0, 7, 1 << 33, math.MaxUint64} {
		fails(t, s, api.ErrVersion, func(x *kv.Tx) { Get(x, 0, "b", "k", number(n)) })
	}
	for _, id := range []api.Id{newest, {}, {N: 1}} {
		fails(t, s, api.ErrKey, func(x *kv.Tx) { Get(x, 0, "b", "kk", id) })
	}
	do(t, s, func(x *kv.Tx) {
		if v, body := Get(x, 0, "b", "k", number(5)); v.Id != 5 || body != bodies[4] {
			t.Error(v, body)
		}
	})
}

// Items whose keys only begin like those of versions are no versions.
func TestP20_1ChainBesideOtherItems(t *testing.T) {
	s := formatted(t, 60, 60)
	seq := strings.Repeat("\x00", 8)
	do(t, s, func(x *kv.Tx) {
		bucket.Make(x, 1, "b")
		Put(x, 1, "b", "k", "body")
		for i := range 20 {
			x.Put("V\x01b\x00k\x00"+strings.Repeat("\x00", 9+i), "x")
			x.Put("V\x01b\x00k\x00"+strings.Repeat("\xff", 9+i), "x")
		}
		x.Put("V\x01b\x00k\x00", "x")
		x.Put("V\x01b\x00k\x00"+seq[1:], "x")
		x.Put("V\x01b\x00k"+seq, "x")
	})
	do(t, s, func(x *kv.Tx) {
		if l := Chain(x, 1, "b", "k"); len(l) != 1 || l[0].Seq != 1 {
			t.Error(l)
		}
		if e, why := Find(x, 1, "b", "k", number(0)); e.Seq != 1 || why != api.OK {
			t.Error(e, why)
		}
		Delete(x, 1, "b", "k", newest)
		if _, why := Find(x, 1, "b", "k", newest); why != api.ErrKey {
			t.Error(why)
		}
	})
}

// A record or a body that is not valid is in an invalid format.
func TestP20_1Spoilt(t *testing.T) {
	s := formatted(t, 30, 30)
	do(t, s, func(x *kv.Tx) {
		bucket.Make(x, 1, "b")
		Put(x, 1, "b", "k", "body")
	})
	at := ofVersion(t, 1, "b", "k", 1)
	value := all(t, s)[at]
	marker := value[:8] + "\x02" + value[9:]
	for _, v := range []string{"", value[:len(value)-1], value + "\x00", marker} {
		do(t, s, func(x *kv.Tx) { x.Put(at, v) })
		for _, by := range calls(1, "b", "k", New{}, newest) {
			fails(t, s, api.ErrForm, by)
		}
	}
	lost, _ := record.PutVersion(api.Version{Sum: 5, Blob: api.Blob{First: 29, Size: 4}})
	do(t, s, func(x *kv.Tx) { x.Put(at, lost) })
	for name, by := range calls(1, "b", "k", New{}, newest) {
		if name == "Chain" || name == "Find" { // they read no bodies
			do(t, s, by)
			continue
		}
		fails(t, s, api.ErrForm, by)
	}
	do(t, s, func(x *kv.Tx) { x.Put(at, value) })
	whole(t, s)
	spoilt := all(t, s)[made(t, keys.Key{Kind: keys.Bucket, Tenant: 1, Bucket: "b"})][1:]
	do(t, s, func(x *kv.Tx) { x.Put(made(t, keys.Key{Kind: keys.Bucket, Tenant: 1, Bucket: "b"}), spoilt) })
	for _, by := range calls(1, "b", "", New{}, newest) {
		fails(t, s, api.ErrForm, by)
	}
}

// A new version has the number of the bucket, and that Id only in the mode
// Kept.
func TestP20_2Ids(t *testing.T) {
	s := formatted(t, 30, 30)
	for _, m := range modes {
		for _, next := range []uint64{1, 2, 255, 1 << 32, math.MaxUint64 - 1} {
			do(t, s, func(x *kv.Tx) {
				meter.Save(x, 1, "b", api.Bucket{Mode: m, Limit: none, Next: next})
				id := Add(x, 1, "b", "k", New{Sum: 5, Body: "body"})
				want := uint64(0)
				if m == api.Kept {
					want = next
				}
				e, why := Find(x, 1, "b", "k", newest)
				if id != want || e.Version.Id != want || e.Seq != next || why != api.OK {
					t.Error(m, next, id, e)
				}
				if n := meter.Bucket(x, 1, "b").Next; n != next+1 {
					t.Error(m, next, n)
				}
				Delete(x, 1, "b", "k", number(want))
				if l := Chain(x, 1, "b", "k"); len(l) != 0 {
					t.Error(l)
				}
			})
		}
	}
	whole(t, s)
}

// The checksum is stored as it is given.
func TestP20_2Contents(t *testing.T) {
	s := formatted(t, 60, 60)
	do(t, s, mode(1, "b", api.Kept))
	for _, x := range []New{
		{},
		{Sum: 1},
		{Sum: math.MaxUint32, Body: "body"},
		{Body: "body"},
		{Sum: 7, Body: strings.Repeat("x", api.MaxObject)},
		{Marker: true},
	} {
		do(t, s, func(y *kv.Tx) {
			before := used(t, y, 1, "b")
			id := Add(y, 1, "b", "k", x)
			e, why := Find(y, 1, "b", "k", number(id))
			v := e.Version
			if why != api.OK || v.Id != id || v.Marker != x.Marker || v.Sum != x.Sum || v.Blob.Size != len(x.Body) {
				t.Error(x.Sum, len(x.Body), e, why)
			}
			if body := y.Body(v.Blob); body != x.Body {
				t.Error(len(x.Body), len(body))
			}
			if now := used(t, y, 1, "b"); now != amount(before.Bytes+int64(len(x.Body)), before.Objects+1) {
				t.Error(before, now)
			}
		})
	}
	whole(t, s)
	// There is no record of these.
	for _, x := range []New{{Marker: true, Sum: 1}, {Marker: true, Body: "b"}, {Marker: true, Sum: crc.Sum("b"), Body: "b"}} {
		fails(t, s, api.ErrArg, func(y *kv.Tx) { Add(y, 1, "b", "k", x) })
	}
}

func TestP20_2Put(t *testing.T) {
	s := formatted(t, 60, 60)
	for _, m := range modes {
		do(t, s, func(x *kv.Tx) { meter.Save(x, 1, "b", api.Bucket{Mode: m, Limit: none, Next: 9}) })
		for i, body := range []string{"", "hello", strings.Repeat("xyz", 1000)} {
			do(t, s, func(x *kv.Tx) {
				want := uint64(0)
				if m == api.Kept {
					want = 9 + uint64(i)
				}
				id, sum := Put(x, 1, "b", "k", body)
				if id != want || sum != crc.Sum(body) {
					t.Error(id, sum)
				}
				v, got := Get(x, 1, "b", "k", newest)
				if v.Id != want || v.Sum != sum || v.Marker || got != body {
					t.Error(v, len(got))
				}
			})
		}
		do(t, s, func(x *kv.Tx) {
			for _, e := range Chain(x, 1, "b", "k") {
				Delete(x, 1, "b", "k", number(e.Version.Id))
			}
			if c := used(t, x, 1, "b"); c != amount(0, 0) {
				t.Error(c)
			}
		})
	}
	whole(t, s)
}

// Outside the mode Kept, a new version takes the place of the unnumbered one,
// wherever that is.
func TestP20_2Replaces(t *testing.T) {
	for _, m := range modes {
		s := formatted(t, 60, 60)
		do(t, s, func(x *kv.Tx) {
			bucket.Make(x, 1, "b")
			Put(x, 1, "b", "k", "11")  // 1, unnumbered
			Put(x, 1, "b", "kk", "22") // 2, unnumbered
			bucket.SetMode(x, 1, "b", api.Kept)
			Put(x, 1, "b", "k", "333")   // 3
			Put(x, 1, "b", "k", "4444")  // 4
			Put(x, 1, "b", "kk", "5555") // 5
			bucket.SetMode(x, 1, "b", api.Held)
			b := meter.Bucket(x, 1, "b")
			b.Mode = m
			meter.Save(x, 1, "b", b)
		})
		do(t, s, func(x *kv.Tx) {
			Put(x, 1, "b", "k", "666666") // 6
			Put(x, 1, "b", "k", "7")      // 7
			var seqs, ids []uint64
			for _, e := range Chain(x, 1, "b", "k") {
				seqs = append(seqs, e.Seq)
				ids = append(ids, e.Version.Id)
			}
			wantSeqs, wantIds, use := []uint64{7, 4, 3}, []uint64{0, 4, 3}, amount(14, 5)
			if m == api.Kept {
				wantSeqs, wantIds, use = []uint64{7, 6, 4, 3, 1}, []uint64{7, 6, 4, 3, 0}, amount(22, 7)
			}
			if !slices.Equal(seqs, wantSeqs) || !slices.Equal(ids, wantIds) || used(t, x, 1, "b") != use {
				t.Error(m, seqs, ids, used(t, x, 1, "b"))
			}
			if v, body := Get(x, 1, "b", "kk", api.Id{}); v.Id != 0 || body != "22" {
				t.Error(v, body)
			}
			if v, body := Get(x, 1, "b", "k", number(3)); v.Id != 3 || body != "333" {
				t.Error(v, body)
			}
		})
		whole(t, s)
	}
}

// A marker is replaced like another unnumbered version.
func TestP20_2ReplacesMarker(t *testing.T) {
	s := formatted(t, 30, 30)
	do(t, s, mode(1, "b", api.Held))
	do(t, s, func(x *kv.Tx) {
		for i := range 5 {
			if id := Add(x, 1, "b", "k", New{Marker: true}); id != 0 {
				t.Error(id)
			}
			e, why := Find(x, 1, "b", "k", api.Id{})
			if e != (Entry{Seq: uint64(i)*2 + 1, Version: api.Version{Marker: true}}) || why != api.OK {
				t.Error(e, why)
			}
			if l := Chain(x, 1, "b", "k"); len(l) != 1 || used(t, x, 1, "b") != amount(0, 1) {
				t.Error(l)
			}
			Put(x, 1, "b", "k", "body")
			if l := Chain(x, 1, "b", "k"); len(l) != 1 || l[0].Version.Marker || used(t, x, 1, "b") != amount(4, 1) {
				t.Error(l)
			}
		}
	})
	whole(t, s)
}

func TestP20_2Less(t *testing.T) {
	s := formatted(t, 30, 30)
	do(t, s, func(x *kv.Tx) {
		bucket.Make(x, 1, "b")
		meter.Charge(x, 1, "b", amount(100, 10), api.Count{})
		Add(x, 1, "b", "k", New{Body: "12345", Less: amount(60, 4)})
		if c := used(t, x, 1, "b"); c != amount(45, 7) {
			t.Error(c)
		}
		Add(x, 1, "b", "k", New{Body: "123", Less: amount(40, 6)})
		if c := used(t, x, 1, "b"); c != amount(3, 1) {
			t.Error(c)
		}
		meter.SetLimit(x, 1, "b", amount(3, 1))
	})
	fails(t, s, api.ErrOver, func(x *kv.Tx) { Add(x, 1, "b", "k", New{Body: "123", Less: amount(4, 0)}) })
	fails(t, s, api.ErrOver, func(x *kv.Tx) { Add(x, 1, "b", "k", New{Body: "123", Less: amount(0, 2)}) })
	fails(t, s, api.ErrQuota, func(x *kv.Tx) { Add(x, 1, "b", "k", New{Body: "1234"}) })
	do(t, s, func(x *kv.Tx) { Add(x, 1, "b", "k", New{Body: "1234", Less: amount(1, 0)}) })
	whole(t, s)
}

// Each error of Add comes before those that are tested after it, which apply
// as well.
func TestP20_2Errors(t *testing.T) {
	for _, m := range modes {
		s := formatted(t, 60, 60)
		do(t, s, func(x *kv.Tx) {
			meter.Save(x, 1, "b", api.Bucket{Limit: none})
			Put(x, 1, "b", "k", "body") // unnumbered
			meter.Save(x, 1, "b", api.Bucket{Mode: m, Used: amount(4, 1), Next: math.MaxUint64})
		})
		bad := New{Marker: true, Sum: 1, Body: long, Less: amount(-1, 0)}
		fail := func(want api.Errno) {
			t.Helper()
			fails(t, s, want, func(x *kv.Tx) { Add(x, 1, "b", "k", bad) })
		}
		fail(api.ErrLong)
		bad.Body = long[1:]
		fail(api.ErrOver) // of Next
		do(t, s, func(x *kv.Tx) {
			b := meter.Bucket(x, 1, "b")
			b.Next = 50
			meter.Save(x, 1, "b", b)
		})
		for _, bad.Less = range noCounts {
			fail(api.ErrArg)
		}
		if m != api.Kept { // only then something is added to Less
			bad.Less = amount(most-3, 0)
			fail(api.ErrOver)
			bad.Less = amount(0, most)
			fail(api.ErrOver)
		}
		bad.Less = amount(0, 0)
		fail(api.ErrQuota) // of Charge
		do(t, s, func(x *kv.Tx) { meter.SetLimit(x, 1, "b", none) })
		bad.Less = amount(4101, 0)
		fail(api.ErrOver) // of Charge
		bad.Less = amount(0, 0)
		do(t, s, func(x *kv.Tx) { meter.SetLimit(x, 1, "", amount(0, 0)) })
		fail(api.ErrQuota) // of Charge, for the tenant
		do(t, s, func(x *kv.Tx) { meter.SetLimit(x, 1, "", none) })
		fail(api.ErrArg) // there is no such record
		bad.Marker = false
		do(t, s, func(x *kv.Tx) { Add(x, 1, "b", "k", bad) })
		whole(t, s)
	}
}

// What is replaced does not count against a limit.
func TestP20_2Quota(t *testing.T) {
	for _, m := range modes {
		s := formatted(t, 60, 60)
		do(t, s, mode(1, "b", m))
		do(t, s, func(x *kv.Tx) {
			meter.SetLimit(x, 1, "", amount(10, 2))
			Put(x, 1, "b", "k", "1234567")
			Put(x, 1, "b", "q", "123")
		})
		for _, body := range []string{"12345678", strings.Repeat("x", 4096)} {
			fails(t, s, api.ErrQuota, func(x *kv.Tx) { Put(x, 1, "b", "k", body) })
		}
		fails(t, s, api.ErrQuota, func(x *kv.Tx) { Put(x, 1, "b", "new", "") })
		if m == api.Kept {
			fails(t, s, api.ErrQuota, func(x *kv.Tx) { Put(x, 1, "b", "k", "") })
			fails(t, s, api.ErrQuota, func(x *kv.Tx) { Delete(x, 1, "b", "k", newest) })
			continue
		}
		do(t, s, func(x *kv.Tx) {
			Put(x, 1, "b", "k", "7654321")
			Put(x, 1, "b", "k", "1234")
			Put(x, 1, "b", "q", "123456")
			meter.SetLimit(x, 1, "", amount(1, 0)) // usage may still decrease
			Put(x, 1, "b", "q", "12345")
			if c := used(t, x, 1, "b"); c != amount(9, 2) {
				t.Error(c)
			}
		})
		fails(t, s, api.ErrQuota, func(x *kv.Tx) { Put(x, 1, "b", "q", "123456") })
		whole(t, s)
	}
}

// The pages of the version that is replaced are free for the new one.
func TestP20_2Space(t *testing.T) {
	for _, m := range modes {
		s := formatted(t, 30, 60)
		do(t, s, mode(1, "b", m))
		big := strings.Repeat("x", api.MaxObject)
		do(t, s, func(x *kv.Tx) { Put(x, 1, "b", "k", big) })
		for s.Free() > 0 {
			do(t, s, func(x *kv.Tx) { x.Keep("one page") })
		}
		by := func(x *kv.Tx) { Put(x, 1, "b", "k", strings.Repeat("y", api.MaxObject)) }
		if m == api.Kept {
			fails(t, s, api.ErrDisk, by)
			do(t, s, func(x *kv.Tx) {
				if _, body := Get(x, 1, "b", "k", newest); body != big {
					t.Error(len(body))
				}
			})
			continue
		}
		do(t, s, by)
		fails(t, s, api.ErrDisk, func(x *kv.Tx) { Put(x, 1, "b", "q", "body") })
		do(t, s, func(x *kv.Tx) {
			if _, body := Get(x, 1, "b", "k", newest); body != strings.Repeat("y", 4096) {
				t.Error(len(body))
			}
			Delete(x, 1, "b", "k", api.Id{})
			if c := used(t, x, 1, "b"); c != amount(0, 0) {
				t.Error(c)
			}
		})
	}
}

// Without an Id, Delete adds a marker unless the mode is Plain.
func TestP20_3Marker(t *testing.T) {
	s := formatted(t, 60, 60)
	do(t, s, mode(1, "b", api.Kept))
	do(t, s, func(x *kv.Tx) {
		for i, key := range []string{"k", "k", "q"} { // whether the key has versions or not
			id, marker := Delete(x, 1, "b", key, api.Id{Newest: true, N: uint64(i)})
			e, why := Find(x, 1, "b", key, newest)
			want := Entry{uint64(i) + 1, api.Version{Id: uint64(i) + 1, Marker: true}}
			if id != want.Seq || !marker || e != want || why != api.OK {
				t.Error(id, marker, e, why)
			}
		}
		Put(x, 1, "b", "k", "body") // 4
		if id, marker := Delete(x, 1, "b", "k", newest); id != 5 || !marker {
			t.Error(id, marker)
		}
		if l := Chain(x, 1, "b", "k"); len(l) != 4 || used(t, x, 1, "b") != amount(4, 5) {
			t.Error(l)
		}
		if _, body := Get(x, 1, "b", "k", number(4)); body != "body" {
			t.Error(body)
		}
		bucket.SetMode(x, 1, "b", api.Held)
		for i := range uint64(3) {
			id, marker := Delete(x, 1, "b", "k", newest)
			l := Chain(x, 1, "b", "k")
			if id != 0 || !marker || len(l) != 5 || l[0] != (Entry{6 + i, api.Version{Marker: true}}) {
				t.Error(id, marker, l)
			}
		}
		if c := used(t, x, 1, "b"); c != amount(4, 6) {
			t.Error(c)
		}
		meter.SetLimit(x, 1, "b", amount(0, 0))
	})
	fails(t, s, api.ErrQuota, func(x *kv.Tx) { Delete(x, 1, "b", "new", newest) })
	do(t, s, func(x *kv.Tx) {
		Delete(x, 1, "b", "k", newest) // in the place of another marker
		meter.Save(x, 1, "b", api.Bucket{Mode: api.Kept, Limit: none, Next: math.MaxUint64})
	})
	fails(t, s, api.ErrOver, func(x *kv.Tx) { Delete(x, 1, "b", "k", newest) })
	whole(t, s)
}

func TestP20_3DeleteById(t *testing.T) {
	for _, m := range modes {
		s := formatted(t, 60, 60)
		do(t, s, func(x *kv.Tx) {
			bucket.Make(x, 1, "b")
			Put(x, 1, "b", "k", "11")  // 1, unnumbered
			Put(x, 1, "b", "kk", "22") // 2, unnumbered
			bucket.SetMode(x, 1, "b", api.Kept)
			Put(x, 1, "b", "k", "333")                      // 3
			Delete(x, 1, "b", "k", newest)                  // 4
			Put(x, 1, "b", "k", strings.Repeat("5", 4096))  // 5
			Put(x, 1, "b", "kk", strings.Repeat("6", 4096)) // 6
			b := meter.Bucket(x, 1, "b")
			b.Mode = m
			meter.Save(x, 1, "b", b)
			meter.SetLimit(x, 1, "b", amount(0, 0)) // usage may still decrease
		})
		use := amount(2+2+3+4096+4096, 6)
		var left []Entry
		do(t, s, func(x *kv.Tx) {
			left = Chain(x, 1, "b", "k")
			if used(t, x, 1, "b") != use {
				t.Error(used(t, x, 1, "b"))
			}
		})
		for _, n := range []uint64{3, 5, 0, 4} {
			do(t, s, func(x *kv.Tx) {
				id, marker := Delete(x, 1, "b", "k", number(n))
				if id != n || marker != (n == 4) {
					t.Error(n, id, marker)
				}
				i := slices.IndexFunc(left, func(e Entry) bool { return e.Version.Id == n })
				use.Bytes -= int64(left[i].Version.Blob.Size)
				use.Objects--
				left = slices.Delete(left, i, i+1)
				if l := Chain(x, 1, "b", "k"); !slices.Equal(l, left) || used(t, x, 1, "b") != use {
					t.Error(n, l, used(t, x, 1, "b"))
				}
			})
			want := api.ErrVersion
			if len(left) == 0 {
				want = api.ErrKey
			}
			fails(t, s, want, func(x *kv.Tx) { Delete(x, 1, "b", "k", number(n)) })
			whole(t, s)
		}
		do(t, s, func(x *kv.Tx) {
			if l := Chain(x, 1, "b", "kk"); len(l) != 2 || meter.Bucket(x, 1, "b").Next != 7 {
				t.Error(l)
			}
		})
	}
}

// In the mode Plain, also the newest version is deleted, and an older one is
// the newest then.
func TestP20_3DeleteNewestOfPlain(t *testing.T) {
	s := formatted(t, 60, 60)
	do(t, s, func(x *kv.Tx) {
		bucket.Make(x, 1, "b")
		for _, key := range []string{"k", "q"} {
			Put(x, 1, "b", key, "body")
		}
		if id, marker := Delete(x, 1, "b", "k", api.Id{Newest: true, N: 7}); id != 0 || marker {
			t.Error(id, marker)
		}
		if l := Chain(x, 1, "b", "k"); len(l) != 0 || used(t, x, 1, "b") != amount(4, 1) {
			t.Error(l)
		}
	})
	fails(t, s, api.ErrKey, func(x *kv.Tx) { Delete(x, 1, "b", "k", newest) })
	do(t, s, func(x *kv.Tx) {
		bucket.SetMode(x, 1, "b", api.Kept)
		Put(x, 1, "b", "q", "new")     // 3
		Delete(x, 1, "b", "q", newest) // 4
		b := meter.Bucket(x, 1, "b")
		b.Mode = api.Plain
		meter.Save(x, 1, "b", b)
		for _, want := range []Entry{{4, api.Version{Id: 4, Marker: true}}, {3, api.Version{Id: 3}}, {2, api.Version{}}} {
			id, marker := Delete(x, 1, "b", "q", newest)
			if id != want.Version.Id || marker != want.Version.Marker {
				t.Error(id, marker, want)
			}
		}
		if c := used(t, x, 1, "b"); c != amount(0, 0) {
			t.Error(c)
		}
	})
	fails(t, s, api.ErrKey, func(x *kv.Tx) { Delete(x, 1, "b", "q", newest) })
	whole(t, s)
}

// Delete aborts if less is used than it subtracts.
func TestP20_3DeleteOver(t *testing.T) {
	s := formatted(t, 30, 30)
	do(t, s, func(x *kv.Tx) {
		bucket.Make(x, 1, "b")
		Put(x, 1, "b", "k", "body")
		meter.Charge(x, 1, "b", api.Count{}, amount(1, 0))
	})
	fails(t, s, api.ErrOver, func(x *kv.Tx) { Delete(x, 1, "b", "k", newest) })
	do(t, s, func(x *kv.Tx) { meter.Charge(x, 1, "b", amount(1, 0), amount(0, 1)) })
	fails(t, s, api.ErrOver, func(x *kv.Tx) { Delete(x, 1, "b", "k", api.Id{}) })
}

// stored is a version of a model.
type stored struct {
	seq, id uint64
	marker  bool
	body    string
}

// model is what one bucket is expected to have.
type model struct {
	record api.Bucket
	chains map[string][]stored
}

func (m *model) clone() *model {
	c := &model{m.record, map[string][]stored{}}
	for key, l := range m.chains {
		c.chains[key] = slices.Clone(l)
	}
	return c
}

func (m *model) find(key string, id api.Id) (int, api.Errno) {
	l := m.chains[key]
	if len(l) == 0 {
		return 0, api.ErrKey
	}
	for i, v := range l {
		if id.Newest || v.id == id.N {
			return i, api.OK
		}
	}
	return 0, api.ErrVersion
}

// change charges the bucket.
func (m *model) change(plus, minus api.Count) api.Errno {
	u, l := m.record.Used, m.record.Limit
	bytes, objects := u.Bytes+plus.Bytes-minus.Bytes, u.Objects+plus.Objects-minus.Objects
	if bytes < 0 || objects < 0 {
		return api.ErrOver
	}
	if bytes > u.Bytes && l.Bytes >= 0 && bytes > l.Bytes || objects > u.Objects && l.Objects >= 0 && objects > l.Objects {
		return api.ErrQuota
	}
	m.record.Used = amount(bytes, objects)
	return api.OK
}

func (m *model) add(key, body string, marker bool) (uint64, api.Errno) {
	if len(body) > 4096 {
		return 0, api.ErrLong
	}
	v := stored{seq: m.record.Next, marker: marker, body: body}
	m.record.Next++
	minus := api.Count{}
	if m.record.Mode == api.Kept {
		v.id = v.seq
	} else if i, why := m.find(key, api.Id{}); why == api.OK {
		minus = amount(int64(len(m.chains[key][i].body)), 1)
		m.chains[key] = slices.Delete(m.chains[key], i, i+1)
	}
	m.chains[key] = append([]stored{v}, m.chains[key]...)
	return v.id, m.change(amount(int64(len(body)), 1), minus)
}

func (m *model) delete(key string, id api.Id) (uint64, bool, api.Errno) {
	if id.Newest && m.record.Mode != api.Plain {
		n, why := m.add(key, "", true)
		return n, true, why
	}
	i, why := m.find(key, id)
	if why != api.OK {
		return 0, false, why
	}
	v := m.chains[key][i]
	m.chains[key] = slices.Delete(m.chains[key], i, i+1)
	return v.id, v.marker, m.change(api.Count{}, amount(int64(len(v.body)), 1))
}

// same compares a bucket with its model.
func (m *model) same(t *testing.T, x *kv.Tx, tenant int, y string, all []string) {
	t.Helper()
	if b := meter.Bucket(x, tenant, y); b != m.record {
		t.Error(b, m.record)
	}
	sum := api.Count{}
	for _, key := range all {
		l := Chain(x, tenant, y, key)
		if len(l) != len(m.chains[key]) {
			t.Fatal(key, len(l), len(m.chains[key]))
		}
		ids := map[uint64]int{}
		for i, v := range m.chains[key] {
			ids[v.id]++
			sum = amount(sum.Bytes+int64(len(v.body)), sum.Objects+1)
			want := api.Version{Id: v.id, Marker: v.marker, Blob: l[i].Version.Blob}
			if !v.marker {
				want.Sum = crc.Sum(v.body)
			}
			if l[i] != (Entry{v.seq, want}) || x.Body(want.Blob) != v.body {
				t.Error(key, i, l[i], v.seq, v.id, v.marker)
			}
			if e, why := Find(x, tenant, y, key, number(v.id)); e != l[i] || why != api.OK {
				t.Error(key, i, e, why)
			}
			if v.marker {
				continue
			}
			if got, body := Get(x, tenant, y, key, number(v.id)); got != want || body != v.body {
				t.Error(key, i, got, len(body))
			}
		}
		if len(ids) != len(l) {
			t.Error("an Id is repeated", ids)
		}
	}
	if sum != m.record.Used {
		t.Error(sum, m.record.Used)
	}
}

// Transactions of random calls have the results of a plain model; those that
// abort change nothing.
func TestP20_4RandomCalls(t *testing.T) {
	names := []string{"k", "kk", "q"}
	kinds := map[api.Errno]int{}
	for seed := range int64(6) {
		r := rand.New(rand.NewSource(seed))
		s := formatted(t, 400, 400)
		models := map[string]*model{}
		for _, y := range []string{"b", "c"} {
			do(t, s, func(x *kv.Tx) { bucket.Make(x, 3, y) })
			models[y] = &model{api.Bucket{Limit: none, Next: 1}, map[string][]stored{}}
		}
		for range 400 {
			y := []string{"b", "b", "c"}[r.Intn(3)]
			m, why := models[y].clone(), api.OK
			got := s.Do(func(x *kv.Tx) {
				for range 1 + r.Intn(3) {
					step(t, x, m, r, y, names[r.Intn(3)], &why)
				}
			})
			kinds[got]++
			if got != why {
				t.Fatal(seed, got, why)
			}
			if why == api.OK {
				models[y] = m
			}
			if why := s.View(func(x *kv.Tx) {
				for y, m := range models {
					m.same(t, x, 3, y, names)
				}
			}); why != api.OK || t.Failed() {
				t.Fatal(seed, why)
			}
		}
		whole(t, s)
	}
	for _, why := range []api.Errno{api.OK, api.ErrKey, api.ErrVersion, api.ErrMarker, api.ErrLong, api.ErrQuota} {
		if kinds[why] < 10 {
			t.Error(kinds)
		}
	}
}

// step makes one random call. It sets why to the error that the model expects:
// the call must not return then.
func step(t *testing.T, x *kv.Tx, m *model, r *rand.Rand, y, key string, why *api.Errno) {
	id := number(uint64(r.Int63n(int64(m.record.Next) + 1)))
	if l := m.chains[key]; len(l) > 0 && r.Intn(3) > 0 {
		id.N = l[r.Intn(len(l))].id
	}
	id.Newest = r.Intn(4) == 0
	body := strings.Repeat("x", r.Intn(3)*r.Intn(600)) + string(rune('a'+r.Intn(26)))
	if r.Intn(50) == 0 {
		body = long
	}
	n, marker, i := uint64(0), false, 0
	switch r.Intn(8) {
	case 0, 1, 2:
		n, *why = m.add(key, body, false)
		if got, sum := Put(x, 3, y, key, body); got != n || sum != crc.Sum(body) || *why != api.OK {
			t.Error("Put", got, n, *why)
		}
	case 3, 4:
		n, marker, *why = m.delete(key, id)
		if got, is := Delete(x, 3, y, key, id); got != n || is != marker || *why != api.OK {
			t.Error("Delete", got, n, is, *why)
		}
	case 5:
		if r.Intn(10) == 0 {
			m.record.Mode = 1 + r.Intn(2)
			bucket.SetMode(x, 3, y, m.record.Mode)
		}
	case 6:
		m.record.Limit = none
		if u := m.record.Used; r.Intn(3) == 0 {
			m.record.Limit = amount(max(u.Bytes+r.Int63n(500)-250, -1), max(u.Objects+r.Int63n(6)-1, -1))
		}
		meter.SetLimit(x, 3, y, m.record.Limit)
	case 7:
		i, *why = m.find(key, id)
		if *why == api.OK && m.chains[key][i].marker {
			*why = api.ErrMarker
		}
		if v, body := Get(x, 3, y, key, id); *why != api.OK || v.Id != m.chains[key][i].id || body != m.chains[key][i].body {
			t.Error("Get", v, *why)
		}
	}
}

// A version is read by its Id whatever is stored and deleted under other keys
// and Ids; in the mode Kept, only its Id deletes it.
func TestP20_4Kept(t *testing.T) {
	r := rand.New(rand.NewSource(5))
	s := formatted(t, 400, 400)
	do(t, s, func(x *kv.Tx) {
		bucket.Make(x, 0, "b")
		Put(x, 0, "b", "k", "unnumbered")
		bucket.SetMode(x, 0, "b", api.Kept)
	})
	bodies := map[uint64]string{0: "unnumbered"}
	for i := range 200 {
		do(t, s, func(x *kv.Tx) {
			body := strings.Repeat(string(rune('a'+i%26)), r.Intn(900))
			id, _ := Put(x, 0, "b", "k", body)
			bodies[id] = body
			Delete(x, 0, "b", "k", newest)
			other, _ := Put(x, 0, "b", "kk", body)
			Delete(x, 0, "b", "kk", number(other))
			if i%2 == 0 {
				delete(bodies, id)
				Delete(x, 0, "b", "k", number(id))
			}
			for id, want := range bodies {
				if _, body := Get(x, 0, "b", "k", number(id)); body != want {
					t.Fatal(i, id)
				}
			}
		})
	}
	do(t, s, func(x *kv.Tx) {
		if l := Chain(x, 0, "b", "k"); len(l) != len(bodies)+200 || len(bodies) != 101 {
			t.Error(len(l), len(bodies))
		}
	})
	whole(t, s)
}

// A key has at most one unnumbered version, and no other ones in a bucket that
// has always been in the mode Plain.
func TestP20_5Unnumbered(t *testing.T) {
	r := rand.New(rand.NewSource(6))
	for _, m := range []int{api.Plain, api.Held} {
		s := formatted(t, 60, 60)
		do(t, s, mode(0, "b", m))
		for range 300 {
			do(t, s, func(x *kv.Tx) {
				key := validKeys[r.Intn(4)]
				if r.Intn(3) > 0 {
					Put(x, 0, "b", key, strings.Repeat("x", r.Intn(500)))
				} else if _, why := Find(x, 0, "b", key, newest); why == api.OK || m == api.Held {
					Delete(x, 0, "b", key, newest)
				}
				if m == api.Held && r.Intn(5) == 0 { // numbered versions in between
					bucket.SetMode(x, 0, "b", api.Kept)
					id, _ := Put(x, 0, "b", key, "")
					bucket.SetMode(x, 0, "b", api.Held)
					if r.Intn(4) > 0 {
						Delete(x, 0, "b", key, number(id))
					}
				}
				for _, key := range validKeys {
					numbered, others := 0, 0
					for _, e := range Chain(x, 0, "b", key) {
						if e.Version.Id == 0 {
							others++
						} else {
							numbered++
						}
					}
					if others > 1 || m == api.Plain && numbered > 0 {
						t.Error(m, key, others, numbered)
					}
				}
			})
		}
		whole(t, s)
	}
}

// A Tx without a transaction has no items, and nothing to abort.
func TestP1_WithoutTransaction(t *testing.T) {
	s := formatted(t, 20, 30)
	var ended *kv.Tx
	do(t, s, func(x *kv.Tx) {
		bucket.Make(x, 1, "b")
		Put(x, 1, "b", "k", "body")
		ended = x
	})
	before := all(t, s)
	for _, x := range []*kv.Tx{nil, {}, ended} {
		for _, tenant := range append([]int{0, 1, 7}, noTenants...) {
			for _, y := range append([]string{"b"}, noNames...) {
				for _, key := range append([]string{"k"}, noKeys...) {
					for _, new := range []New{{}, {Marker: true, Sum: 1}, {Body: long}, {Less: noCounts[4]}} {
						for _, id := range []api.Id{newest, {}, {N: 1}} {
							for _, by := range calls(tenant, y, key, new, id) {
								by(x)
							}
							e, why := Find(x, tenant, y, key, id)
							if len(Chain(x, tenant, y, key)) != 0 || e != (Entry{}) || why == api.OK {
								t.Fatal(tenant, y, key)
							}
						}
					}
				}
			}
		}
	}
	if !maps.Equal(all(t, s), before) {
		t.Error("something was changed")
	}
}

// The same calls have the same results, in every store with the same contents.
func TestP2_SameResults(t *testing.T) {
	results := func() []Entry {
		s := formatted(t, 60, 60)
		var l []Entry
		do(t, s, mode(0, "b", api.Kept))
		do(t, s, func(x *kv.Tx) {
			for _, key := range validKeys {
				Put(x, 0, "b", key, key)
				Delete(x, 0, "b", key, newest)
				l = append(l, Chain(x, 0, "b", key)...)
			}
		})
		return l
	}
	if l := results(); !slices.Equal(l, results()) || len(l) != 2*len(validKeys) {
		t.Error("different results")
	}
}
