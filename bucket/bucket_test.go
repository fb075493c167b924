package bucket

import (
	"maps"
	"math"
	"math/rand"
	"slices"
	"strings"
	"testing"

	"wharfage/api"
	"wharfage/disk"
	"wharfage/keys"
	"wharfage/kv"
	"wharfage/meter"
	"wharfage/pages"
	"wharfage/record"
)

var (
	none       = api.Count{Bytes: -1, Objects: -1} // no limits
	fresh      = api.Bucket{Limit: none, Next: 1}  // what Make creates
	noTenants  = []int{math.MinInt, -256, -8, -1, 8, 9, 255, 256, 264, 1 << 32, math.MaxInt}
	noNames    = []string{"", "-", "b-", "-b", "B", "b b", "b\x00", "b\xff", "abcdefghijklm", strings.Repeat("b", 70000)}
	noModes    = []int{math.MinInt, -1, 3, 4, 256, 257, 1 << 32, 1<<32 + 1, math.MaxInt}
	validNames = []string{"b", "0", "a-b", "abcdefghijkl"}
)

// formatted returns an empty store.
func formatted(t *testing.T, n, journal int) *kv.Store {
	t.Helper()
	size, why := pages.Size(n, journal)
	if why != api.OK {
		t.Fatal(why)
	}
	d, why := disk.New(size)
	if why != api.OK {
		t.Fatal(why)
	}
	s, why := kv.Format(d, n, journal)
	if why != api.OK {
		t.Fatal(why)
	}
	return s
}

// do requires that a transaction succeeds.
func do(t *testing.T, s *kv.Store, by func(x *kv.Tx)) {
	t.Helper()
	if why := s.Do(by); why != api.OK {
		t.Fatal(why)
	}
}

// fails requires that a transaction aborts with an error within by, and that it
// changes nothing.
func fails(t *testing.T, s *kv.Store, want api.Errno, by func(x *kv.Tx)) {
	t.Helper()
	before, returned := all(t, s), false
	why := s.Do(func(x *kv.Tx) {
		by(x)
		returned = true
	})
	if why != want || returned {
		t.Error("aborts with", why, "instead of", want)
	}
	if !maps.Equal(all(t, s), before) {
		t.Error("an abort changes something")
	}
}

// all returns all items of a store.
func all(t *testing.T, s *kv.Store) map[string]string {
	t.Helper()
	m := map[string]string{}
	if why := s.View(func(x *kv.Tx) {
		l, _ := x.Scan("", "", math.MaxInt)
		for _, y := range l {
			m[y.Key] = y.Value
		}
	}); why != api.OK {
		t.Fatal(why)
	}
	return m
}

func made(t *testing.T, k keys.Key) string {
	t.Helper()
	key, why := keys.Make(k)
	if why != api.OK {
		t.Fatal(k, why)
	}
	return key
}

func ofBucket(t *testing.T, tenant int, bucket string) string {
	t.Helper()
	return made(t, keys.Key{Kind: keys.Bucket, Tenant: tenant, Bucket: bucket})
}

// calls returns a call of each function.
func calls(tenant int, bucket string, mode int) map[string]func(x *kv.Tx) {
	return map[string]func(x *kv.Tx){
		"Make":    func(x *kv.Tx) { Make(x, tenant, bucket) },
		"Drop":    func(x *kv.Tx) { Drop(x, tenant, bucket) },
		"SetMode": func(x *kv.Tx) { SetMode(x, tenant, bucket, mode) },
		"Next":    func(x *kv.Tx) { Next(x, tenant, bucket) },
		"Empty":   func(x *kv.Tx) { Empty(x, tenant, bucket) },
		"Names":   func(x *kv.Tx) { Names(x, tenant) },
	}
}

// A tenant that does not exist comes before all other errors.
func TestP19_1ErrTenantIsFirst(t *testing.T) {
	s := formatted(t, 40, 60)
	do(t, s, func(x *kv.Tx) {
		for tenant := range 8 {
			Make(x, tenant, "b")
		}
		x.Put("B\x08b", "no bucket")
		x.Put("B\xffb", "no bucket")
	})
	for _, tenant := range noTenants {
		for _, y := range append([]string{"b", "c"}, noNames...) {
			for _, mode := range []int{-1, 0, 1} {
				for _, by := range calls(tenant, y, mode) {
					fails(t, s, api.ErrTenant, by)
				}
			}
		}
	}
}

func TestP19_1Make(t *testing.T) {
	s := formatted(t, 60, 60)
	value, _ := record.PutBucket(fresh)
	want := map[string]string{}
	for tenant := range 8 {
		for _, y := range validNames {
			do(t, s, func(x *kv.Tx) {
				Make(x, tenant, y)
				if b := meter.Bucket(x, tenant, y); b != fresh {
					t.Error(tenant, y, b)
				}
			})
			want[ofBucket(t, tenant, y)] = value
		}
	}
	if !maps.Equal(all(t, s), want) {
		t.Error("other items than those of the buckets")
	}
}

func TestP19_1MakeFails(t *testing.T) {
	s := formatted(t, 20, 30)
	do(t, s, func(x *kv.Tx) {
		Make(x, 1, "b")
		Next(x, 1, "b")
		x.Put("B\x01-", "x")
		x.Put("B\x01", "x")
	})
	for _, y := range noNames {
		fails(t, s, api.ErrArg, func(x *kv.Tx) { Make(x, 1, y) })
	}
	fails(t, s, api.ErrExists, func(x *kv.Tx) { Make(x, 1, "b") })
	fails(t, s, api.ErrExists, func(x *kv.Tx) {
		Make(x, 1, "c")
		Make(x, 1, "c")
	})
	do(t, s, func(x *kv.Tx) {
		Make(x, 0, "b")
		Make(x, 2, "b")
		Make(x, 1, "bb")
		Make(x, 1, "b0")
	})
}

// A bucket exists whatever its mode, limit, usage and contents are.
func TestP19_1MakeOfUsedBucket(t *testing.T) {
	s := formatted(t, 20, 30)
	b := api.Bucket{Mode: api.Held, Used: api.Count{Bytes: 5, Objects: 1}}
	do(t, s, func(x *kv.Tx) { meter.Save(x, 0, "b", b) })
	fails(t, s, api.ErrExists, func(x *kv.Tx) { Make(x, 0, "b") })
}

func TestP19_1MakeWithoutSpace(t *testing.T) {
	s := formatted(t, 8, 30)
	made := 0
	for {
		before := all(t, s)
		y := "b" + strings.Repeat("x", made/26) + string(rune('a'+made%26))
		why := s.Do(func(x *kv.Tx) { Make(x, 0, y) })
		if why == api.ErrDisk {
			if !maps.Equal(all(t, s), before) {
				t.Error("something was changed")
			}
			break
		}
		if why != api.OK {
			t.Fatal(why)
		}
		made++
	}
	do(t, s, func(x *kv.Tx) {
		l := Names(x, 0)
		if len(l) != made || made < 10 {
			t.Error(len(l), made)
		}
		for _, y := range l { // these need no space
			SetMode(x, 0, y, api.Kept)
			Next(x, 0, y)
			Drop(x, 0, y)
		}
	})
	if len(all(t, s)) != 0 || s.Free() != 6 || s.Check(nil) != api.OK {
		t.Error("something is left")
	}
}

func TestP19_1Drop(t *testing.T) {
	s := formatted(t, 20, 30)
	do(t, s, func(x *kv.Tx) {
		Make(x, 1, "b")
		Make(x, 1, "bb")
		Make(x, 2, "b")
		SetMode(x, 1, "b", api.Kept)
		Next(x, 1, "b")
		meter.SetLimit(x, 1, "b", api.Count{Bytes: 7, Objects: 7})
		meter.SetLimit(x, 1, "", api.Count{Bytes: 8, Objects: 8})
	})
	before := all(t, s)
	do(t, s, func(x *kv.Tx) {
		Drop(x, 1, "b")
		if meter.Has(x, 1, "b") {
			t.Error("it still exists")
		}
	})
	delete(before, ofBucket(t, 1, "b"))
	if !maps.Equal(all(t, s), before) {
		t.Error("something else was changed")
	}
	do(t, s, func(x *kv.Tx) {
		Make(x, 1, "b") // another one with this name
		if b := meter.Bucket(x, 1, "b"); b != fresh {
			t.Error(b)
		}
	})
}

func TestP19_1DropFails(t *testing.T) {
	s := formatted(t, 20, 30)
	do(t, s, func(x *kv.Tx) {
		Make(x, 1, "b")
		Make(x, 1, "c")
		x.Put("B\x01-", "x")
	})
	for _, y := range append([]string{"a", "bb", "d"}, noNames...) {
		fails(t, s, api.ErrBucket, func(x *kv.Tx) { Drop(x, 1, y) })
	}
	fails(t, s, api.ErrBucket, func(x *kv.Tx) { Drop(x, 0, "b") })
	fails(t, s, api.ErrBucket, func(x *kv.Tx) {
		Drop(x, 1, "b")
		Drop(x, 1, "b")
	})
	for _, k := range inside {
		k.Tenant, k.Bucket = 1, "b"
		do(t, s, func(x *kv.Tx) { x.Put(made(t, k), "") })
		fails(t, s, api.ErrEmpty, func(x *kv.Tx) { Drop(x, 1, "b") })
		do(t, s, func(x *kv.Tx) { x.Delete(made(t, k)) })
	}
	// A bucket that does not exist has nothing.
	do(t, s, func(x *kv.Tx) {
		Drop(x, 1, "b")
		x.Put(made(t, keys.Key{Kind: keys.Version, Tenant: 1, Bucket: "b", Name: "k"}), "")
	})
	fails(t, s, api.ErrBucket, func(x *kv.Tx) { Drop(x, 1, "b") })
}

func TestP19_2SetMode(t *testing.T) {
	s := formatted(t, 20, 30)
	b := api.Bucket{Limit: api.Count{Bytes: 9, Objects: -1}, Used: api.Count{Bytes: 5, Objects: 1}, Next: 6}
	for from := range 3 {
		for to := range 3 {
			do(t, s, func(x *kv.Tx) {
				b.Mode = from
				meter.Save(x, 1, "b", b)
				meter.Save(x, 1, "c", b)
			})
			if from != api.Plain && to == api.Plain {
				fails(t, s, api.ErrArg, func(x *kv.Tx) { SetMode(x, 1, "b", to) })
				continue
			}
			do(t, s, func(x *kv.Tx) { SetMode(x, 1, "b", to) })
			do(t, s, func(x *kv.Tx) {
				want := b
				want.Mode = to
				if got := meter.Bucket(x, 1, "b"); got != want || meter.Bucket(x, 1, "c") != b {
					t.Error(from, to, got)
				}
			})
		}
	}
}

func TestP19_2SetModeFails(t *testing.T) {
	s := formatted(t, 20, 30)
	do(t, s, func(x *kv.Tx) {
		Make(x, 1, "plain")
		Make(x, 1, "kept")
		SetMode(x, 1, "kept", api.Kept)
	})
	for _, mode := range noModes {
		fails(t, s, api.ErrArg, func(x *kv.Tx) { SetMode(x, 1, "plain", mode) })
		fails(t, s, api.ErrArg, func(x *kv.Tx) { SetMode(x, 1, "kept", mode) })
	}
	for _, mode := range append([]int{0, 1, 2}, noModes...) {
		for _, y := range append([]string{"c", "plain0"}, noNames...) {
			fails(t, s, api.ErrBucket, func(x *kv.Tx) { SetMode(x, 1, y, mode) })
		}
		fails(t, s, api.ErrBucket, func(x *kv.Tx) { SetMode(x, 0, "kept", mode) })
	}
}

func TestP19_2Next(t *testing.T) {
	s := formatted(t, 20, 30)
	for _, n := range []uint64{0, 1, 2, 255, 256, 1<<32 - 1, 1 << 50, 1<<63 - 1, math.MaxUint64 - 2} {
		b := api.Bucket{Mode: api.Held, Limit: api.Count{Bytes: 9, Objects: -1}, Used: api.Count{Bytes: 5, Objects: 1}, Next: n}
		do(t, s, func(x *kv.Tx) {
			meter.Save(x, 1, "b", b)
			meter.Save(x, 1, "c", b)
			if got := Next(x, 1, "b"); got != n {
				t.Error(n, got)
			}
		})
		do(t, s, func(x *kv.Tx) {
			if got := Next(x, 1, "b"); got != n+1 {
				t.Error(n, got)
			}
			want := b
			want.Next = n + 2
			if got := meter.Bucket(x, 1, "b"); got != want || meter.Bucket(x, 1, "c") != b {
				t.Error(n, got)
			}
		})
	}
}

func TestP19_2NextFails(t *testing.T) {
	s := formatted(t, 20, 30)
	do(t, s, func(x *kv.Tx) { meter.Save(x, 1, "b", api.Bucket{Next: math.MaxUint64 - 1}) })
	do(t, s, func(x *kv.Tx) {
		if n := Next(x, 1, "b"); n != math.MaxUint64-1 {
			t.Error(n)
		}
	})
	for range 3 {
		fails(t, s, api.ErrOver, func(x *kv.Tx) { Next(x, 1, "b") })
	}
	for _, y := range append([]string{"a", "bb"}, noNames...) {
		fails(t, s, api.ErrBucket, func(x *kv.Tx) { Next(x, 1, y) })
	}
	fails(t, s, api.ErrBucket, func(x *kv.Tx) { Next(x, 2, "b") })
}

// inside is keys of a bucket that make it not empty.
var inside = []keys.Key{
	{Kind: keys.Version, Name: "k"},
	{Kind: keys.Version, Name: "k", Number: math.MaxUint64},
	{Kind: keys.Version, Name: "\x01", Number: 5},
	{Kind: keys.Version, Name: strings.Repeat("\xff", 24), Number: 1},
	{Kind: keys.Upload},
	{Kind: keys.Upload, Number: 1},
	{Kind: keys.Upload, Number: math.MaxUint64},
}

func TestP19_3Empty(t *testing.T) {
	s := formatted(t, 30, 40)
	do(t, s, func(x *kv.Tx) {
		for tenant := range 8 {
			for _, y := range validNames {
				Make(x, tenant, y)
			}
		}
	})
	for _, k := range inside {
		k.Tenant, k.Bucket = 3, "b"
		do(t, s, func(x *kv.Tx) { x.Put(made(t, k), "") })
		do(t, s, func(x *kv.Tx) {
			for tenant := range 8 {
				for _, y := range validNames {
					if Empty(x, tenant, y) == (tenant == 3 && y == "b") {
						t.Error(k, tenant, y)
					}
				}
			}
			x.Delete(made(t, k))
			if !Empty(x, 3, "b") {
				t.Error(k)
			}
		})
	}
}

// Things of other buckets and tenants, and things that are neither versions nor
// uploads, do not count.
func TestP19_3EmptyBesideOthers(t *testing.T) {
	s := formatted(t, 60, 60)
	do(t, s, func(x *kv.Tx) {
		for _, y := range []string{"b", "a", "bb", "b-b", "b0", "c"} {
			Make(x, 1, y)
		}
		Make(x, 0, "b")
		Make(x, 2, "b")
		for _, k := range inside {
			for _, y := range []string{"a", "bb", "b-b", "b0", "c"} {
				k.Tenant, k.Bucket = 1, y
				x.Put(made(t, k), "")
			}
			for _, tenant := range []int{0, 2} {
				k.Tenant, k.Bucket = tenant, "b"
				x.Put(made(t, k), "")
			}
		}
		for part := 1; part <= 16; part++ {
			x.Put(made(t, keys.Key{Kind: keys.Part, Tenant: 1, Bucket: "b", Number: 1, Part: part}), "")
		}
		meter.Charge(x, 1, "b", api.Count{Bytes: 5, Objects: 5}, api.Count{})
	})
	do(t, s, func(x *kv.Tx) {
		if !Empty(x, 1, "b") || Empty(x, 1, "bb") || Empty(x, 1, "b-b") || Empty(x, 1, "b0") || Empty(x, 0, "b") || Empty(x, 2, "b") {
			t.Error("others count, or do not count for themselves")
		}
		Drop(x, 1, "b")
	})
}

// Items whose keys only begin like those of a bucket are nothing of it.
func TestP19_3EmptyBesideOtherItems(t *testing.T) {
	s := formatted(t, 40, 40)
	number := strings.Repeat("\x00", 8)
	do(t, s, func(x *kv.Tx) {
		Make(x, 1, "b")
		x.Put("V\x01b\x00", "")
		x.Put("V\x01b\x00k\x00", "")
		x.Put("V\x01b\x00\x00"+number, "")
		x.Put("V\x01b\x00"+strings.Repeat("k", 25)+"\x00"+number, "")
		x.Put("U\x01b\x00"+number[1:], "")
		x.Put("U\x01b\x00"+number+"\x00", "")
		x.Put("U\x01b"+number+"\x01", "") // a part of this is a number
	})
	key := "U\x01b" + number + "\x01"
	do(t, s, func(x *kv.Tx) {
		if Empty(x, 1, "b") {
			t.Errorf("%q is the key of upload 1", key)
		}
		x.Delete(key)
		if !Empty(x, 1, "b") {
			t.Error("it has something")
		}
	})
	for _, k := range inside {
		k.Tenant, k.Bucket = 1, "b"
		do(t, s, func(x *kv.Tx) { x.Put(made(t, k), "") })
		do(t, s, func(x *kv.Tx) {
			if Empty(x, 1, "b") {
				t.Error(k)
			}
			x.Delete(made(t, k))
		})
	}
	do(t, s, func(x *kv.Tx) { Drop(x, 1, "b") })
}

func TestP19_3EmptyIfItDoesNotExist(t *testing.T) {
	s := formatted(t, 30, 30)
	do(t, s, func(x *kv.Tx) {
		for _, k := range inside {
			k.Tenant, k.Bucket = 1, "b"
			x.Put(made(t, k), "")
		}
		x.Put("V\x01B\x00k\x00\x00\x00\x00\x00\x00\x00\x00\x01", "")
		x.Put("U\x01\x00\x00\x00\x00\x00\x00\x00\x00\x01", "")
		for _, y := range append([]string{"a", "b", "c"}, noNames...) {
			if !Empty(x, 1, y) {
				t.Errorf("%.20q", y)
			}
		}
		Make(x, 1, "b")
		if Empty(x, 1, "b") {
			t.Error("it exists now")
		}
	})
}

func TestP19_3Names(t *testing.T) {
	s := formatted(t, 40, 60)
	names := []string{"b", "a", "ab", "a-b", "0", "a0", "zzzzzzzzzzzz", "abcdefghijkl", "z"}
	do(t, s, func(x *kv.Tx) {
		for tenant := range 8 {
			if l := Names(x, tenant); len(l) != 0 {
				t.Error(l)
			}
		}
		for _, y := range names {
			Make(x, 3, y)
		}
		Make(x, 2, "two")
		Make(x, 4, "four")
		meter.SetLimit(x, 3, "", api.Count{})
		x.Put(made(t, keys.Key{Kind: keys.Version, Tenant: 3, Bucket: "c", Name: "k"}), "")
		x.Put("B\x03", "x") // no keys of buckets
		x.Put("B\x03-", "x")
		x.Put("B\x03b\x00", "x")
		x.Put("B\x03A", "x")
	})
	want := []string{"0", "a", "a-b", "a0", "ab", "abcdefghijkl", "b", "z", "zzzzzzzzzzzz"}
	do(t, s, func(x *kv.Tx) {
		l := Names(x, 3)
		if !slices.Equal(l, want) {
			t.Error(l)
		}
		clear(l)
		if l := Names(x, 3); !slices.Equal(l, want) {
			t.Error(l)
		}
		Drop(x, 3, "a0")
		if l := Names(x, 3); !slices.Equal(l, slices.Delete(slices.Clone(want), 3, 4)) {
			t.Error(l)
		}
		if l := Names(x, 2); !slices.Equal(l, []string{"two"}) {
			t.Error(l)
		}
	})
}

func TestP19_3NamesOfManyBuckets(t *testing.T) {
	s := formatted(t, 200, 200)
	var names []string
	for i := range 300 {
		y := "b" + strings.Repeat("x", i%9) + string([]byte{'a' + byte(i%26), 'a' + byte(i/26)})
		names = append(names, y)
		do(t, s, func(x *kv.Tx) { Make(x, 5, y) })
	}
	slices.Sort(names)
	do(t, s, func(x *kv.Tx) {
		if l := Names(x, 5); !slices.Equal(l, names) {
			t.Error(len(l))
		}
	})
}

// The records are read by package meter.
func TestP19_1SpoiltRecords(t *testing.T) {
	s := formatted(t, 20, 30)
	value, _ := record.PutBucket(fresh)
	for _, v := range []string{"", value[:40], value + "\x00", "\x03" + value[1:], "\x00\xff" + value[2:]} {
		do(t, s, func(x *kv.Tx) { x.Put(ofBucket(t, 1, "b"), v) })
		for name, by := range calls(1, "b", 9) {
			if name == "Names" { // it needs no records
				do(t, s, by)
				continue
			}
			fails(t, s, api.ErrForm, by)
		}
	}
	// That of the tenant is needed by none.
	do(t, s, func(x *kv.Tx) {
		x.Put(made(t, keys.Key{Kind: keys.Tenant, Tenant: 1}), "x")
		Make(x, 1, "c")
		SetMode(x, 1, "c", api.Kept)
		Next(x, 1, "c")
		if l := Names(x, 1); !slices.Equal(l, []string{"b", "c"}) || !Empty(x, 1, "c") {
			t.Error(l)
		}
		Drop(x, 1, "c")
	})
}

// model is what a user remembers of all buckets, and of what is in them.
type model struct {
	buckets [8]map[string]api.Bucket
	inside  [8]map[string]map[keys.Key]struct{}
}

// step performs one random call, and requires its result to be the model's.
func (m *model) step(t *testing.T, r *rand.Rand, s *kv.Store) api.Errno {
	tenant := r.Intn(3) * 3
	y := []string{"a", "b", "bb", "none", "B"}[r.Intn(5)]
	b, have := m.buckets[tenant][y]
	want, by := api.ErrBucket, func(x *kv.Tx) {}
	if have {
		want = api.OK
	}
	mode := r.Intn(5) - 1
	k := inside[r.Intn(len(inside))]
	k.Tenant, k.Bucket = tenant, y
	now := b
	switch r.Intn(6) {
	case 0:
		by = func(x *kv.Tx) { Make(x, tenant, y) }
		want = api.OK
		if have {
			want = api.ErrExists
		} else if y == "B" {
			want = api.ErrArg
		}
		now = fresh
	case 1:
		by = func(x *kv.Tx) { Drop(x, tenant, y) }
		if have && len(m.inside[tenant][y]) > 0 {
			want = api.ErrEmpty
		}
		if want == api.OK {
			defer delete(m.buckets[tenant], y)
		}
	case 2:
		by = func(x *kv.Tx) { SetMode(x, tenant, y, mode) }
		if have && (mode < 0 || mode > 2 || mode == 0 && b.Mode != 0) {
			want = api.ErrArg
		}
		now.Mode = mode
	case 3:
		by = func(x *kv.Tx) {
			if n := Next(x, tenant, y); n != b.Next {
				t.Error(n, b.Next)
			}
		}
		now.Next++
	case 4:
		if !have {
			return api.OK
		}
		m.inside[tenant][y][k] = struct{}{}
		by = func(x *kv.Tx) { x.Put(made(t, k), "") }
	case 5:
		if !have {
			return api.OK
		}
		clear(m.inside[tenant][y])
		by = func(x *kv.Tx) {
			for _, k := range inside {
				k.Tenant, k.Bucket = tenant, y
				x.Delete(made(t, k))
			}
		}
	}
	if want != api.OK {
		fails(t, s, want, by)
		return want
	}
	do(t, s, by)
	m.buckets[tenant][y] = now
	return api.OK
}

// items returns all items that a store must have.
func (m *model) items(t *testing.T) map[string]string {
	t.Helper()
	items := map[string]string{}
	for tenant := range 8 {
		for y, b := range m.buckets[tenant] {
			value, why := record.PutBucket(b)
			if why != api.OK {
				t.Fatal(b, why)
			}
			items[ofBucket(t, tenant, y)] = value
		}
		for _, l := range m.inside[tenant] {
			for k := range l {
				items[made(t, k)] = ""
			}
		}
	}
	return items
}

// An operation on a bucket changes neither other buckets nor anything else.
func TestP19_4Isolation(t *testing.T) {
	for seed := range int64(5) {
		r := rand.New(rand.NewSource(seed))
		s := formatted(t, 60, 60)
		m := &model{}
		for tenant := range 8 {
			m.buckets[tenant] = map[string]api.Bucket{}
			m.inside[tenant] = map[string]map[keys.Key]struct{}{}
			for _, y := range []string{"a", "b", "bb", "none", "B"} {
				m.inside[tenant][y] = map[keys.Key]struct{}{}
			}
		}
		kinds := map[api.Errno]int{}
		for range 1200 {
			kinds[m.step(t, r, s)]++
			if !maps.Equal(all(t, s), m.items(t)) {
				t.Error("other items than those of the model")
			}
			do(t, s, func(x *kv.Tx) {
				for tenant := range 8 {
					if l := Names(x, tenant); !slices.Equal(l, slices.Sorted(maps.Keys(m.buckets[tenant]))) {
						t.Error(tenant, l)
					}
					for y, l := range m.inside[tenant] {
						if Empty(x, tenant, y) != (len(l) == 0) {
							t.Error(tenant, y, l)
						}
					}
				}
			})
			if t.Failed() {
				t.Fatal(seed, kinds)
			}
		}
		for _, why := range []api.Errno{api.OK, api.ErrBucket, api.ErrArg, api.ErrExists, api.ErrEmpty} {
			if kinds[why] < 20 {
				t.Error(kinds)
			}
		}
	}
}

// Next returns each number once, whatever is done in between and whichever
// transactions abort.
func TestP19_4NextIsNeverRepeated(t *testing.T) {
	r := rand.New(rand.NewSource(7))
	s := formatted(t, 20, 30)
	do(t, s, func(x *kv.Tx) {
		Make(x, 0, "b")
		Make(x, 0, "c")
	})
	seen := map[uint64]struct{}{}
	for range 2000 {
		var l []uint64
		why := s.Do(func(x *kv.Tx) {
			for range r.Intn(4) {
				switch r.Intn(4) {
				case 0:
					SetMode(x, 0, "b", 1+r.Intn(2))
				case 1:
					meter.SetLimit(x, 0, "b", api.Count{Bytes: int64(r.Intn(9)), Objects: -1})
				case 2:
					Next(x, 0, "c")
				}
				l = append(l, Next(x, 0, "b"))
			}
			if r.Intn(5) == 0 {
				x.Stop(api.ErrQuota)
			}
		})
		if why != api.OK {
			continue // nobody received these numbers
		}
		for _, n := range l {
			if _, have := seen[n]; have || n == 0 {
				t.Fatal(n)
			}
			seen[n] = struct{}{}
		}
	}
	do(t, s, func(x *kv.Tx) {
		if n := Next(x, 0, "b"); n != uint64(len(seen))+1 || n < 1000 {
			t.Error(n, len(seen))
		}
	})
}

// A Tx without a transaction has no items, and nothing to abort.
func TestP1_WithoutTransaction(t *testing.T) {
	s := formatted(t, 20, 30)
	var ended *kv.Tx
	do(t, s, func(x *kv.Tx) {
		Make(x, 1, "b")
		ended = x
	})
	before := all(t, s)
	for _, x := range []*kv.Tx{nil, {}, ended} {
		for _, tenant := range append([]int{0, 1, 7}, noTenants...) {
			for _, y := range append(noNames, validNames...) {
				for _, mode := range append(noModes, 0, 1, 2) {
					for _, by := range calls(tenant, y, mode) {
						by(x)
					}
				}
				if Next(x, tenant, y) != 0 || !Empty(x, tenant, y) || len(Names(x, tenant)) != 0 {
					t.Error(tenant, y)
				}
			}
		}
	}
	if !maps.Equal(all(t, s), before) {
		t.Error("something was changed")
	}
}

// The same calls have the same results, in every store with the same contents.
func TestP2_SameResults(t *testing.T) {
	results := func() []string {
		s := formatted(t, 20, 30)
		var l []string
		do(t, s, func(x *kv.Tx) {
			for _, y := range validNames {
				Make(x, 0, y)
				l = append(l, Names(x, 0)...)
			}
		})
		return l
	}
	if !slices.Equal(results(), results()) {
		t.Error("different results")
	}
}
