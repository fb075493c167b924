package list

import (
	"fmt"
	"maps"
	"math"
	"math/rand"
	"slices"
	"strings"
	"testing"

	"wharfage/api"
	"wharfage/bucket"
	"wharfage/crc"
	"wharfage/disk"
	"wharfage/keys"
	"wharfage/kv"
	"wharfage/meter"
	"wharfage/pages"
	"wharfage/record"
	"wharfage/version"
)

var (
	newest     = api.Id{Newest: true}
	noTenants  = []int{math.MinInt, -256, -8, -1, 8, 9, 255, 256, 264, 1 << 32, math.MaxInt}
	noNames    = []string{"", "-", "b-", "-b", "B", "b b", "b\x00", "b\xff", "abcdefghijklm", strings.Repeat("b", 70000)}
	noPrefixes = []string{"\x00", "k\x00", "\x00k", "k\x00k", strings.Repeat("k", 25), strings.Repeat("k", 70000)}
	noRows     = []int{math.MinInt, -1, 0, 21, 22, 256, 1 << 32, 1<<32 + 1, math.MaxInt}
	// all keys that the tests use, in increasing order
	names = []string{"\x01", "\x01\x01", "\x01\xff", " ", "a", "a\x01", "a0", "aa", "aaa", "ab", "b", "ba", "b\xff", "b\xff\xff", "c", strings.Repeat("k", 24), "\xff", strings.Repeat("\xff", 24)}
)

// formatted returns an empty store.
func formatted(t *testing.T, n, journal int) *kv.Store {
	t.Helper()
	size, why := pages.Size(n, journal)
	if why != api.OK {
		t.Fatal(why)
	}
	d, why := disk.New(size)
	if why != api.OK {
		t.Fatal(why)
	}
	s, why := kv.Format(d, n, journal)
	if why != api.OK {
		t.Fatal(why)
	}
	return s
}

// do requires that a transaction succeeds.
func do(t *testing.T, s *kv.Store, by func(x *kv.Tx)) {
	t.Helper()
	if why := s.Do(by); why != api.OK {
		t.Fatal(why)
	}
}

// fails requires that a transaction aborts with an error within by, and that it
// changes nothing.
func fails(t *testing.T, s *kv.Store, want api.Errno, by func(x *kv.Tx)) {
	t.Helper()
	before, returned := all(t, s), false
	why := s.Do(func(x *kv.Tx) {
		by(x)
		returned = true
	})
	if why != want || returned {
		t.Error("aborts with", why, "instead of", want)
	}
	if !maps.Equal(all(t, s), before) {
		t.Error("an abort changes something")
	}
}

// all returns all items of a store.
func all(t *testing.T, s *kv.Store) map[string]string {
	t.Helper()
	m := map[string]string{}
	if why := s.View(func(x *kv.Tx) {
		l, _ := x.Scan("", "", math.MaxInt)
		for _, y := range l {
			m[y.Key] = y.Value
		}
	}); why != api.OK {
		t.Fatal(why)
	}
	return m
}

func made(t *testing.T, k keys.Key) string {
	t.Helper()
	key, why := keys.Make(k)
	if why != api.OK {
		t.Fatal(k, why)
	}
	return key
}

// calls returns a call of each function.
func calls(tenant int, y, prefix, after string, id api.Id, rows int) map[string]func(x *kv.Tx) {
	return map[string]func(x *kv.Tx){
		"Keys":  func(x *kv.Tx) { Keys(x, tenant, y, prefix, after, rows) },
		"Trail": func(x *kv.Tx) { Trail(x, tenant, y, prefix, after, id, rows) },
	}
}

// The errors come in this order: the tenant, the bucket, the other arguments.
func TestP21_1Errors(t *testing.T) {
	s := formatted(t, 40, 60)
	do(t, s, func(x *kv.Tx) {
		for tenant := range 8 {
			bucket.Make(x, tenant, "b")
			version.Put(x, tenant, "b", "k", "body")
		}
		x.Put("B\x08b", "no bucket")
		x.Put("B\xffb", "no bucket")
	})
	for _, tenant := range noTenants {
		for _, y := range []string{"b", "c", "", "B"} {
			for _, by := range calls(tenant, y, "\x00", "\x00", newest, 0) {
				fails(t, s, api.ErrTenant, by)
			}
			for _, by := range calls(tenant, y, "k", "k", newest, 1) {
				fails(t, s, api.ErrTenant, by)
			}
		}
	}
	for _, y := range append([]string{"a", "c", "bb"}, noNames...) {
		for _, by := range calls(1, y, "\x00", "\x00", newest, 0) {
			fails(t, s, api.ErrBucket, by)
		}
		for _, by := range calls(1, y, "k", "k", api.Id{}, 1) {
			fails(t, s, api.ErrBucket, by)
		}
	}
	for _, id := range []api.Id{newest, {}, {N: 1}} {
		for _, bad := range noPrefixes {
			for _, by := range calls(1, "b", bad, "k", id, 1) {
				fails(t, s, api.ErrArg, by)
			}
			for _, by := range calls(1, "b", "k", bad, id, 20) {
				fails(t, s, api.ErrArg, by)
			}
		}
		for _, rows := range noRows {
			for _, by := range calls(1, "b", "k", "k", id, rows) {
				fails(t, s, api.ErrArg, by)
			}
			for _, by := range calls(1, "b", "", "", id, rows) {
				fails(t, s, api.ErrArg, by)
			}
		}
		for rows := 1; rows <= 20; rows++ {
			for _, by := range calls(1, "b", "", "", id, rows) {
				do(t, s, by)
			}
		}
	}
}

// filled returns a store whose bucket b has versions of keys, some of them
// markers, in an order that is random.
func filled(t *testing.T, seed int64, many int) *kv.Store {
	t.Helper()
	r := rand.New(rand.NewSource(seed))
	s := formatted(t, 600, 600)
	do(t, s, func(x *kv.Tx) {
		for _, y := range []string{"a", "b", "ba"} {
			bucket.Make(x, 2, y)
		}
		bucket.Make(x, 1, "b")
		for _, key := range names { // near by, but not of the bucket
			version.Put(x, 2, "a", key, "a")
			version.Put(x, 2, "ba", key, "ba")
			version.Put(x, 1, "b", key, "1")
		}
	})
	for i := range many {
		do(t, s, func(x *kv.Tx) {
			if i == many/4 {
				bucket.SetMode(x, 2, "b", api.Kept)
			}
			if i == many/2 {
				bucket.SetMode(x, 2, "b", api.Held)
			}
			if i == many*3/4 {
				bucket.SetMode(x, 2, "b", api.Kept)
			}
			key := names[r.Intn(len(names))]
			_, why := version.Find(x, 2, "b", key, newest)
			if r.Intn(3) == 0 && (why == api.OK || i >= many/4) {
				version.Delete(x, 2, "b", key, newest)
				return
			}
			version.Put(x, 2, "b", key, strings.Repeat("x", r.Intn(200)))
		})
	}
	return s
}

// trail returns the rows of all versions of bucket b, as package version tells
// them.
func trail(x *kv.Tx) []api.Row {
	var l []api.Row
	for _, key := range names {
		for _, e := range version.Chain(x, 2, "b", key) {
			v := e.Version
			l = append(l, api.Row{Key: key, Id: v.Id, Marker: v.Marker, Size: v.Blob.Size, Sum: v.Sum})
		}
	}
	return l
}

// cut returns the first rows, and whether there are more.
func cut(l []api.Row, rows int) ([]api.Row, bool) {
	return l[:min(rows, len(l))], len(l) > rows
}

// wantKeys returns what Keys should return.
func wantKeys(l []api.Row, prefix, after string, rows int) ([]api.Row, bool) {
	var want []api.Row
	for i, r := range l {
		isNewest := i == 0 || l[i-1].Key != r.Key
		if isNewest && !r.Marker && strings.HasPrefix(r.Key, prefix) && r.Key > after {
			want = append(want, r)
		}
	}
	return cut(want, rows)
}

// wantTrail returns what Trail should return.
func wantTrail(l []api.Row, prefix, after string, id api.Id, rows int) ([]api.Row, bool) {
	at := slices.IndexFunc(l, func(r api.Row) bool { return r.Key == after && r.Id == id.N })
	var want []api.Row
	for i, r := range l {
		isAfter := after == "" || r.Key > after
		if at >= 0 && !id.Newest {
			isAfter = i > at
		}
		if isAfter && strings.HasPrefix(r.Key, prefix) {
			want = append(want, r)
		}
	}
	return cut(want, rows)
}

func TestP21_1Keys(t *testing.T) {
	s := formatted(t, 60, 60)
	do(t, s, func(x *kv.Tx) {
		bucket.Make(x, 2, "b")
		version.Put(x, 2, "b", "gone", "x")
		version.Put(x, 2, "b", "kept", "old")
		bucket.SetMode(x, 2, "b", api.Kept)
		version.Put(x, 2, "b", "kept", "newer") // 3
		version.Put(x, 2, "b", "last", "")      // 4
		version.Delete(x, 2, "b", "gone", newest)
		version.Delete(x, 2, "b", "never", newest)
		version.Delete(x, 2, "b", "last", newest)
		version.Add(x, 2, "b", "last", version.New{Sum: 7, Body: "again"}) // 8
	})
	kept := api.Row{Key: "kept", Id: 3, Size: 5, Sum: crc.Sum("newer")}
	last := api.Row{Key: "last", Id: 8, Size: 5, Sum: 7}
	do(t, s, func(x *kv.Tx) {
		for _, y := range []struct {
			prefix, after string
			rows          int
			want          []api.Row
			more          bool
		}{
			{"", "", 20, []api.Row{kept, last}, false},
			{"", "", 2, []api.Row{kept, last}, false},
			{"", "", 1, []api.Row{kept}, true},
			{"", "gone", 20, []api.Row{kept, last}, false},
			{"", "kepp", 20, []api.Row{kept, last}, false},
			{"", "kept", 20, []api.Row{last}, false},
			{"", "kept\x01", 20, []api.Row{last}, false},
			{"", "last", 20, nil, false},
			{"", "m", 20, nil, false},
			{"k", "", 1, []api.Row{kept}, false},
			{"kept", "", 1, []api.Row{kept}, false},
			{"kept", "a", 1, []api.Row{kept}, false},
			{"kept", "kept", 1, nil, false},
			{"kept", "z", 1, nil, false},
			{"keptx", "", 1, nil, false},
			{"gone", "", 1, nil, false},
			{"never", "", 1, nil, false},
			{"l", "kept", 1, []api.Row{last}, false},
		} {
			if l, more := Keys(x, 2, "b", y.prefix, y.after, y.rows); !slices.Equal(l, y.want) || more != y.more {
				t.Error(y, l, more)
			}
		}
	})
}

// Whether a version of the newest number is a marker decides, whatever its Id
// is.
func TestP21_1KeysOfHeld(t *testing.T) {
	s := formatted(t, 60, 60)
	do(t, s, func(x *kv.Tx) {
		bucket.Make(x, 2, "b")
		bucket.SetMode(x, 2, "b", api.Kept)
		version.Put(x, 2, "b", "k", "1")
		version.Put(x, 2, "b", "q", "2")
		bucket.SetMode(x, 2, "b", api.Held)
		version.Delete(x, 2, "b", "k", newest)
		version.Put(x, 2, "b", "q", "44")
		if l, more := Keys(x, 2, "b", "", "", 20); len(l) != 1 || more || l[0] != (api.Row{Key: "q", Size: 2, Sum: crc.Sum("44")}) {
			t.Error(l, more)
		}
		version.Delete(x, 2, "b", "k", api.Id{})
		if l, more := Keys(x, 2, "b", "", "", 1); len(l) != 1 || !more || l[0] != (api.Row{Key: "k", Id: 1, Size: 1, Sum: crc.Sum("1")}) {
			t.Error(l, more)
		}
	})
}

func TestP21_1RandomKeys(t *testing.T) {
	for seed := range int64(4) {
		s := filled(t, seed, 30+int(seed)*80)
		kinds := map[string]int{}
		do(t, s, func(x *kv.Tx) {
			rows := trail(x)
			for _, prefix := range append([]string{"", "d", "aab"}, names...) {
				for _, after := range append([]string{"", "d", "aab", "a\xff"}, names...) {
					for _, n := range []int{1, 2, 3, 5, 8, 19, 20} {
						l, more := Keys(x, 2, "b", prefix, after, n)
						want, left := wantKeys(rows, prefix, after, n)
						if !slices.Equal(l, want) || more != left {
							t.Fatalf("%q %q %d %v %v", prefix, after, n, l, want)
						}
						kinds[fmt.Sprint(len(l) > 0, more)]++
						clear(l) // the caller's own memory
					}
				}
			}
		})
		if len(kinds) != 3 {
			t.Error(kinds)
		}
	}
}

func TestP21_2Trail(t *testing.T) {
	s := formatted(t, 60, 60)
	do(t, s, func(x *kv.Tx) {
		bucket.Make(x, 2, "b")
		version.Put(x, 2, "b", "k", "old")
		bucket.SetMode(x, 2, "b", api.Kept)
		version.Put(x, 2, "b", "k", "newer")    // 2
		version.Delete(x, 2, "b", "k", newest)  // 3
		version.Delete(x, 2, "b", "k1", newest) // 4
		version.Put(x, 2, "b", "q", "")         // 5
	})
	old := api.Row{Key: "k", Size: 3, Sum: crc.Sum("old")}
	two := api.Row{Key: "k", Id: 2, Size: 5, Sum: crc.Sum("newer")}
	three := api.Row{Key: "k", Id: 3, Marker: true}
	four := api.Row{Key: "k1", Id: 4, Marker: true}
	five := api.Row{Key: "q", Id: 5, Sum: crc.Sum("")}
	rows := []api.Row{three, two, old, four, five}
	do(t, s, func(x *kv.Tx) {
		for _, y := range []struct {
			prefix, after string
			id            api.Id
			rows          int
			want          []api.Row
			more          bool
		}{
			{"", "", api.Id{}, 20, rows, false},
			{"", "", newest, 20, rows, false},
			{"", "", api.Id{N: 3}, 20, rows, false},
			{"", "", api.Id{}, 5, rows, false},
			{"", "", api.Id{}, 4, rows[:4], true},
			{"", "", api.Id{}, 1, rows[:1], true},
			{"", "a", api.Id{}, 20, rows, false},
			{"", "k", api.Id{N: 3}, 20, rows[1:], false},
			{"", "k", api.Id{N: 2}, 20, rows[2:], false},
			{"", "k", api.Id{}, 20, rows[3:], false},
			{"", "k", newest, 20, rows[3:], false},
			{"", "k", api.Id{Newest: true, N: 3}, 20, rows[3:], false},
			{"", "k", api.Id{N: 1}, 20, rows[3:], false},
			{"", "k", api.Id{N: 4}, 20, rows[3:], false},
			{"", "k", api.Id{N: math.MaxUint64}, 20, rows[3:], false},
			{"", "k0", api.Id{N: 3}, 20, rows[3:], false},
			{"", "k1", api.Id{N: 4}, 20, rows[4:], false},
			{"", "q", api.Id{N: 5}, 20, nil, false},
			{"", "q", api.Id{}, 20, nil, false},
			{"", "z", api.Id{}, 20, nil, false},
			{"k", "", api.Id{}, 4, rows[:4], false},
			{"k", "", api.Id{}, 3, rows[:3], true},
			{"k", "k", api.Id{N: 3}, 1, rows[1:2], true},
			{"k1", "k", api.Id{N: 3}, 20, rows[3:4], false},
			{"k1", "k", newest, 20, rows[3:4], false},
			{"k", "k1", api.Id{N: 4}, 20, nil, false},
			{"k", "q", api.Id{N: 5}, 20, nil, false},
			{"q", "k", api.Id{N: 3}, 20, rows[4:], false},
			{"kk", "", api.Id{}, 20, nil, false},
		} {
			if l, more := Trail(x, 2, "b", y.prefix, y.after, y.id, y.rows); !slices.Equal(l, y.want) || more != y.more {
				t.Error(y, l, more)
			}
		}
	})
}

func TestP21_2RandomTrails(t *testing.T) {
	for seed := range int64(3) {
		s := filled(t, seed, 40+int(seed)*80)
		kinds := map[string]int{}
		do(t, s, func(x *kv.Tx) {
			rows := trail(x)
			from := append([]api.Row{{}, {Key: "d"}, {Key: "d", Id: 1}, {Key: "a", Id: 1 << 40}, {Key: "a\xff"}}, rows...)
			for _, prefix := range []string{"", "a", "aa", "b", "b\xff", "\xff", "\x01", names[15], "d"} {
				for _, r := range from {
					for _, is := range []bool{false, true} {
						for _, n := range []int{1, 2, 5, 20} {
							id := api.Id{Newest: is, N: r.Id}
							l, more := Trail(x, 2, "b", prefix, r.Key, id, n)
							want, left := wantTrail(rows, prefix, r.Key, id, n)
							if !slices.Equal(l, want) || more != left {
								t.Fatalf("%q %q %v %d %v %v", prefix, r.Key, id, n, l, want)
							}
							kinds[fmt.Sprint(len(l) > 0, more)]++
							clear(l)
						}
					}
				}
			}
		})
		if len(kinds) != 3 {
			t.Error(kinds)
		}
	}
}

// Of several versions with an Id, Trail starts after the newest one.
func TestP21_2OddIds(t *testing.T) {
	s := formatted(t, 30, 30)
	do(t, s, func(x *kv.Tx) { bucket.Make(x, 2, "b") })
	var rows []api.Row
	for _, e := range []version.Entry{
		{Seq: math.MaxUint64, Version: api.Version{Id: 7, Sum: 1}},
		{Seq: 1 << 40, Version: api.Version{Id: 0, Marker: true}},
		{Seq: 7, Version: api.Version{Id: 7, Sum: 3}},
		{Seq: 1, Version: api.Version{Id: 0, Sum: 4}},
		{Seq: 0, Version: api.Version{Id: math.MaxUint64, Sum: 5}},
	} {
		value, _ := record.PutVersion(e.Version)
		at := made(t, keys.Key{Kind: keys.Version, Tenant: 2, Bucket: "b", Name: "a", Number: e.Seq})
		do(t, s, func(x *kv.Tx) { x.Put(at, value) })
		rows = append(rows, api.Row{Key: "a", Id: e.Version.Id, Marker: e.Version.Marker, Sum: e.Version.Sum})
	}
	do(t, s, func(x *kv.Tx) {
		for id, want := range map[api.Id][]api.Row{
			{N: 7}:              rows[1:],
			{}:                  rows[2:],
			{N: math.MaxUint64}: nil,
			{N: 1}:              nil,
			newest:              nil,
		} {
			if l, more := Trail(x, 2, "b", "", "a", id, 20); !slices.Equal(l, want) || more {
				t.Error(id, l, more)
			}
		}
	})
}

// Repeating the calls with the last row of each page yields each row once.
func TestP21_3Paging(t *testing.T) {
	s := filled(t, 9, 300)
	r := rand.New(rand.NewSource(9))
	do(t, s, func(x *kv.Tx) {
		rows := trail(x)
		if len(rows) < 150 {
			t.Error(len(rows))
		}
		for size := 0; size <= 20; size++ {
			rowsOf := func() int { // of any sizes
				if size == 0 {
					return 1 + r.Intn(20)
				}
				return size
			}
			for _, prefix := range []string{"", "a", "b\xff", "d"} {
				var got []api.Row
				for last, more := (api.Row{}), true; more; {
					var l []api.Row
					n := rowsOf()
					l, more = Keys(x, 2, "b", prefix, last.Key, n)
					if more && len(l) != n || len(got) > len(rows) {
						t.Fatal(len(l), n, len(got))
					}
					got = append(got, l...)
					last = append(l, last)[max(len(l)-1, 0)]
				}
				if want, _ := wantKeys(rows, prefix, "", len(rows)); !slices.Equal(got, want) {
					t.Error(size, prefix, len(got), len(want))
				}
				got = nil
				for last, more := (api.Row{}), true; more; {
					var l []api.Row
					n := rowsOf()
					l, more = Trail(x, 2, "b", prefix, last.Key, api.Id{N: last.Id}, n)
					if more && len(l) != n || len(got) > len(rows) {
						t.Fatal(len(l), n, len(got))
					}
					got = append(got, l...)
					last = append(l, last)[max(len(l)-1, 0)]
				}
				if want, _ := wantTrail(rows, prefix, "", api.Id{}, len(rows)); !slices.Equal(got, want) {
					t.Error(size, prefix, len(got), len(want))
				}
			}
		}
	})
}

// One key with many versions, and many keys that were deleted, do not hide what
// comes after them.
func TestP21_3ManyVersions(t *testing.T) {
	s := formatted(t, 1000, 1000)
	do(t, s, func(x *kv.Tx) {
		bucket.Make(x, 2, "b")
		bucket.SetMode(x, 2, "b", api.Kept)
	})
	for range 20 {
		do(t, s, func(x *kv.Tx) {
			for range 30 {
				version.Put(x, 2, "b", "a", "")
			}
		})
	}
	for i := range 20 {
		do(t, s, func(x *kv.Tx) {
			for j := range 30 {
				version.Delete(x, 2, "b", fmt.Sprint("m", i, "-", j), newest)
			}
		})
	}
	do(t, s, func(x *kv.Tx) {
		version.Put(x, 2, "b", "z", "")
		l, more := Keys(x, 2, "b", "", "", 1)
		if len(l) != 1 || l[0].Key != "a" || l[0].Id != 600 || !more {
			t.Error(l, more)
		}
		for _, after := range []string{"a", "m0", "m9-9"} {
			l, more = Keys(x, 2, "b", "", after, 1)
			if len(l) != 1 || l[0].Key != "z" || l[0].Id != 1201 || more {
				t.Error(l, more)
			}
		}
		if l, more := Keys(x, 2, "b", "m", "", 20); len(l) != 0 || more {
			t.Error(l, more)
		}
		l, more = Trail(x, 2, "b", "", "a", api.Id{N: 2}, 20)
		if len(l) != 20 || l[0] != (api.Row{Key: "a", Id: 1, Sum: crc.Sum("")}) || !l[1].Marker || !more {
			t.Error(l, more)
		}
		if l, more = Trail(x, 2, "b", "", "y", newest, 20); len(l) != 1 || l[0].Key != "z" || more {
			t.Error(l, more)
		}
	})
}

// Items whose keys only begin like those of versions are no versions.
func TestP21_1BesideOtherItems(t *testing.T) {
	s := formatted(t, 60, 60)
	seq := strings.Repeat("\x00", 8)
	do(t, s, func(x *kv.Tx) {
		bucket.Make(x, 1, "b")
		version.Put(x, 1, "b", "k", "body")
		for i := range 20 {
			x.Put("V\x01b\x00k\x00"+strings.Repeat("\x00", 9+i), "x")
			x.Put("V\x01b\x00k\x00"+strings.Repeat("\xff", 9+i), "x")
			x.Put("V\x01b\x00j\x00"+strings.Repeat("\xff", 9+i), "x")
		}
		x.Put("V\x01b\x00", "x")
		x.Put("V\x01b\x00k\x00", "x")
		x.Put("V\x01b\x00\x00"+seq, "x")
		x.Put("V\x01b\x00"+strings.Repeat("k", 25)+"\x00"+seq, "x")
		x.Put("U\x01b\x00"+seq, "x")
		x.Put("P\x01b\x00"+seq+"\x01", "x")
	})
	want := []api.Row{{Key: "k", Size: 4, Sum: crc.Sum("body")}}
	do(t, s, func(x *kv.Tx) {
		for _, after := range []string{"", "a", "j"} {
			if l, more := Keys(x, 1, "b", "", after, 1); !slices.Equal(l, want) || more {
				t.Error(l, more)
			}
			if l, more := Trail(x, 1, "b", "", after, api.Id{}, 1); !slices.Equal(l, want) || more {
				t.Error(l, more)
			}
		}
		if l, more := Keys(x, 1, "b", "", "k", 1); len(l) != 0 || more {
			t.Error(l, more)
		}
		if l, more := Trail(x, 1, "b", "", "k", api.Id{}, 1); len(l) != 0 || more {
			t.Error(l, more)
		}
	})
}

// A record that is not valid is in an invalid format.
func TestP21_1Spoilt(t *testing.T) {
	s := formatted(t, 30, 30)
	do(t, s, func(x *kv.Tx) {
		bucket.Make(x, 1, "b")
		version.Put(x, 1, "b", "k", "body")
	})
	at := made(t, keys.Key{Kind: keys.Version, Tenant: 1, Bucket: "b", Name: "k", Number: 1})
	value := all(t, s)[at]
	for _, v := range []string{"", value[:len(value)-1], value + "\x00", value[:8] + "\x02" + value[9:]} {
		do(t, s, func(x *kv.Tx) { x.Put(at, v) })
		for _, by := range calls(1, "b", "", "", newest, 1) {
			fails(t, s, api.ErrForm, by)
		}
		fails(t, s, api.ErrForm, func(x *kv.Tx) { Trail(x, 1, "b", "", "k", api.Id{N: 1}, 1) })
		for _, by := range calls(1, "b", "", "k", newest, 1) { // that one is not read
			do(t, s, by)
		}
	}
	do(t, s, func(x *kv.Tx) { x.Put(made(t, keys.Key{Kind: keys.Bucket, Tenant: 1, Bucket: "b"}), "x") })
	for _, by := range calls(1, "b", "\x00", "", newest, 0) {
		fails(t, s, api.ErrForm, by)
	}
}

// A list changes nothing, and reads no bodies.
func TestP21_1Reads(t *testing.T) {
	s := filled(t, 4, 100)
	before := all(t, s)
	lost, _ := record.PutVersion(api.Version{Sum: 5, Blob: api.Blob{First: 599, Size: 4}})
	at := made(t, keys.Key{Kind: keys.Version, Tenant: 2, Bucket: "b", Name: "d", Number: 1})
	do(t, s, func(x *kv.Tx) { x.Put(at, lost) })
	before[at] = lost
	do(t, s, func(x *kv.Tx) {
		b := meter.Bucket(x, 2, "b")
		want := []api.Row{{Key: "d", Size: 4, Sum: 5}}
		if l, more := Keys(x, 2, "b", "d", "", 1); !slices.Equal(l, want) || more {
			t.Error(l, more)
		}
		if l, more := Trail(x, 2, "b", "d", "", newest, 1); !slices.Equal(l, want) || more {
			t.Error(l, more)
		}
		if meter.Bucket(x, 2, "b") != b {
			t.Error("a list changes the bucket")
		}
	})
	if !maps.Equal(all(t, s), before) {
		t.Error("a list changes something")
	}
}

// A Tx without a transaction has no items, and nothing to abort.
func TestP1_WithoutTransaction(t *testing.T) {
	s := formatted(t, 20, 30)
	var ended *kv.Tx
	do(t, s, func(x *kv.Tx) {
		bucket.Make(x, 1, "b")
		version.Put(x, 1, "b", "k", "body")
		ended = x
	})
	for _, x := range []*kv.Tx{nil, {}, ended} {
		for _, tenant := range append([]int{0, 1, 7}, noTenants...) {
			for _, y := range append([]string{"b"}, noNames...) {
				for _, prefix := range append([]string{"", "k"}, noPrefixes...) {
					for _, after := range append([]string{"", "j", "k"}, noPrefixes...) {
						for _, n := range append([]int{1, 20}, noRows...) {
							l, more := Keys(x, tenant, y, prefix, after, n)
							r, left := Trail(x, tenant, y, prefix, after, api.Id{N: 1}, n)
							if len(l) != 0 || more || len(r) != 0 || left {
								t.Fatal(tenant, y, prefix, after, n)
							}
						}
					}
				}
			}
		}
	}
}

// The same calls have the same results, in every store with the same contents.
func TestP2_SameResults(t *testing.T) {
	results := func() []api.Row {
		var l []api.Row
		do(t, filled(t, 3, 100), func(x *kv.Tx) {
			for _, y := range names {
				rows, _ := Keys(x, 2, "b", "", y, 20)
				l = append(l, rows...)
				rows, _ = Trail(x, 2, "b", "", y, api.Id{}, 20)
				l = append(l, rows...)
			}
		})
		return l
	}
	if l := results(); !slices.Equal(l, results()) || len(l) == 0 {
		t.Error("different results")
	}
}
