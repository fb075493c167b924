package meter

import (
	"maps"
	"math"
	"math/rand"
	"slices"
	"strings"
	"testing"

	"wharfage/api"
	"wharfage/disk"
	"wharfage/keys"
	"wharfage/kv"
	"wharfage/pages"
	"wharfage/record"
)

const most = api.MaxCount

var (
	none       = api.Count{Bytes: -1, Objects: -1} // no limits
	open       = api.Bucket{Limit: none, Next: 1}
	noTenants  = []int{math.MinInt, -256, -8, -1, 8, 9, 255, 256, 264, 1 << 32, math.MaxInt}
	noNames    = []string{"", "-", "b-", "-b", "B", "b b", "b\x00", "b\xff", "abcdefghijklm", strings.Repeat("b", 70000)}
	noCounts   = []api.Count{{Bytes: -1}, {Objects: -1}, {Bytes: most + 1}, {Objects: most + 1}, {Bytes: math.MinInt64, Objects: math.MaxInt64}}
	noLimits   = []api.Count{{Bytes: -2}, {Objects: -2}, {Bytes: most + 1}, {Objects: most + 1}, {Bytes: math.MinInt64, Objects: math.MaxInt64}}
	noBuckets  = []api.Bucket{{Mode: -1}, {Mode: 3}, {Mode: 256}, {Limit: noLimits[0]}, {Limit: noLimits[3]}, {Used: noCounts[0]}, {Used: noCounts[3]}}
	validNames = []string{"b", "0", "a-b", "abcdefghijkl"}
)

func count(bytes, objects int64) api.Count { return api.Count{Bytes: bytes, Objects: objects} }

// formatted returns an empty store.
func formatted(t *testing.T, n, journal int) *kv.Store {
	t.Helper()
	size, why := pages.Size(n, journal)
	if why != api.OK {
		t.Fatal(why)
	}
	d, why := disk.New(size)
	if why != api.OK {
		t.Fatal(why)
	}
	s, why := kv.Format(d, n, journal)
	if why != api.OK {
		t.Fatal(why)
	}
	return s
}

// do requires that a transaction succeeds.
func do(t *testing.T, s *kv.Store, by func(x *kv.Tx)) {
	t.Helper()
	if why := s.Do(by); why != api.OK {
		t.Fatal(why)
	}
}

// fails requires that a transaction aborts with an error within by, and that it
// changes nothing.
func fails(t *testing.T, s *kv.Store, want api.Errno, by func(x *kv.Tx)) {
	t.Helper()
	before, returned := all(t, s), false
	why := s.Do(func(x *kv.Tx) {
		by(x)
		returned = true
	})
	if why != want || returned {
		t.Error("aborts with", why, "instead of", want)
	}
	if !maps.Equal(all(t, s), before) {
		t.Error("an abort changes something")
	}
}

// all returns all items of a store.
func all(t *testing.T, s *kv.Store) map[string]string {
	t.Helper()
	m := map[string]string{}
	if why := s.View(func(x *kv.Tx) {
		l, _ := x.Scan("", "", math.MaxInt)
		for _, y := range l {
			m[y.Key] = y.Value
		}
	}); why != api.OK {
		t.Fatal(why)
	}
	return m
}

func made(t *testing.T, k keys.Key) string {
	t.Helper()
	key, why := keys.Make(k)
	if why != api.OK {
		t.Fatal(k, why)
	}
	return key
}

func ofTenant(t *testing.T, tenant int) string {
	t.Helper()
	return made(t, keys.Key{Kind: keys.Tenant, Tenant: tenant})
}

func ofBucket(t *testing.T, tenant int, bucket string) string {
	t.Helper()
	return made(t, keys.Key{Kind: keys.Bucket, Tenant: tenant, Bucket: bucket})
}

func putTenant(t *testing.T, x *kv.Tx, tenant int, r record.Tenant) {
	t.Helper()
	value, why := record.PutTenant(r)
	if why != api.OK {
		t.Fatal(r, why)
	}
	x.Put(ofTenant(t, tenant), value)
}

// spoilt returns values that are no record of the same kind as a valid one,
// which begins its limit with the byte at the given place.
func spoilt(value string, limit int) []string {
	huge := value[:limit] + "\xff" + value[limit+1:]
	return []string{"", value[:1], value[:len(value)-1], value + "\x00", value + value[:20], huge}
}

// calls returns a call of each function, with a bucket and with counts.
func calls(tenant int, bucket string, b api.Bucket, plus, limit api.Count) map[string]func(x *kv.Tx) {
	return map[string]func(x *kv.Tx){
		"Tenant":    func(x *kv.Tx) { Tenant(x, tenant) },
		"Bucket":    func(x *kv.Tx) { Bucket(x, tenant, bucket) },
		"Has":       func(x *kv.Tx) { Has(x, tenant, bucket) },
		"Save":      func(x *kv.Tx) { Save(x, tenant, bucket, b) },
		"Charge":    func(x *kv.Tx) { Charge(x, tenant, bucket, plus, plus) },
		"SetLimit":  func(x *kv.Tx) { SetLimit(x, tenant, bucket, limit) },
		"SetLimit ": func(x *kv.Tx) { SetLimit(x, tenant, "", limit) },
		"Usage":     func(x *kv.Tx) { Usage(x, tenant) },
	}
}

// A tenant that does not exist comes before all other errors.
func TestP18_1ErrTenantIsFirst(t *testing.T) {
	s := formatted(t, 40, 60)
	do(t, s, func(x *kv.Tx) {
		for tenant := range 8 {
			Save(x, tenant, "b", open)
		}
		x.Put("T\x08", "no tenant")
		x.Put("B\x08b", "no bucket")
		x.Put("B\xffb", "no bucket")
	})
	for _, tenant := range noTenants {
		for _, bucket := range append([]string{"b", "c"}, noNames...) {
			for _, by := range calls(tenant, bucket, open, count(0, 0), none) {
				fails(t, s, api.ErrTenant, by)
			}
			for _, by := range calls(tenant, bucket, noBuckets[0], noCounts[0], noLimits[0]) {
				fails(t, s, api.ErrTenant, by)
			}
		}
	}
}

func TestP18_1TenantWithoutRecord(t *testing.T) {
	s := formatted(t, 20, 30)
	do(t, s, func(x *kv.Tx) {
		for tenant := range 8 {
			if r := Tenant(x, tenant); r != (record.Tenant{Limit: none}) {
				t.Error(tenant, r)
			}
		}
	})
}

func TestP18_1Tenant(t *testing.T) {
	s := formatted(t, 20, 30)
	want := func(tenant int) record.Tenant {
		n := int64(tenant)
		return record.Tenant{Limit: count(n-1, most-n), Used: count(10*n, most)}
	}
	do(t, s, func(x *kv.Tx) {
		for tenant := range 8 {
			putTenant(t, x, tenant, want(tenant))
			if r := Tenant(x, tenant); r != want(tenant) {
				t.Error(tenant, r)
			}
		}
	})
	do(t, s, func(x *kv.Tx) {
		for tenant := range 8 {
			if r := Tenant(x, tenant); r != want(tenant) {
				t.Error(tenant, r)
			}
		}
	})
}

func TestP18_1SaveHasAndBucket(t *testing.T) {
	s := formatted(t, 60, 60)
	want := map[int]map[string]api.Bucket{}
	for tenant := range 8 {
		want[tenant] = map[string]api.Bucket{}
		for i, bucket := range validNames {
			n := int64(10*tenant + i)
			want[tenant][bucket] = api.Bucket{Mode: (tenant + i) % 3, Limit: count(n-1, most-n), Used: count(n, n*n), Next: math.MaxUint64 - uint64(n)}
		}
	}
	for tenant, m := range want {
		for bucket, b := range m {
			do(t, s, func(x *kv.Tx) {
				if Has(x, tenant, bucket) {
					t.Error(tenant, bucket)
				}
				Save(x, tenant, bucket, open)
				if got := Bucket(x, tenant, bucket); got != open || !Has(x, tenant, bucket) {
					t.Error(tenant, bucket, got)
				}
				Save(x, tenant, bucket, b) // it exists now
			})
		}
	}
	items := map[string]string{}
	do(t, s, func(x *kv.Tx) {
		for tenant, m := range want {
			for bucket, b := range m {
				if got := Bucket(x, tenant, bucket); got != b || !Has(x, tenant, bucket) {
					t.Error(tenant, bucket, got)
				}
				value, _ := record.PutBucket(b)
				items[ofBucket(t, tenant, bucket)] = value
			}
		}
	})
	if !maps.Equal(all(t, s), items) {
		t.Error("other items than the records of the buckets")
	}
}

func TestP18_1NoBucket(t *testing.T) {
	s := formatted(t, 20, 30)
	do(t, s, func(x *kv.Tx) {
		Save(x, 1, "b", open)
		x.Put("B\x01-", "x")
		x.Put("B\x01", "x")
	})
	for _, y := range append([]string{"a", "bb", "b0", "c"}, noNames...) {
		do(t, s, func(x *kv.Tx) {
			if Has(x, 1, y) {
				t.Errorf("%.20q", y)
			}
		})
		fails(t, s, api.ErrBucket, func(x *kv.Tx) { Bucket(x, 1, y) })
	}
	do(t, s, func(x *kv.Tx) {
		if Has(x, 0, "b") || Has(x, 2, "b") || !Has(x, 1, "b") {
			t.Error("it is of another tenant")
		}
	})
	fails(t, s, api.ErrBucket, func(x *kv.Tx) { Bucket(x, 2, "b") })
}

func TestP18_1SaveFails(t *testing.T) {
	s := formatted(t, 20, 30)
	do(t, s, func(x *kv.Tx) { Save(x, 1, "b", open) })
	for _, y := range noNames {
		fails(t, s, api.ErrArg, func(x *kv.Tx) { Save(x, 1, y, open) })
		fails(t, s, api.ErrArg, func(x *kv.Tx) { Save(x, 1, y, noBuckets[0]) })
	}
	for _, b := range noBuckets {
		fails(t, s, api.ErrArg, func(x *kv.Tx) { Save(x, 1, "b", b) })
		fails(t, s, api.ErrArg, func(x *kv.Tx) { Save(x, 1, "c", b) })
	}
}

// Whatever is stored under the key of a bucket: Save does not read it.
func TestP18_1SpoiltBucket(t *testing.T) {
	s := formatted(t, 20, 30)
	value, _ := record.PutBucket(api.Bucket{Limit: count(5, 5), Used: count(1, 1), Next: 7})
	for i, v := range append(spoilt(value, 1), "\x03"+value[1:]) {
		do(t, s, func(x *kv.Tx) { x.Put(ofBucket(t, 1, "b"), v) })
		for name, by := range calls(1, "b", open, count(0, 0), none) {
			switch name {
			case "Save", "Tenant", "SetLimit ":
				do(t, s, by)
				do(t, s, func(x *kv.Tx) { x.Put(ofBucket(t, 1, "b"), v) })
			default:
				fails(t, s, api.ErrForm, by)
			}
		}
		// The record is read before the counts are validated.
		for name, by := range calls(1, "b", noBuckets[0], noCounts[0], noLimits[0]) {
			switch name {
			case "Charge", "SetLimit":
				fails(t, s, api.ErrForm, by)
			case "Save", "SetLimit ":
				fails(t, s, api.ErrArg, by)
			}
		}
		do(t, s, func(x *kv.Tx) {
			Save(x, 1, "b", open)
			if b := Bucket(x, 1, "b"); b != open {
				t.Error(i, b)
			}
		})
	}
}

func TestP18_1SpoiltTenant(t *testing.T) {
	s := formatted(t, 20, 30)
	value, _ := record.PutTenant(record.Tenant{Limit: count(5, 5), Used: count(1, 1)})
	for _, v := range spoilt(value, 0) {
		do(t, s, func(x *kv.Tx) {
			x.Put(ofTenant(t, 1), v)
			Save(x, 1, "b", open)
		})
		for name, by := range calls(1, "b", open, count(0, 0), none) {
			switch name {
			case "Tenant", "Charge", "SetLimit ", "Usage":
				fails(t, s, api.ErrForm, by)
			default:
				do(t, s, by)
			}
		}
		// That of the tenant is read before the limit is validated, but only
		// after the counts of a charge.
		fails(t, s, api.ErrForm, func(x *kv.Tx) { SetLimit(x, 1, "", noLimits[0]) })
		fails(t, s, api.ErrArg, func(x *kv.Tx) { Charge(x, 1, "b", noCounts[0], count(0, 0)) })
		fails(t, s, api.ErrArg, func(x *kv.Tx) { SetLimit(x, 1, "b", noLimits[0]) })
		fails(t, s, api.ErrBucket, func(x *kv.Tx) { Charge(x, 1, "c", count(0, 0), count(0, 0)) })
		fails(t, s, api.ErrOver, func(x *kv.Tx) { Charge(x, 1, "b", count(0, 0), count(1, 0)) })
		do(t, s, func(x *kv.Tx) {
			if r := Tenant(x, 2); r != (record.Tenant{Limit: none}) {
				t.Error(r)
			}
			Save(x, 2, "b", open)
			Charge(x, 2, "b", count(1, 1), count(0, 0))
			Charge(x, 2, "b", count(0, 0), count(1, 1))
		})
	}
}

func TestP18_2Charge(t *testing.T) {
	s := formatted(t, 20, 30)
	b := api.Bucket{Mode: api.Held, Limit: count(100, 10), Used: count(20, 2), Next: 9}
	r := record.Tenant{Limit: count(1000, 100), Used: count(200, 20)}
	for _, y := range []struct{ plus, minus, now api.Count }{
		{count(0, 0), count(0, 0), count(20, 2)},
		{count(5, 1), count(0, 0), count(25, 3)},
		{count(0, 0), count(5, 1), count(15, 1)},
		{count(30, 2), count(7, 1), count(43, 3)},
		{count(80, 8), count(0, 0), count(100, 10)},
		{count(0, 0), count(20, 2), count(0, 0)},
		{count(0, 8), count(20, 0), count(0, 10)},
		{count(500, 50), count(420, 42), count(100, 10)}, // more than the limit only in between
		{count(10, 10), count(30, 12), count(0, 0)},      // more than was used before is subtracted
	} {
		do(t, s, func(x *kv.Tx) {
			Save(x, 1, "b", b)
			Save(x, 1, "c", b)
			putTenant(t, x, 1, r)
			Charge(x, 1, "b", y.plus, y.minus)
		})
		do(t, s, func(x *kv.Tx) {
			want, all := b, r
			want.Used = y.now
			all.Used = count(180+y.now.Bytes, 18+y.now.Objects)
			if got := Bucket(x, 1, "b"); got != want {
				t.Error(y, got)
			}
			if got := Tenant(x, 1); got != all {
				t.Error(y, got)
			}
			if got := Bucket(x, 1, "c"); got != b {
				t.Error(y, got)
			}
		})
	}
}

func TestP18_2ChargeTenantWithoutRecord(t *testing.T) {
	s := formatted(t, 20, 30)
	do(t, s, func(x *kv.Tx) {
		Save(x, 1, "b", open)
		Charge(x, 1, "b", count(0, 0), count(0, 0))
		if r := Tenant(x, 1); r != (record.Tenant{Limit: none}) {
			t.Error(r)
		}
		Charge(x, 1, "b", count(most, most), count(1, 2))
		if r := Tenant(x, 1); r != (record.Tenant{Limit: none, Used: count(most-1, most-2)}) {
			t.Error(r)
		}
		if r := Tenant(x, 0); r != (record.Tenant{Limit: none}) {
			t.Error(r)
		}
	})
}

func TestP18_2ChargeFails(t *testing.T) {
	s := formatted(t, 20, 30)
	do(t, s, func(x *kv.Tx) {
		Save(x, 1, "low", api.Bucket{Limit: count(10, 3), Used: count(20, 2)})
		Save(x, 1, "far", api.Bucket{Limit: none, Used: count(most-1, most-2)})
		Save(x, 1, "none", open)
		putTenant(t, x, 1, record.Tenant{Limit: count(50, 5), Used: count(45, 4)})
		Save(x, 2, "far", api.Bucket{Limit: count(0, 0), Used: count(9, 9)})
		putTenant(t, x, 2, record.Tenant{Limit: count(0, 0), Used: count(5, most-5)})
	})
	for i, y := range []struct {
		tenant      int
		bucket      string
		plus, minus api.Count
		why         api.Errno
	}{
		{1, "c", count(0, 0), count(0, 0), api.ErrBucket},
		{1, "", count(0, 0), count(0, 0), api.ErrBucket},
		{1, "B", count(-1, 0), count(0, 0), api.ErrBucket},
		{2, "low", count(0, 0), count(-1, 0), api.ErrBucket},
		{0, "low", count(0, 0), count(0, 0), api.ErrBucket},
		// Of the bucket.
		{1, "low", count(1, 0), count(0, 0), api.ErrQuota},
		{1, "low", count(2, 0), count(1, 0), api.ErrQuota},
		{1, "low", count(0, 2), count(0, 0), api.ErrQuota},
		{1, "low", count(0, 2), count(20, 0), api.ErrQuota}, // one number decreases
		{1, "low", count(1, 0), count(0, 2), api.ErrQuota},
		{1, "low", count(most-19, 0), count(most-19, 0), api.ErrOver}, // out of range only in between
		{1, "low", count(0, most-1), count(0, most-1), api.ErrOver},
		{1, "low", count(0, 0), count(21, 0), api.ErrOver},
		{1, "low", count(0, 0), count(0, 3), api.ErrOver},
		{1, "low", count(30, 0), count(0, 3), api.ErrOver}, // before the quota
		{1, "far", count(2, 0), count(2, 0), api.ErrOver},
		{1, "far", count(0, 3), count(0, 0), api.ErrOver},
		{1, "none", count(0, 0), count(1, 0), api.ErrOver},
		{1, "none", count(1, 0), count(0, 1), api.ErrOver},
		// Of the tenant.
		{1, "none", count(6, 0), count(0, 0), api.ErrQuota},
		{1, "none", count(0, 2), count(0, 0), api.ErrQuota},
		{1, "none", count(9, 2), count(9, 0), api.ErrQuota},
		{1, "none", count(most-44, 0), count(most-44, 0), api.ErrOver},
		{1, "none", count(0, most), count(0, most), api.ErrOver},
		{1, "far", count(0, 0), count(46, 0), api.ErrOver},
		{1, "far", count(0, 0), count(45, 5), api.ErrOver},
		// The bucket is first: its quota comes before the tenant's range.
		{2, "far", count(0, 10), count(0, 0), api.ErrQuota},
		{2, "far", count(0, 10), count(0, 10), api.ErrOver},
		{2, "far", count(0, 0), count(6, 0), api.ErrOver},
		{2, "far", count(1, 0), count(7, 0), api.ErrOver},
	} {
		before := t.Failed()
		fails(t, s, y.why, func(x *kv.Tx) { Charge(x, y.tenant, y.bucket, y.plus, y.minus) })
		if t.Failed() != before {
			t.Fatal(i, y)
		}
	}
	for _, c := range noCounts {
		for _, bucket := range []string{"low", "far", "none"} {
			fails(t, s, api.ErrArg, func(x *kv.Tx) { Charge(x, 1, bucket, c, count(0, 0)) })
			fails(t, s, api.ErrArg, func(x *kv.Tx) { Charge(x, 1, bucket, count(0, 0), c) })
			fails(t, s, api.ErrArg, func(x *kv.Tx) { Charge(x, 1, bucket, count(most, most), c) })
			fails(t, s, api.ErrArg, func(x *kv.Tx) { Charge(x, 1, bucket, c, count(most, most)) })
		}
	}
}

// Without space for its record, the tenant's first charge changes nothing.
func TestP18_2ChargeWithoutSpace(t *testing.T) {
	full := func(s *kv.Store) bool {
		return s.View(func(x *kv.Tx) { Charge(x, 0, "b", count(1, 1), count(0, 0)) }) == api.ErrDisk
	}
	s := formatted(t, 8, 30)
	do(t, s, func(x *kv.Tx) {
		Save(x, 0, "b", open)
		Save(x, 1, "b", open)
		Charge(x, 1, "b", count(1, 1), count(0, 0))
	})
	for s.Free() > 0 {
		do(t, s, func(x *kv.Tx) { x.Keep("one page") })
	}
	for i := 0; !full(s); i++ {
		do(t, s, func(x *kv.Tx) { x.Put("S"+string(rune('a'+i)), "filling") })
	}
	fails(t, s, api.ErrDisk, func(x *kv.Tx) { Charge(x, 0, "b", count(1, 1), count(0, 0)) })
	fails(t, s, api.ErrDisk, func(x *kv.Tx) { SetLimit(x, 0, "", count(1, 1)) })
	do(t, s, func(x *kv.Tx) {
		// What has its record already, or needs none, needs no space.
		Charge(x, 0, "b", count(0, 0), count(0, 0))
		SetLimit(x, 0, "", none)
		SetLimit(x, 0, "b", count(0, 0))
		Charge(x, 1, "b", count(1, 1), count(0, 0))
		if r := Tenant(x, 1); r.Used != count(2, 2) || Bucket(x, 1, "b").Used != count(2, 2) {
			t.Error(r)
		}
	})
}

func TestP18_3SetLimit(t *testing.T) {
	s := formatted(t, 20, 30)
	b := api.Bucket{Mode: api.Kept, Limit: count(100, 10), Used: count(20, 2), Next: 9}
	r := record.Tenant{Limit: count(1000, 100), Used: count(200, 20)}
	do(t, s, func(x *kv.Tx) {
		Save(x, 1, "b", b)
		Save(x, 1, "c", b)
		putTenant(t, x, 1, r)
	})
	for _, l := range []api.Count{none, count(0, 0), count(-1, 5), count(5, -1), count(most, most), count(20, 2), count(19, 1), count(21, 3)} {
		do(t, s, func(x *kv.Tx) {
			SetLimit(x, 1, "b", l)
			b.Limit = l
			if got := Bucket(x, 1, "b"); got != b || Tenant(x, 1) != r {
				t.Error(l, got, Tenant(x, 1))
			}
			SetLimit(x, 1, "", l)
			r.Limit = l
			if got := Tenant(x, 1); got != r || Bucket(x, 1, "b") != b || Bucket(x, 1, "c").Limit != count(100, 10) {
				t.Error(l, got)
			}
			if got := Tenant(x, 0); got != (record.Tenant{Limit: none}) {
				t.Error(l, got)
			}
		})
		do(t, s, func(x *kv.Tx) {
			if Bucket(x, 1, "b") != b || Tenant(x, 1) != r {
				t.Error(l)
			}
		})
	}
}

func TestP18_3SetLimitOfTenantWithoutRecord(t *testing.T) {
	s := formatted(t, 20, 30)
	for tenant := range 8 {
		do(t, s, func(x *kv.Tx) { SetLimit(x, tenant, "", none) })
		do(t, s, func(x *kv.Tx) { SetLimit(x, tenant, "", count(3, int64(tenant))) })
	}
	do(t, s, func(x *kv.Tx) {
		for tenant := range 8 {
			if r := Tenant(x, tenant); r != (record.Tenant{Limit: count(3, int64(tenant))}) {
				t.Error(tenant, r)
			}
			SetLimit(x, tenant, "", none)
			if r := Tenant(x, tenant); r != (record.Tenant{Limit: none}) {
				t.Error(tenant, r)
			}
		}
	})
}

func TestP18_3SetLimitFails(t *testing.T) {
	s := formatted(t, 20, 30)
	do(t, s, func(x *kv.Tx) {
		Save(x, 1, "b", open)
		SetLimit(x, 1, "", count(5, 5))
	})
	for _, l := range noLimits {
		fails(t, s, api.ErrArg, func(x *kv.Tx) { SetLimit(x, 1, "", l) })
		fails(t, s, api.ErrArg, func(x *kv.Tx) { SetLimit(x, 0, "", l) })
		fails(t, s, api.ErrArg, func(x *kv.Tx) { SetLimit(x, 1, "b", l) })
		for _, y := range append([]string{"c", "bb"}, noNames[1:]...) { // the first one is that of the tenant
			fails(t, s, api.ErrBucket, func(x *kv.Tx) { SetLimit(x, 1, y, l) })
			fails(t, s, api.ErrBucket, func(x *kv.Tx) { SetLimit(x, 1, y, none) })
		}
		fails(t, s, api.ErrBucket, func(x *kv.Tx) { SetLimit(x, 0, "b", l) })
	}
}

func TestP18_3Usage(t *testing.T) {
	s := formatted(t, 40, 60)
	do(t, s, func(x *kv.Tx) {
		for tenant := range 8 {
			if l := Usage(x, tenant); !slices.Equal(l, []api.Usage{{Limit: none}}) {
				t.Error(l)
			}
		}
	})
	do(t, s, func(x *kv.Tx) {
		for i, bucket := range []string{"b", "a", "ab", "a-b", "0", "a0", "zzzzzzzzzzzz", "abcdefghijkl", "z"} {
			Save(x, 3, bucket, api.Bucket{Mode: i % 3, Limit: count(most, -1), Next: 5})
			Charge(x, 3, bucket, count(int64(i), 1), count(0, 0))
		}
		Save(x, 2, "two", open)
		Save(x, 4, "four", open)
		SetLimit(x, 3, "", count(100, 9))
		SetLimit(x, 3, "b", count(0, 0))
		x.Put("B\x03", "x") // no keys of buckets
		x.Put("B\x03-", "x")
		x.Put("B\x03b\x00", "x")
		x.Put("B\x03A", "x")
	})
	l := count(most, -1)
	want := []api.Usage{
		{Used: count(36, 9), Limit: count(100, 9)},
		{Bucket: "0", Used: count(4, 1), Limit: l},
		{Bucket: "a", Used: count(1, 1), Limit: l},
		{Bucket: "a-b", Used: count(3, 1), Limit: l},
		{Bucket: "a0", Used: count(5, 1), Limit: l},
		{Bucket: "ab", Used: count(2, 1), Limit: l},
		{Bucket: "abcdefghijkl", Used: count(7, 1), Limit: l},
		{Bucket: "b", Used: count(0, 1), Limit: count(0, 0)},
		{Bucket: "z", Used: count(8, 1), Limit: l},
		{Bucket: "zzzzzzzzzzzz", Used: count(6, 1), Limit: l},
	}
	do(t, s, func(x *kv.Tx) {
		got := Usage(x, 3)
		if !slices.Equal(got, want) {
			t.Error(got)
		}
		clear(got)
		if again := Usage(x, 3); !slices.Equal(again, want) {
			t.Error(again)
		}
		if l := Usage(x, 2); len(l) != 2 || l[1].Bucket != "two" || l[0].Bucket != "" {
			t.Error(l)
		}
	})
}

func TestP18_3UsageOfManyBuckets(t *testing.T) {
	s := formatted(t, 200, 200)
	var names []string
	for i := range 300 {
		names = append(names, "b"+strings.Repeat("x", i%9)+string([]byte{'a' + byte(i%26), 'a' + byte(i/26)}))
	}
	for i, y := range names {
		do(t, s, func(x *kv.Tx) { Save(x, 5, y, api.Bucket{Limit: count(int64(i), 0)}) })
	}
	sorted := slices.Clone(names)
	slices.Sort(sorted)
	do(t, s, func(x *kv.Tx) {
		l := Usage(x, 5)
		if len(l) != 301 {
			t.Fatal(len(l))
		}
		for i, u := range l[1:] {
			if u.Bucket != sorted[i] || u.Limit.Bytes != int64(slices.Index(names, u.Bucket)) {
				t.Error(i, u)
			}
		}
	})
}

// state is what a user remembers of all tenants.
type state struct {
	tenants [8]record.Tenant
	buckets [8]map[string]api.Bucket
}

func (m *state) copy() *state {
	n := &state{tenants: m.tenants}
	for i := range m.buckets {
		n.buckets[i] = maps.Clone(m.buckets[i])
	}
	return n
}

// add is the document's definition of a charge to one usage.
func add(used, limit, plus, minus int64) (int64, bool, bool) {
	now := used + plus - minus
	over := used+plus > most || now < 0
	return now, over, now > used && now > limit && limit != -1
}

func addCount(used *api.Count, limit, plus, minus api.Count) api.Errno {
	b, over, quota := add(used.Bytes, limit.Bytes, plus.Bytes, minus.Bytes)
	o, over2, quota2 := add(used.Objects, limit.Objects, plus.Objects, minus.Objects)
	if over || over2 {
		return api.ErrOver
	}
	if quota || quota2 {
		return api.ErrQuota
	}
	*used = count(b, o)
	return api.OK
}

func isCount(c api.Count, lowest int64) bool {
	return c.Bytes >= lowest && c.Objects >= lowest && c.Bytes <= most && c.Objects <= most
}

func (m *state) charge(tenant int, bucket string, plus, minus api.Count) api.Errno {
	b, have := m.buckets[tenant][bucket]
	if !have {
		return api.ErrBucket
	}
	if !isCount(plus, 0) || !isCount(minus, 0) {
		return api.ErrArg
	}
	if why := addCount(&b.Used, b.Limit, plus, minus); why != api.OK {
		return why
	}
	r := &m.tenants[tenant]
	if why := addCount(&r.Used, r.Limit, plus, minus); why != api.OK {
		return why
	}
	m.buckets[tenant][bucket] = b
	return api.OK
}

func (m *state) setLimit(tenant int, bucket string, limit api.Count) api.Errno {
	b, have := m.buckets[tenant][bucket]
	if !have && bucket != "" {
		return api.ErrBucket
	}
	if !isCount(limit, -1) {
		return api.ErrArg
	}
	if bucket == "" {
		m.tenants[tenant].Limit = limit
		return api.OK
	}
	b.Limit = limit
	m.buckets[tenant][bucket] = b
	return api.OK
}

// usage is the document's definition.
func (m *state) usage(tenant int) []api.Usage {
	r := m.tenants[tenant]
	l := []api.Usage{{Used: r.Used, Limit: r.Limit}}
	for _, y := range slices.Sorted(maps.Keys(m.buckets[tenant])) {
		b := m.buckets[tenant][y]
		l = append(l, api.Usage{Bucket: y, Used: b.Used, Limit: b.Limit})
	}
	return l
}

func number(r *rand.Rand) int64 {
	l := []int64{0, 0, 1, 2, 3, 10, 50, most / 3, most}
	n := l[r.Intn(len(l))]
	if r.Intn(60) == 0 {
		n = []int64{-1, -2, most + 1}[r.Intn(3)]
	}
	return n
}

// step performs one random call, and requires its result to be the model's.
func step(r *rand.Rand, m *state, charges bool) (func(x *kv.Tx), api.Errno) {
	tenant := r.Intn(3) * 3
	bucket := []string{"a", "b", "b-b", "c", "none"}[r.Intn(5)]
	one, two := count(number(r), number(r)), count(number(r), number(r))
	if r.Intn(3) > 0 || charges {
		if r.Intn(2) == 0 {
			two = count(0, 0)
		}
		return func(x *kv.Tx) { Charge(x, tenant, bucket, one, two) }, m.charge(tenant, bucket, one, two)
	}
	if r.Intn(3) == 0 {
		one = none
	}
	if r.Intn(2) == 0 {
		bucket = ""
	}
	return func(x *kv.Tx) { SetLimit(x, tenant, bucket, one) }, m.setLimit(tenant, bucket, one)
}

// random performs random transactions of up to three calls each.
func random(t *testing.T, seed int64, after func(before, now *state, s *kv.Store)) map[api.Errno]int {
	r := rand.New(rand.NewSource(seed))
	s := formatted(t, 30, 40)
	m := &state{}
	for tenant := range 8 {
		m.tenants[tenant].Limit = none
		m.buckets[tenant] = map[string]api.Bucket{}
		for i, y := range []string{"a", "b", "b-b", "c"} {
			if tenant%3 == 0 {
				b := api.Bucket{Mode: i % 3, Limit: none, Next: uint64(i)}
				m.buckets[tenant][y] = b
				do(t, s, func(x *kv.Tx) { Save(x, tenant, y, b) })
			}
		}
	}
	kinds := map[api.Errno]int{}
	for range 1500 {
		now, want := m.copy(), api.OK
		var calls []func(x *kv.Tx)
		for n := 1 + r.Intn(3); n > 0 && want == api.OK; n-- {
			var by func(x *kv.Tx)
			by, want = step(r, now, false)
			calls = append(calls, by)
		}
		why := s.Do(func(x *kv.Tx) {
			for _, by := range calls {
				by(x)
			}
		})
		kinds[why]++
		if why != want {
			t.Fatal(seed, why, want)
		}
		if why != api.OK {
			now = m
		}
		after(m, now, s)
		m = now
		if t.Failed() {
			t.Fatal(seed)
		}
	}
	return kinds
}

// The functions do what the document's definitions say, whatever is called, and
// transactions that abort change nothing.
func TestP18_2AndP18_3Model(t *testing.T) {
	for seed := range int64(6) {
		kinds := random(t, seed, func(_, m *state, s *kv.Store) {
			do(t, s, func(x *kv.Tx) {
				for tenant := range 8 {
					if l := Usage(x, tenant); !slices.Equal(l, m.usage(tenant)) {
						t.Error(l, m.usage(tenant))
					}
					if r := Tenant(x, tenant); r != m.tenants[tenant] {
						t.Error(r)
					}
					for y, b := range m.buckets[tenant] {
						if got := Bucket(x, tenant, y); got != b {
							t.Error(tenant, y, got, b)
						}
					}
				}
			})
		})
		for _, why := range []api.Errno{api.OK, api.ErrBucket, api.ErrArg, api.ErrOver, api.ErrQuota} {
			if kinds[why] < 50 {
				t.Error(kinds)
			}
		}
	}
}

// No charge that increases a usage leaves it above its limit. A transaction is
// one call here, since the limit may be lowered after an increase.
func TestP18_4Limits(t *testing.T) {
	within := func(old, now, limit api.Count) bool {
		return (now.Bytes <= old.Bytes || limit.Bytes == -1 || now.Bytes <= limit.Bytes) &&
			(now.Objects <= old.Objects || limit.Objects == -1 || now.Objects <= limit.Objects)
	}
	for seed := range int64(4) {
		r := rand.New(rand.NewSource(40 + seed))
		s := formatted(t, 20, 30)
		limits := []int64{-1, 0, 5, 20, 100}
		do(t, s, func(x *kv.Tx) {
			Save(x, 0, "a", open)
			Save(x, 0, "b", open)
		})
		var old []api.Usage
		do(t, s, func(x *kv.Tx) { old = Usage(x, 0) })
		kept, refused := 0, 0
		for range 3000 {
			if r.Intn(8) == 0 {
				l := count(limits[r.Intn(5)], limits[r.Intn(5)])
				do(t, s, func(x *kv.Tx) { SetLimit(x, 0, []string{"", "a", "b"}[r.Intn(3)], l) })
			} else if why := s.Do(func(x *kv.Tx) {
				for range 1 + r.Intn(3) {
					Charge(x, 0, []string{"a", "b"}[r.Intn(2)], count(int64(r.Intn(12)), int64(r.Intn(4))), count(int64(r.Intn(12)), int64(r.Intn(4))))
				}
			}); why == api.OK {
				kept++
			} else {
				refused++
			}
			var now []api.Usage
			do(t, s, func(x *kv.Tx) { now = Usage(x, 0) })
			for i := range now {
				if !within(old[i].Used, now[i].Used, now[i].Limit) {
					t.Error(old[i], now[i])
				}
			}
			old = now
		}
		if kept < 300 || refused < 300 {
			t.Error(kept, refused)
		}
	}
}

// The usage of a tenant is the sum of those of its buckets, whatever fails.
func TestP18_5Totals(t *testing.T) {
	for seed := int64(20); seed < 24; seed++ {
		random(t, seed, func(_, _ *state, s *kv.Store) {
			do(t, s, func(x *kv.Tx) {
				for tenant := range 8 {
					l := Usage(x, tenant)
					total := api.Count{}
					for _, u := range l[1:] {
						total = count(total.Bytes+u.Used.Bytes, total.Objects+u.Used.Objects)
					}
					if l[0].Used != total {
						t.Error(tenant, l)
					}
				}
			})
		})
	}
}

// A Tx without a transaction has no items, and nothing to abort.
func TestP1_WithoutTransaction(t *testing.T) {
	s := formatted(t, 20, 30)
	var ended *kv.Tx
	do(t, s, func(x *kv.Tx) {
		Save(x, 1, "b", open)
		ended = x
	})
	before := all(t, s)
	for _, x := range []*kv.Tx{nil, {}, ended} {
		for _, tenant := range append([]int{0, 1, 7}, noTenants...) {
			for _, y := range append(noNames, validNames...) {
				for _, b := range append(noBuckets, open) {
					for _, c := range append(noLimits, count(0, 0), count(most, most)) {
						for _, by := range calls(tenant, y, b, c, c) {
							by(x)
						}
					}
				}
				if Has(x, tenant, y) || Bucket(x, tenant, y) != (api.Bucket{}) {
					t.Error(tenant, y)
				}
			}
		}
	}
	if !maps.Equal(all(t, s), before) {
		t.Error("something was changed")
	}
}

// The same calls have the same results, in every store with the same contents.
func TestP2_SameResults(t *testing.T) {
	results := func() [][]api.Usage {
		var l [][]api.Usage
		random(t, 5, func(_, _ *state, s *kv.Store) {
			do(t, s, func(x *kv.Tx) { l = append(l, Usage(x, 0), Usage(x, 3)) })
		})
		return l
	}
	if !slices.EqualFunc(results(), results(), slices.Equal) {
		t.Error("different results")
	}
}
