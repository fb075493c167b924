package record

import (
	"encoding/binary"
	"math"
	"math/rand"
	"slices"
	"strings"
	"testing"

	"wharfage/api"
)

const maxCount = 1 << 50

var (
	// Numbers at both ends of each range, and outside it.
	counts = []int64{math.MinInt64, -2, -1, 0, 1, 258, maxCount - 1, maxCount, maxCount + 1, math.MaxInt64}
	ints   = []int{math.MinInt, -1, 0, 1, 2, 3, 255, 256, 258, 3839, 3840, 4095, 4096, 4097, 65535, 65536, 65538, math.MaxInt}
	ids    = []uint64{0, 1, 0x0102030405060708, 1 << 63, math.MaxUint64}
	sums   = []uint32{0, 1, 0x01020304, math.MaxUint32}
)

// someCounts returns pairs of counts, in which each number takes all values.
func someCounts() [][2]api.Count {
	var l [][2]api.Count
	for _, a := range counts {
		for _, b := range counts {
			l = append(l,
				[2]api.Count{{Bytes: a, Objects: b}, {Bytes: 5, Objects: 6}},
				[2]api.Count{{Bytes: 5, Objects: -1}, {Bytes: a, Objects: b}},
				[2]api.Count{{Bytes: a, Objects: 7}, {Bytes: b, Objects: 8}},
				[2]api.Count{{Bytes: 7, Objects: a}, {Bytes: 8, Objects: b}})
		}
	}
	return l
}

// format is the two functions for one type of values, and what the document
// requires of them: code returns an encoding and whether the value is valid,
// read is its inverse for strings of the given size.
type format[T any] struct {
	name string
	put  func(T) (string, api.Errno)
	get  func(string) (T, api.Errno)
	code func(v T) (string, bool)
	read func(s string) T
	size int
	all  func() []T
}

func big(n uint64, bytes int) string {
	return string(binary.BigEndian.AppendUint64(nil, n)[8-bytes:])
}

func at(s string, from, bytes int) uint64 {
	n := uint64(0)
	for _, c := range []byte(s[from : from+bytes]) {
		n = n*256 + uint64(c)
	}
	return n
}

func isCount(c api.Count, least int64) bool {
	return c.Bytes >= least && c.Bytes <= maxCount && c.Objects >= least && c.Objects <= maxCount
}

func usageCode(limit, used api.Count) (string, bool) {
	s := big(uint64(limit.Bytes+1), 8) + big(uint64(limit.Objects+1), 8) + big(uint64(used.Bytes), 8) + big(uint64(used.Objects), 8)
	return s, isCount(limit, -1) && isCount(used, 0)
}

func readUsage(s string, from int) (limit, used api.Count) {
	n := func(i int) int64 { return int64(at(s, from+8*i, 8)) }
	return api.Count{Bytes: n(0) - 1, Objects: n(1) - 1}, api.Count{Bytes: n(2), Objects: n(3)}
}

func blobCode(b api.Blob) (string, bool) {
	isFull := b.First >= 2 && b.First <= 3839 && b.Size >= 1 && b.Size <= 4096
	return big(uint64(b.First), 2) + big(uint64(b.Size), 2), b.First == 0 && b.Size == 0 || isFull
}

func blobAt(s string, from int) api.Blob {
	return api.Blob{First: int(at(s, from, 2)), Size: int(at(s, from+2, 2))}
}

func tenants() format[Tenant] {
	return format[Tenant]{
		name: "tenant",
		put:  PutTenant,
		get:  GetTenant,
		code: func(v Tenant) (string, bool) { return usageCode(v.Limit, v.Used) },
		read: func(s string) Tenant {
			limit, used := readUsage(s, 0)
			return Tenant{limit, used}
		},
		size: 32,
		all: func() []Tenant {
			var l []Tenant
			for _, x := range someCounts() {
				l = append(l, Tenant{x[0], x[1]})
			}
			return l
		},
	}
}

func buckets() format[api.Bucket] {
	return format[api.Bucket]{
		name: "bucket",
		put:  PutBucket,
		get:  GetBucket,
		code: func(v api.Bucket) (string, bool) {
			s, valid := usageCode(v.Limit, v.Used)
			return big(uint64(v.Mode), 1) + s + big(v.Next, 8), valid && v.Mode >= 0 && v.Mode <= 2
		},
		read: func(s string) api.Bucket {
			limit, used := readUsage(s, 1)
			return api.Bucket{Mode: int(s[0]), Limit: limit, Used: used, Next: at(s, 33, 8)}
		},
		size: 41,
		all: func() []api.Bucket {
			var l []api.Bucket
			for i, x := range someCounts() {
				l = append(l, api.Bucket{Mode: i % 3, Limit: x[0], Used: x[1], Next: ids[i%len(ids)]})
			}
			for _, n := range ids {
				for _, mode := range ints {
					l = append(l, api.Bucket{Mode: mode, Next: n})
				}
			}
			return l
		},
	}
}

func versions() format[api.Version] {
	return format[api.Version]{
		name: "version",
		put:  PutVersion,
		get:  GetVersion,
		code: func(v api.Version) (string, bool) {
			s, valid := blobCode(v.Blob)
			if v.Marker {
				return big(v.Id, 8) + "\x01" + big(uint64(v.Sum), 4) + s, v.Sum == 0 && v.Blob.First == 0 && v.Blob.Size == 0
			}
			return big(v.Id, 8) + "\x00" + big(uint64(v.Sum), 4) + s, valid
		},
		read: func(s string) api.Version {
			return api.Version{Id: at(s, 0, 8), Marker: s[8] == 1, Sum: uint32(at(s, 9, 4)), Blob: blobAt(s, 13)}
		},
		size: 17,
		all: func() []api.Version {
			var l []api.Version
			for _, id := range ids {
				for _, p := range parts().all() {
					l = append(l, api.Version{Id: id, Sum: p.Sum, Blob: p.Blob}, api.Version{Id: id, Marker: true, Sum: p.Sum, Blob: p.Blob})
				}
			}
			return l
		},
	}
}

func parts() format[Part] {
	return format[Part]{
		name: "part",
		put:  PutPart,
		get:  GetPart,
		code: func(v Part) (string, bool) {
			s, valid := blobCode(v.Blob)
			return big(uint64(v.Sum), 4) + s, valid
		},
		read: func(s string) Part { return Part{Sum: uint32(at(s, 0, 4)), Blob: blobAt(s, 4)} },
		size: 8,
		all: func() []Part {
			var l []Part
			for _, sum := range sums {
				for _, first := range ints {
					for _, size := range ints {
						l = append(l, Part{sum, api.Blob{First: first, Size: size}})
					}
				}
			}
			return l
		},
	}
}

// checkPut compares Put with the document's definition, and Get with Put, for
// valid and for other values.
func checkPut[T comparable](t *testing.T, f format[T]) {
	t.Helper()
	seen := map[string]T{}
	for _, v := range f.all() {
		want, wantWhy := "", api.ErrArg
		if s, valid := f.code(v); valid {
			want, wantWhy = s, api.OK
		}
		s, why := f.put(v)
		if s != want || why != wantWhy || len(s) > api.MaxItem {
			t.Errorf("%s %v: %q %d, not %q %d", f.name, v, s, why, want, wantWhy)
		}
		if why != api.OK {
			continue
		}
		if back, why := f.get(s); back != v || why != api.OK || len(s) != f.size {
			t.Errorf("%s %v: %v %d", f.name, v, back, why)
		}
		if other, found := seen[s]; found && other != v {
			t.Errorf("%s: %v and %v are one", f.name, v, other)
		}
		seen[s] = v
	}
	if len(seen) == 0 {
		t.Error(f.name, "no valid value")
	}
}

// checkGet compares Get with the document's definition, for any bytes.
func checkGet[T comparable](t *testing.T, f format[T], s string) {
	t.Helper()
	var want T
	wantWhy := api.ErrForm
	if len(s) == f.size {
		v := f.read(s)
		if code, valid := f.code(v); valid && code == s {
			want, wantWhy = v, api.OK
		}
	}
	if got, why := f.get(s); got != want || why != wantWhy {
		t.Errorf("%s %q: %v %d, not %v %d", f.name, s, got, why, want, wantWhy)
	}
}

// checkGets calls Get with bytes that are encodings, and with others that
// differ little from them.
func checkGets[T comparable](t *testing.T, f format[T]) {
	t.Helper()
	var codes []string
	for _, v := range f.all() {
		// Also of values that are not valid: their bytes are no encoding.
		s, _ := f.code(v)
		codes = append(codes, s)
		checkGet(t, f, s)
	}
	slices.Sort(codes)
	codes = slices.Compact(codes)
	r := rand.New(rand.NewSource(17))
	for range 60 {
		s := codes[r.Intn(len(codes))]
		checkGet(t, f, s+s)
		for i := range len(s) + 1 {
			checkGet(t, f, s[:i])
			checkGet(t, f, s[i:])
			checkGet(t, f, s[:i]+"\x00"+s[i:])
		}
		for i := range len(s) {
			for c := range 256 {
				checkGet(t, f, s[:i]+string([]byte{byte(c)})+s[i+1:])
			}
		}
	}
	for _, s := range []string{"", "x", strings.Repeat("\xff", f.size), strings.Repeat("\x00", f.size), strings.Repeat("\x00", 1<<20)} {
		checkGet(t, f, s)
	}
	for n := range 300 {
		checkGet(t, f, strings.Repeat("\x00", n))
	}
}

func TestP17_1Put(t *testing.T) {
	checkPut(t, tenants())
	checkPut(t, buckets())
	checkPut(t, versions())
	checkPut(t, parts())
}

func TestP17_1Get(t *testing.T) {
	checkGets(t, tenants())
	checkGets(t, buckets())
	checkGets(t, versions())
	checkGets(t, parts())
}

func TestP17_1Upload(t *testing.T) {
	for s, valid := range map[string]bool{
		"k": true, " ": true, "a/b": true, "\xff\x01": true, strings.Repeat("k", 24): true,
		"": false, "\x00": false, "k\x00": false, "a\x00b": false, strings.Repeat("k", 25): false, strings.Repeat("k", 1<<20): false,
	} {
		want, putWhy, getWhy := "", api.ErrArg, api.ErrForm
		if valid {
			want, putWhy, getWhy = s, api.OK, api.OK
		}
		if got, why := PutUpload(Upload{s}); got != want || why != putWhy {
			t.Errorf("Put %q: %q %d", s, got, why)
		}
		if got, why := GetUpload(s); got.Key != want || why != getWhy {
			t.Errorf("Get %q: %q %d", s, got.Key, why)
		}
	}
	for c := range 256 {
		s := "k" + string([]byte{byte(c)})
		_, putWhy := PutUpload(Upload{s})
		_, getWhy := GetUpload(s)
		if (putWhy == api.OK) != (c != 0) || (getWhy == api.OK) != (c != 0) {
			t.Errorf("%q %d %d", s, putWhy, getWhy)
		}
	}
}

// sameBytes requires an encoding that is written out.
func sameBytes[T comparable](t *testing.T, f format[T], v T, want string) {
	t.Helper()
	if s, why := f.put(v); s != want || why != api.OK {
		t.Errorf("%s %v: %q %d, not %q", f.name, v, s, why, want)
	}
	if back, why := f.get(want); back != v || why != api.OK {
		t.Errorf("%s %q: %v %d, not %v", f.name, want, back, why, v)
	}
}

func TestP17_1Examples(t *testing.T) {
	limit := api.Count{Bytes: -1, Objects: 0x0102}
	used := api.Count{Bytes: maxCount, Objects: 7}
	usage := "\x00\x00\x00\x00\x00\x00\x00\x00" + "\x00\x00\x00\x00\x00\x00\x01\x03" + "\x00\x04\x00\x00\x00\x00\x00\x00" + "\x00\x00\x00\x00\x00\x00\x00\x07"
	sameBytes(t, tenants(), Tenant{limit, used}, usage)
	sameBytes(t, tenants(), Tenant{}, "\x00\x00\x00\x00\x00\x00\x00\x01\x00\x00\x00\x00\x00\x00\x00\x01"+strings.Repeat("\x00", 16))
	sameBytes(t, buckets(), api.Bucket{Mode: 2, Limit: limit, Used: used, Next: 0x0102030405060708}, "\x02"+usage+"\x01\x02\x03\x04\x05\x06\x07\x08")
	sameBytes(t, versions(), api.Version{Id: 0x0102030405060708, Sum: 0x090a0b0c, Blob: api.Blob{First: 0x0d0e, Size: 0x0f10}}, "\x01\x02\x03\x04\x05\x06\x07\x08\x00\x09\x0a\x0b\x0c\x0d\x0e\x0f\x10")
	sameBytes(t, versions(), api.Version{Id: 5, Marker: true}, "\x00\x00\x00\x00\x00\x00\x00\x05\x01\x00\x00\x00\x00\x00\x00\x00\x00")
	sameBytes(t, versions(), api.Version{Sum: 5}, "\x00\x00\x00\x00\x00\x00\x00\x00\x00\x00\x00\x00\x05\x00\x00\x00\x00")
	sameBytes(t, parts(), Part{0x090a0b0c, api.Blob{First: 3839, Size: 4096}}, "\x09\x0a\x0b\x0c\x0e\xff\x10\x00")
	sameBytes(t, parts(), Part{Blob: api.Blob{First: 2, Size: 1}}, "\x00\x00\x00\x00\x00\x02\x00\x01")
	sameBytes(t, parts(), Part{Sum: 1}, "\x00\x00\x00\x01\x00\x00\x00\x00")
}

func TestP17_2RandomRoundTrips(t *testing.T) {
	r := rand.New(rand.NewSource(2))
	number := func() int64 { return r.Int63n(maxCount+1) >> r.Intn(51) }
	pair := func() api.Count { return api.Count{Bytes: number(), Objects: number()} }
	under := func() api.Count { return api.Count{Bytes: number() - 1, Objects: number() - 1} }
	for range 20000 {
		x := Tenant{under(), pair()}
		s, why := PutTenant(x)
		if y, no := GetTenant(s); y != x || why != api.OK || no != api.OK || len(s) > 64 {
			t.Error(x, y)
		}
		b := api.Bucket{Mode: r.Intn(3), Limit: under(), Used: pair(), Next: r.Uint64()}
		s, why = PutBucket(b)
		if y, no := GetBucket(s); y != b || why != api.OK || no != api.OK || len(s) > 64 {
			t.Error(b, y)
		}
		p := Part{r.Uint32(), api.Blob{First: 2 + r.Intn(3838), Size: 1 + r.Intn(4096)}}
		s, why = PutPart(p)
		if y, no := GetPart(s); y != p || why != api.OK || no != api.OK || len(s) > 64 {
			t.Error(p, y)
		}
		v := api.Version{Id: r.Uint64(), Sum: p.Sum, Blob: p.Blob}
		s, why = PutVersion(v)
		if y, no := GetVersion(s); y != v || why != api.OK || no != api.OK || len(s) > 64 {
			t.Error(v, y)
		}
		key := make([]byte, 1+r.Intn(24))
		for i := range key {
			key[i] = byte(1 + r.Intn(255))
		}
		u := Upload{string(key)}
		s, why = PutUpload(u)
		if y, no := GetUpload(s); y != u || why != api.OK || no != api.OK || len(s) > 64 {
			t.Errorf("%q %q", u.Key, y.Key)
		}
	}
}
