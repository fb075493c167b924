package keys

import (
	"cmp"
	"encoding/binary"
	"math"
	"math/rand"
	"slices"
	"strings"
	"testing"

	"wharfage/api"
)

var (
	buckets = []string{"0", "a", "a-b", "a0", "aa", "ab", "abcdefghijkl", "b", "z-9", "zzzzzzzzzzzz"}
	names   = []string{"\x01", "\x01\x01", " ", "-", "B\x01", "a", "a\x01", "aa", "ab", "abcdefghijklmnopqrstuvwx", "b", "\xff", "\xff\xff", strings.Repeat("\xff", 24)}
	numbers = []uint64{0, 1, 2, 255, 256, 0x0001000200030004, 1 << 32, 1<<63 - 1, 1 << 63, math.MaxUint64 - 1, math.MaxUint64}
)

// universe returns valid keys of all kinds, each one once.
func universe() []Key {
	var l []Key
	for tenant := range 8 {
		l = append(l, Key{Kind: Tenant, Tenant: tenant})
		for _, b := range buckets {
			l = append(l, Key{Kind: Bucket, Tenant: tenant, Bucket: b})
			for _, n := range numbers {
				for _, s := range names {
					l = append(l, Key{Kind: Version, Tenant: tenant, Bucket: b, Name: s, Number: n})
				}
				l = append(l, Key{Kind: Upload, Tenant: tenant, Bucket: b, Number: n})
				for part := 1; part <= 16; part++ {
					l = append(l, Key{Kind: Part, Tenant: tenant, Bucket: b, Number: n, Part: part})
				}
			}
		}
	}
	return l
}

// isValid is the document's definition.
func isValid(k Key) bool {
	isBucket := bucketShape(k.Bucket)
	isName := len(k.Name) >= 1 && len(k.Name) <= 24 && strings.IndexByte(k.Name, 0) < 0
	switch {
	case k.Tenant < 0 || k.Tenant > 7:
		return false
	case k.Kind == 1:
		return k.Bucket == "" && k.Name == "" && k.Number == 0 && k.Part == 0
	case k.Kind == 2:
		return isBucket && k.Name == "" && k.Number == 0 && k.Part == 0
	case k.Kind == 3:
		return isBucket && isName && k.Part == 0
	case k.Kind == 4:
		return isBucket && k.Name == "" && k.Part == 0
	case k.Kind == 5:
		return isBucket && k.Name == "" && k.Part >= 1 && k.Part <= 16
	}
	return false
}

func bucketShape(s string) bool {
	inner := strings.Trim(s, "abcdefghijklmnopqrstuvwxyz0123456789-")
	return inner == "" && len(s) >= 1 && len(s) <= 12 && strings.Trim(s, "-") == s
}

// encoding is the document's definition, for valid keys.
func encoding(k Key) string {
	b := []byte{" TBVUP"[k.Kind], byte(k.Tenant)}
	b = append(b, k.Bucket...)
	if k.Kind >= 3 {
		b = append(b, 0)
	}
	switch k.Kind {
	case 3:
		b = append(b, k.Name...)
		b = append(b, 0)
		b = binary.BigEndian.AppendUint64(b, math.MaxUint64-k.Number)
	case 4:
		b = binary.BigEndian.AppendUint64(b, k.Number)
	case 5:
		b = binary.BigEndian.AppendUint64(b, k.Number)
		b = append(b, byte(k.Part))
	}
	return string(b)
}

// encodedAs returns all valid keys whose encoding is s: it tries all ways to
// split s into fields.
func encodedAs(s string) []Key {
	var l []Key
	if len(s) < 2 || len(s) > 64 {
		return nil
	}
	at := func(i int) uint64 {
		if i+8 > len(s) {
			return 0
		}
		return binary.BigEndian.Uint64([]byte(s[i:]))
	}
	try := func(k Key) {
		k.Tenant = int(s[1])
		if isValid(k) && encoding(k) == s {
			l = append(l, k)
		}
	}
	try(Key{Kind: 1})
	try(Key{Kind: 2, Bucket: s[2:]})
	for i := 2; i < len(s); i++ {
		try(Key{Kind: 4, Bucket: s[2:i], Number: at(i + 1)})
		try(Key{Kind: 5, Bucket: s[2:i], Number: at(i + 1), Part: int(s[len(s)-1])})
		for j := i + 1; j < len(s); j++ {
			try(Key{Kind: 3, Bucket: s[2:i], Name: s[i+1 : j], Number: math.MaxUint64 - at(j+1)})
		}
	}
	return l
}

// checkOpen compares Open with the document's definition, also if s is no
// encoding.
func checkOpen(t *testing.T, s string) {
	t.Helper()
	want, wantWhy := Key{}, api.ErrForm
	if l := encodedAs(s); len(l) == 1 {
		want, wantWhy = l[0], api.OK
	} else if len(l) > 1 {
		t.Fatalf("%q: two keys with one encoding: %v", s, l)
	}
	if got, why := Open(s); got != want || why != wantWhy {
		t.Errorf("%q: %v %d, not %v %d", s, got, why, want, wantWhy)
	}
}

// checkMake compares Check and Make with the document's definition.
func checkMake(t *testing.T, k Key) {
	t.Helper()
	want, wantWhy := "", api.ErrArg
	if isValid(k) {
		want, wantWhy = encoding(k), api.OK
	}
	if why := Check(k); why != wantWhy {
		t.Errorf("Check %v: %d, not %d", k, why, wantWhy)
	}
	if got, why := Make(k); got != want || why != wantWhy {
		t.Errorf("Make %v: %q %d, not %q %d", k, got, why, want, wantWhy)
	}
}

func TestP16_1Kinds(t *testing.T) {
	if Tenant != 1 || Bucket != 2 || Version != 3 || Upload != 4 || Part != 5 {
		t.Error(Tenant, Bucket, Version, Upload, Part)
	}
}

func TestP16_1Examples(t *testing.T) {
	for s, k := range map[string]Key{
		"T\x00":    {Kind: Tenant},
		"T\x07":    {Kind: Tenant, Tenant: 7},
		"B\x00b":   {Kind: Bucket, Bucket: "b"},
		"B\x03a-0": {Kind: Bucket, Tenant: 3, Bucket: "a-0"},
		"V\x01b\x00k\x00\xff\xff\xff\xff\xff\xff\xff\xff":    {Kind: Version, Tenant: 1, Bucket: "b", Name: "k"},
		"V\x01b\x00k k\x00\xfe\xfd\xfc\xfb\xfa\xf9\xf8\xf7":  {Kind: Version, Tenant: 1, Bucket: "b", Name: "k k", Number: 0x0102030405060708},
		"V\x01b\x00\xff\x00\x00\x00\x00\x00\x00\x00\x00\x00": {Kind: Version, Tenant: 1, Bucket: "b", Name: "\xff", Number: math.MaxUint64},
		"U\x02bc\x00\x01\x02\x03\x04\x05\x06\x07\x08":        {Kind: Upload, Tenant: 2, Bucket: "bc", Number: 0x0102030405060708},
		"U\x02bc\x00\x00\x00\x00\x00\x00\x00\x00\x00":        {Kind: Upload, Tenant: 2, Bucket: "bc"},
		"P\x04b\x00\x00\x00\x00\x00\x00\x00\x00\x00\x01":     {Kind: Part, Tenant: 4, Bucket: "b", Part: 1},
		"P\x04b\x00\xff\xff\xff\xff\xff\xff\xff\xff\x10":     {Kind: Part, Tenant: 4, Bucket: "b", Number: math.MaxUint64, Part: 16},
		"P\x04b\x00\x01\x02\x03\x04\x05\x06\x07\x08\x09":     {Kind: Part, Tenant: 4, Bucket: "b", Number: 0x0102030405060708, Part: 9},
		"V\x05b\x00\x00\xff\xff\xff\xff\xff\xff\xff\xfe":     {},
		"V\x05b\x00T\x01\xff\xff\xff\xff\xff\xff\xff\xfe":    {},
		"U\x02bc\x00\x01\x02\x03\x04\x05\x06\x07":            {},
		"P\x04b\x00\x00\x00\x00\x00\x00\x00\x00\x00\x00":     {},
		"P\x04b\x00\x00\x00\x00\x00\x00\x00\x00\x00\x11":     {},
		"P\x04b\x00\x00\x00\x00\x00\x00\x00\x00\x00\x01\x01": {},
		"P\x08b\x00\x00\x00\x00\x00\x00\x00\x00\x00\x01":     {},
		"B\x03a-":    {},
		"B\x03a\x00": {},
		"T\x00\x00":  {},
		"T":          {},
		"":           {},
		"t\x00":      {},
		"\x00\x00":   {},
	} {
		if k == (Key{}) {
			if got, why := Open(s); got != k || why != api.ErrForm {
				t.Errorf("%q %v %d", s, got, why)
			}
			continue
		}
		if got, why := Open(s); got != k || why != api.OK {
			t.Errorf("%q %v %d", s, got, why)
		}
		if got, why := Make(k); got != s || why != api.OK {
			t.Errorf("%v %q %d", k, got, why)
		}
	}
}

func TestP16_1CheckAndMake(t *testing.T) {
	for _, k := range universe() {
		checkMake(t, k)
	}
	for _, kind := range []int{math.MinInt, -1, 0, 1, 2, 3, 4, 5, 6, 7, 1 << 8, 1<<32 + 1, math.MaxInt} {
		for _, tenant := range []int{math.MinInt, -1, 0, 7, 8, 256, 1 << 32, math.MaxInt} {
			for _, b := range []string{"", "b", "-", "b-", "B", "b\x00", "b b", "abcdefghijkl", "abcdefghijklm", strings.Repeat("b", 300)} {
				for _, s := range []string{"", "k", "\x00", "k\x00", strings.Repeat("k", 24), strings.Repeat("k", 25)} {
					for _, n := range []uint64{0, 1, math.MaxUint64} {
						for _, part := range []int{math.MinInt, -1, 0, 1, 16, 17, 257, math.MaxInt} {
							checkMake(t, Key{kind, tenant, b, s, n, part})
						}
					}
				}
			}
		}
	}
}

// mutants returns strings that differ little from s: shorter, longer, and with
// any other byte at any place.
func mutants(s string) []string {
	l := []string{s + s, "", strings.ToLower(s)}
	for i := range len(s) {
		l = append(l, s[:i], s[i:], s[:i]+s[i+1:])
		for c := range 256 {
			b := string([]byte{byte(c)})
			l = append(l, s[:i]+b+s[i+1:])
			if i < 5 || c < 3 {
				l = append(l, s[:i]+b+s[i:])
			}
		}
	}
	for c := range 256 {
		l = append(l, s+string([]byte{byte(c)}))
	}
	return l
}

func TestP16_1OpenOfMutants(t *testing.T) {
	for _, k := range []Key{
		{Kind: Tenant, Tenant: 3},
		{Kind: Bucket, Tenant: 7, Bucket: "a-b"},
		{Kind: Bucket, Tenant: 1, Bucket: "abcdefghijkl"},
		{Kind: Version, Bucket: "b", Name: "k", Number: 1},
		{Kind: Version, Tenant: 6, Bucket: "a0", Name: "a\xff", Number: 0x0011223344556677},
		{Kind: Version, Tenant: 2, Bucket: "abcdefghijkl", Name: "abcdefghijklmnopqrstuvwx", Number: math.MaxUint64},
		{Kind: Upload, Tenant: 5, Bucket: "up", Number: 0x6100620063006400},
		{Kind: Part, Tenant: 4, Bucket: "p", Number: 5, Part: 16},
		{Kind: Part, Bucket: "p-q", Number: 1 << 63, Part: 1},
	} {
		for _, s := range mutants(encoding(k)) {
			checkOpen(t, s)
		}
	}
}

func TestP16_1OpenOfRandomBytes(t *testing.T) {
	r := rand.New(rand.NewSource(16))
	const some = "TBVUPab-\x00\x01\x07\x08\x10\x11\xff"
	for range 200000 {
		b := make([]byte, r.Intn(26))
		for i := range b {
			b[i] = some[r.Intn(len(some))]
		}
		if len(b) > 1 {
			b[0], b[1] = some[r.Intn(5)], byte(r.Intn(9))
		}
		checkOpen(t, string(b))
	}
	for _, letter := range "TBVUP" {
		for _, s := range []string{"b", "\x00", "b\x00", "\xff"} {
			if k, why := Open(string(letter) + "\x01" + strings.Repeat(s, 1<<20)); k != (Key{}) || why != api.ErrForm {
				t.Error(letter, why)
			}
		}
	}
}

// holds requires that exactly the valid keys that are asked for begin with a
// prefix, and that nothing longer is common to them.
func holds(t *testing.T, prefix string, asked func(k Key) bool) {
	t.Helper()
	var l []string
	for _, k := range universe() {
		if s := encoding(k); strings.HasPrefix(s, prefix) != asked(k) {
			t.Errorf("%q %v", prefix, k)
		} else if asked(k) {
			l = append(l, s)
		}
	}
	common := l[0]
	for _, s := range l {
		for !strings.HasPrefix(s, common) {
			common = common[:len(common)-1]
		}
	}
	if prefix != common {
		t.Errorf("%q, not %q", prefix, common)
	}
}

func TestP16_2Prefixes(t *testing.T) {
	for _, tenant := range []int{0, 1, 7} {
		holds(t, Buckets(tenant), func(k Key) bool { return k.Kind == Bucket && k.Tenant == tenant })
		for _, b := range []string{"a", "a-b", "abcdefghijkl"} {
			of := func(kind int, k Key) bool { return k.Kind == kind && k.Tenant == tenant && k.Bucket == b }
			for _, kind := range []int{Version, Upload, Part} {
				holds(t, All(kind, tenant, b), func(k Key) bool { return of(kind, k) })
			}
			for _, s := range []string{"\x01", "a", "abcdefghijklmnopqrstuvwx", "\xff"} {
				holds(t, Chain(tenant, b, s), func(k Key) bool { return of(Version, k) && k.Name == s })
			}
			for _, n := range []uint64{0, 1, 256, math.MaxUint64} {
				holds(t, Pieces(tenant, b, n), func(k Key) bool { return of(Part, k) && k.Number == n })
			}
		}
	}
}

func TestP16_2Examples(t *testing.T) {
	for got, want := range map[string]string{
		Buckets(0):            "B\x00",
		Buckets(7):            "B\x07",
		All(Version, 1, "b"):  "V\x01b\x00",
		All(Upload, 2, "a-b"): "U\x02a-b\x00",
		All(Part, 3, "0"):     "P\x030\x00",
		Chain(4, "b", "k"):    "V\x04b\x00k\x00",
		Pieces(5, "b", 258):   "P\x05b\x00\x00\x00\x00\x00\x00\x00\x01\x02",
	} {
		if got != want {
			t.Errorf("%q, not %q", got, want)
		}
	}
}

func TestP16_2Invalid(t *testing.T) {
	empty := func(s string) {
		t.Helper()
		if s != "" {
			t.Errorf("%q", s)
		}
	}
	for _, tenant := range []int{math.MinInt, -1, 8, 256, 1 << 32, math.MaxInt} {
		empty(Buckets(tenant))
		empty(Chain(tenant, "b", "k"))
		empty(Pieces(tenant, "b", 1))
		for _, kind := range []int{Version, Upload, Part} {
			empty(All(kind, tenant, "b"))
		}
	}
	for _, b := range []string{"", "-", "b-", "B", "b\x00", "b b", "abcdefghijklm", strings.Repeat("b", 1<<16)} {
		empty(Chain(1, b, "k"))
		empty(Pieces(1, b, 1))
		for _, kind := range []int{Version, Upload, Part} {
			empty(All(kind, 1, b))
		}
	}
	for _, kind := range []int{math.MinInt, -1, 0, Tenant, Bucket, 6, 256 + Version, math.MaxInt} {
		empty(All(kind, 1, "b"))
		empty(All(kind, 1, ""))
	}
	for _, s := range []string{"", "\x00", "k\x00", "\x00k", strings.Repeat("k", 25), strings.Repeat("k", 1<<16)} {
		empty(Chain(1, "b", s))
	}
}

func TestP16_3RoundTrip(t *testing.T) {
	seen := map[string]Key{}
	longest := 0
	for _, k := range universe() {
		s, why := Make(k)
		if other, found := seen[s]; found || why != api.OK {
			t.Fatal(k, other, why)
		}
		seen[s] = k
		longest = max(longest, len(s))
		if back, why := Open(s); back != k || why != api.OK {
			t.Errorf("%v %v %d", k, back, why)
		}
	}
	if longest > api.MaxItemKey {
		t.Error(longest)
	}
}

func TestP16_4Order(t *testing.T) {
	type group struct {
		kind, tenant int
		bucket       string
	}
	groups := map[group][]Key{}
	for _, k := range universe() {
		g := group{k.Kind, k.Tenant, k.Bucket}
		if k.Kind == Bucket {
			g.bucket = ""
		}
		groups[g] = append(groups[g], k)
	}
	for g, l := range groups {
		slices.SortFunc(l, inOrder)
		before := ""
		for _, k := range l {
			s, why := Make(k)
			if s <= before || why != api.OK {
				t.Errorf("%v: %q is not after %q", g, s, before)
			}
			before = s
		}
	}
}

// inOrder compares two buckets of a tenant, or two other keys of one kind and
// one bucket, as the document orders them.
func inOrder(a, b Key) int {
	number := cmp.Compare(a.Number, b.Number)
	if a.Kind == Version {
		number = -number
	}
	return cmp.Or(strings.Compare(a.Bucket, b.Bucket), strings.Compare(a.Name, b.Name), number, cmp.Compare(a.Part, b.Part))
}
