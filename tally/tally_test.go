package tally

import (
	"math"
	"math/big"
	"slices"
	"testing"

	"wharfage/api"
)

const most = api.MaxCount

// numbers has the edges of the range, and numbers near them and far outside.
var numbers = []int64{math.MinInt64, math.MinInt64 + 1, -most, -2, -1, 0, 1, 2, 300, most / 2, most/2 + 1, most - 1, most, most + 1, 1 << 62, math.MaxInt64}

func counts(numbers []int64) []api.Count {
	var l []api.Count
	for _, b := range numbers {
		for _, o := range numbers {
			l = append(l, api.Count{Bytes: b, Objects: o})
		}
	}
	return l
}

func valid(n int64) bool { return 0 <= n && n <= 1<<50 }

func validCount(c api.Count) bool { return valid(c.Bytes) && valid(c.Objects) }

func validLimit(l api.Count) bool {
	return (valid(l.Bytes) || l.Bytes == -1) && (valid(l.Objects) || l.Objects == -1)
}

// sum adds exactly, with a sign for each number.
func sum(sign int64, first int64, rest ...int64) (int64, api.Errno) {
	exact := big.NewInt(first)
	bad := !valid(first)
	for _, n := range rest {
		bad = bad || !valid(n)
		exact.Add(exact, new(big.Int).Mul(big.NewInt(sign), big.NewInt(n)))
	}
	switch {
	case bad:
		return 0, api.ErrArg
	case exact.Sign() < 0 || exact.Cmp(big.NewInt(1<<50)) > 0:
		return 0, api.ErrOver
	}
	return exact.Int64(), api.OK
}

// both has the result for counts, given those for their numbers.
func both(x, y api.Count, bytes, objects int64, why, other api.Errno) (api.Count, api.Errno) {
	switch {
	case !validCount(x) || !validCount(y):
		return api.Count{}, api.ErrArg
	case why != api.OK || other != api.OK:
		return api.Count{}, api.ErrOver
	}
	return api.Count{Bytes: bytes, Objects: objects}, api.OK
}

func TestP1_1Check(t *testing.T) {
	for _, c := range counts(numbers) {
		if got := Check(c); (got == api.OK) != validCount(c) || got != api.OK && got != api.ErrArg {
			t.Error("Check", c, got)
		}
		if got := CheckLimit(c); (got == api.OK) != validLimit(c) || got != api.OK && got != api.ErrArg {
			t.Error("CheckLimit", c, got)
		}
	}
}

func TestP1_1CheckExamples(t *testing.T) {
	for _, x := range []struct {
		c            api.Count
		count, limit api.Errno
	}{
		{api.Count{}, api.OK, api.OK},
		{api.Count{Bytes: 1 << 50, Objects: 1 << 50}, api.OK, api.OK},
		{api.Count{Bytes: 1<<50 + 1}, api.ErrArg, api.ErrArg},
		{api.Count{Objects: 1<<50 + 1}, api.ErrArg, api.ErrArg},
		{api.Count{Bytes: -1}, api.ErrArg, api.OK},
		{api.Count{Objects: -1}, api.ErrArg, api.OK},
		{api.Count{Bytes: -1, Objects: -1}, api.ErrArg, api.OK},
		{api.Count{Bytes: -2}, api.ErrArg, api.ErrArg},
		{api.Count{Objects: -2}, api.ErrArg, api.ErrArg},
		{api.Count{Bytes: -1, Objects: -2}, api.ErrArg, api.ErrArg},
	} {
		if got := Check(x.c); got != x.count {
			t.Error("Check", x.c, got)
		}
		if got := CheckLimit(x.c); got != x.limit {
			t.Error("CheckLimit", x.c, got)
		}
	}
}

func TestP1_1AddAndSub(t *testing.T) {
	for _, a := range numbers {
		for _, b := range numbers {
			want, wantWhy := sum(1, a, b)
			if got, why := Add(a, b); got != want || why != wantWhy {
				t.Error("Add", a, b, got, why)
			}
			want, wantWhy = sum(-1, a, b)
			if got, why := Sub(a, b); got != want || why != wantWhy {
				t.Error("Sub", a, b, got, why)
			}
		}
	}
}

func TestP1_1AddAndSubExamples(t *testing.T) {
	for _, x := range []struct {
		f         func(a, b int64) (int64, api.Errno)
		a, b, out int64
		why       api.Errno
	}{
		{Add, 0, 0, 0, api.OK},
		{Add, 1 << 50, 0, 1 << 50, api.OK},
		{Add, 1 << 49, 1 << 49, 1 << 50, api.OK},
		{Add, 1 << 49, 1<<49 + 1, 0, api.ErrOver},
		{Add, 5, -1, 0, api.ErrArg},
		{Add, 1 << 50, -1, 0, api.ErrArg},
		{Add, 1<<50 + 1, 1 << 50, 0, api.ErrArg},
		{Sub, 1 << 50, 1 << 50, 0, api.OK},
		{Sub, 5, 2, 3, api.OK},
		{Sub, 0, 1, 0, api.ErrOver},
		{Sub, 0, 1 << 50, 0, api.ErrOver},
		{Sub, 5, -1, 0, api.ErrArg},
		{Sub, -1, 5, 0, api.ErrArg},
		{Sub, 1<<50 + 1, 2, 0, api.ErrArg},
	} {
		if got, why := x.f(x.a, x.b); got != x.out || why != x.why {
			t.Error(x.a, x.b, x.out, x.why, got, why)
		}
	}
}

func TestP1_1Sum(t *testing.T) {
	if got, why := Sum(); got != 0 || why != api.OK {
		t.Error(got, why)
	}
	for _, a := range numbers {
		want, wantWhy := sum(1, a)
		if got, why := Sum(a); got != want || why != wantWhy {
			t.Error(a, got, why)
		}
		for _, b := range numbers {
			for _, c := range numbers {
				want, wantWhy = sum(1, a, b, c)
				if got, why := Sum(a, b, c); got != want || why != wantWhy {
					t.Error(a, b, c, got, why)
				}
			}
		}
	}
}

// Enough numbers for their sum to wrap around in 64 bits: to 0, and to below zero.
func TestP1_1SumDoesNotWrap(t *testing.T) {
	for _, n := range []int{1 << 13, 1 << 14, 1<<14 + 1} {
		l := slices.Repeat([]int64{most}, n)
		if got, why := Sum(l...); got != 0 || why != api.ErrOver {
			t.Error(n, got, why)
		}
		if got, why := Sum(append(l, -1)...); got != 0 || why != api.ErrArg {
			t.Error(n, got, why)
		}
		for _, c := range []api.Count{{Bytes: most}, {Objects: most}} {
			l := slices.Repeat([]api.Count{c}, n)
			if got, why := Total(l...); got != (api.Count{}) || why != api.ErrOver {
				t.Error(n, got, why)
			}
			if got, why := Total(append(l, api.Count{Objects: -1})...); got != (api.Count{}) || why != api.ErrArg {
				t.Error(n, got, why)
			}
		}
	}
}

func TestP1_2PlusAndMinus(t *testing.T) {
	l := counts([]int64{math.MinInt64, -1, 0, 1, 2, most / 2, most - 1, most, most + 1, math.MaxInt64})
	for _, a := range l {
		for _, b := range l {
			bytes, why := sum(1, a.Bytes, b.Bytes)
			objects, other := sum(1, a.Objects, b.Objects)
			want, wantWhy := both(a, b, bytes, objects, why, other)
			if got, why := Plus(a, b); got != want || why != wantWhy {
				t.Error("Plus", a, b, got, why)
			}
			if got, why := Total(a, b); got != want || why != wantWhy {
				t.Error("Total", a, b, got, why)
			}
			bytes, why = sum(-1, a.Bytes, b.Bytes)
			objects, other = sum(-1, a.Objects, b.Objects)
			want, wantWhy = both(a, b, bytes, objects, why, other)
			if got, why := Minus(a, b); got != want || why != wantWhy {
				t.Error("Minus", a, b, got, why)
			}
		}
	}
}

func TestP1_2PlusAndMinusExamples(t *testing.T) {
	for _, x := range []struct {
		f         func(a, b api.Count) (api.Count, api.Errno)
		a, b, out api.Count
		why       api.Errno
	}{
		{Plus, api.Count{Bytes: 1, Objects: 2}, api.Count{Bytes: 10, Objects: 20}, api.Count{Bytes: 11, Objects: 22}, api.OK},
		{Plus, api.Count{Bytes: 1 << 50}, api.Count{Objects: 1 << 50}, api.Count{Bytes: 1 << 50, Objects: 1 << 50}, api.OK},
		{Plus, api.Count{Bytes: 1 << 50}, api.Count{Bytes: 1}, api.Count{}, api.ErrOver},
		{Plus, api.Count{Objects: 1 << 50}, api.Count{Objects: 1}, api.Count{}, api.ErrOver},
		{Plus, api.Count{Bytes: 1 << 50}, api.Count{Bytes: 1, Objects: -1}, api.Count{}, api.ErrArg},
		{Plus, api.Count{Bytes: -1}, api.Count{Bytes: 1}, api.Count{}, api.ErrArg},
		{Minus, api.Count{Bytes: 11, Objects: 22}, api.Count{Bytes: 10, Objects: 20}, api.Count{Bytes: 1, Objects: 2}, api.OK},
		{Minus, api.Count{Bytes: 1, Objects: 2}, api.Count{Bytes: 2}, api.Count{}, api.ErrOver},
		{Minus, api.Count{Bytes: 1, Objects: 2}, api.Count{Objects: 3}, api.Count{}, api.ErrOver},
		{Minus, api.Count{Bytes: 1}, api.Count{Bytes: 2, Objects: -1}, api.Count{}, api.ErrArg},
		{Minus, api.Count{Bytes: 1<<50 + 1}, api.Count{Bytes: 1}, api.Count{}, api.ErrArg},
	} {
		if got, why := x.f(x.a, x.b); got != x.out || why != x.why {
			t.Error(x.a, x.b, x.out, x.why, got, why)
		}
	}
}

func TestP1_2Total(t *testing.T) {
	for _, x := range []struct {
		l   []api.Count
		out api.Count
		why api.Errno
	}{
		{nil, api.Count{}, api.OK},
		{[]api.Count{{Bytes: 3, Objects: 4}}, api.Count{Bytes: 3, Objects: 4}, api.OK},
		{[]api.Count{{Bytes: 1, Objects: 2}, {Bytes: 3, Objects: 4}, {Bytes: 5, Objects: 6}}, api.Count{Bytes: 9, Objects: 12}, api.OK},
		{[]api.Count{{Bytes: most}, {Objects: most}, {}}, api.Count{Bytes: most, Objects: most}, api.OK},
		{[]api.Count{{Bytes: most - 1}, {Bytes: 1}, {Bytes: 1}}, api.Count{}, api.ErrOver},
		{[]api.Count{{Objects: most}, {Objects: 1}}, api.Count{}, api.ErrOver},
		{[]api.Count{{Bytes: -1}}, api.Count{}, api.ErrArg},
		{[]api.Count{{Bytes: most}, {Bytes: 1}, {Objects: -1}}, api.Count{}, api.ErrArg},
		{[]api.Count{{Bytes: most}, {Bytes: 1}, {Bytes: most + 1}}, api.Count{}, api.ErrArg},
	} {
		if got, why := Total(x.l...); got != x.out || why != x.why {
			t.Error(x.l, got, why)
		}
	}
}

func TestP1_3Grows(t *testing.T) {
	l := counts([]int64{math.MinInt64, -2, -1, 0, 1, most, most + 1})
	over := func(old, now, limit int64) bool { return limit != -1 && now > max(old, limit) }
	for _, old := range l {
		for _, now := range l {
			for _, limit := range l {
				want := api.OK
				switch {
				case !validCount(old) || !validCount(now) || !validLimit(limit):
					want = api.ErrArg
				case over(old.Bytes, now.Bytes, limit.Bytes) || over(old.Objects, now.Objects, limit.Objects):
					want = api.ErrQuota
				}
				if got := Grows(old, now, limit); got != want {
					t.Error(old, now, limit, got, want)
				}
			}
		}
	}
}

func TestP1_3GrowsExamples(t *testing.T) {
	for _, x := range []struct {
		old, now, limit api.Count
		why             api.Errno
	}{
		{api.Count{Bytes: 200}, api.Count{Bytes: 300}, api.Count{Bytes: 300, Objects: 0}, api.OK},
		{api.Count{Bytes: 200}, api.Count{Bytes: 301}, api.Count{Bytes: 300, Objects: 0}, api.ErrQuota},
		{api.Count{Bytes: 300}, api.Count{Bytes: 200}, api.Count{Bytes: 10}, api.OK},
		{api.Count{Bytes: 300}, api.Count{Bytes: 301}, api.Count{Bytes: 10}, api.ErrQuota},
		{api.Count{}, api.Count{Objects: 1}, api.Count{}, api.ErrQuota},
		{api.Count{}, api.Count{Objects: 1}, api.Count{Objects: -1}, api.OK},
		{api.Count{}, api.Count{Bytes: 1, Objects: 1}, api.Count{Objects: -1}, api.ErrQuota},
		{api.Count{}, api.Count{Bytes: 1 << 50, Objects: 1 << 50}, api.Count{Bytes: -1, Objects: -1}, api.OK},
		{api.Count{}, api.Count{Bytes: 2}, api.Count{Bytes: 1, Objects: -2}, api.ErrArg},
		{api.Count{}, api.Count{Bytes: 1<<50 + 1}, api.Count{Bytes: 1}, api.ErrArg},
		{api.Count{Objects: -1}, api.Count{Bytes: 2}, api.Count{Bytes: 1}, api.ErrArg},
	} {
		if got := Grows(x.old, x.now, x.limit); got != x.why {
			t.Error(x, got)
		}
	}
}

func TestP1_3Left(t *testing.T) {
	for _, x := range []struct{ used, limit, left int64 }{
		{0, 0, 0},
		{0, 1 << 50, 1 << 50},
		{1 << 50, 1 << 50, 0},
		{1 << 50, 0, 0},
		{300, 299, 0},
		{300, 300, 0},
		{300, 301, 1},
		{0, -1, 1 << 50},
		{300, -1, 1<<50 - 300},
		{1 << 50, -1, 0},
		{1<<50 + 1, -1, 0},
		{-1, -1, 0},
		{-1, 5, 0},
		{3, -2, 0},
		{3, 1<<50 + 1, 0},
		{math.MinInt64, math.MaxInt64, 0},
		{math.MaxInt64, math.MinInt64, 0},
		{math.MinInt64, -1, 0},
		{0, math.MaxInt64, 0},
	} {
		if got := Left(x.used, x.limit); got != x.left {
			t.Error(x, got)
		}
	}
}

// What Left returns may be added, and one more may not.
func TestP1_3LeftAgreesWithGrows(t *testing.T) {
	for _, used := range numbers {
		for _, limit := range numbers {
			left := Left(used, limit)
			if !valid(used) || !valid(limit) && limit != -1 {
				if left != 0 {
					t.Error(used, limit, left)
				}
				continue
			}
			old, l := api.Count{Bytes: used}, api.Count{Bytes: limit}
			if why := Grows(old, api.Count{Bytes: used + left}, l); why != api.OK {
				t.Error(used, limit, left, why)
			}
			if why := Grows(old, api.Count{Bytes: used + left + 1}, l); why == api.OK {
				t.Error(used, limit, left, why)
			}
		}
	}
}

func TestP1_4Inverse(t *testing.T) {
	for _, a := range numbers {
		for _, b := range numbers {
			if s, why := Add(a, b); why == api.OK {
				if got, why := Sub(s, b); got != a || why != api.OK {
					t.Error(a, b, got, why)
				}
			}
		}
	}
	l := counts([]int64{0, 1, 7, most / 2, most - 1, most})
	n := 0
	for _, a := range l {
		for _, b := range l {
			if s, why := Plus(a, b); why == api.OK {
				n++
				if got, why := Minus(s, b); got != a || why != api.OK {
					t.Error(a, b, got, why)
				}
			}
		}
	}
	if n == 0 {
		t.Error("nothing was added")
	}
}

func TestP1_4OrderAndGroups(t *testing.T) {
	l := counts([]int64{-1, 0, 1, most - 1, most})
	for _, a := range l {
		for _, b := range l {
			for _, c := range l {
				want, wantWhy := Total(a, b, c)
				for _, p := range [][]api.Count{{a, c, b}, {b, a, c}, {b, c, a}, {c, a, b}, {c, b, a}} {
					if got, why := Total(p...); got != want || why != wantWhy {
						t.Error(p, got, why)
					}
				}
				if wantWhy == api.ErrArg {
					continue
				}
				left, why := Plus(a, b)
				if why == api.OK {
					left, why = Plus(left, c)
				}
				right, other := Plus(b, c)
				if other == api.OK {
					right, other = Plus(a, right)
				}
				if left != want || why != wantWhy || right != want || other != wantWhy {
					t.Error(a, b, c, left, why, right, other)
				}
			}
		}
	}
}

func TestP1_4SumOrderAndGroups(t *testing.T) {
	l := []int64{0, 1, 2, most / 2, most - 1, most}
	for _, a := range l {
		for _, b := range l {
			for _, c := range l {
				want, wantWhy := Sum(a, b, c)
				for _, p := range [][]int64{{a, c, b}, {b, a, c}, {b, c, a}, {c, a, b}, {c, b, a}} {
					if got, why := Sum(p...); got != want || why != wantWhy {
						t.Error(p, got, why)
					}
				}
				got, why := Add(a, b)
				if why == api.OK {
					got, why = Add(got, c)
				}
				if got != want || why != wantWhy {
					t.Error(a, b, c, got, why)
				}
			}
		}
	}
}

func TestP1_5Limits(t *testing.T) {
	l := counts([]int64{0, 1, 2, most - 1, most})
	limits := counts([]int64{-1, 0, 1, most - 1, most})
	for _, old := range l {
		for _, now := range l {
			for _, limit := range limits {
				why := Grows(old, now, limit)
				if now.Bytes <= old.Bytes && now.Objects <= old.Objects && why != api.OK {
					t.Error("no increase", old, now, limit, why)
				}
				if why != api.OK {
					continue
				}
				if now.Bytes > old.Bytes && limit.Bytes != -1 && now.Bytes > limit.Bytes {
					t.Error("bytes", old, now, limit)
				}
				if now.Objects > old.Objects && limit.Objects != -1 && now.Objects > limit.Objects {
					t.Error("objects", old, now, limit)
				}
			}
		}
	}
}

// everything has the results of all functions for all of the numbers.
func everything() []any {
	var l []any
	add := func(x any, why api.Errno) { l = append(l, x, why) }
	for _, a := range numbers {
		for _, b := range numbers {
			x, y := api.Count{Bytes: a, Objects: b}, api.Count{Bytes: b, Objects: a}
			add(Check(x), CheckLimit(x))
			add(Add(a, b))
			add(Sub(a, b))
			add(Sum(a, b))
			add(Plus(x, y))
			add(Minus(x, y))
			add(Total(x, y))
			add(Left(a, b), Grows(x, y, x))
		}
	}
	return l
}

func TestP1_P2SameResultsForAllArguments(t *testing.T) {
	if !slices.Equal(everything(), everything()) {
		t.Error("different results for the same arguments")
	}
}

func TestRulesArgumentsAreKept(t *testing.T) {
	l := []int64{3, 1, 2}
	Sum(l...)
	c := []api.Count{{Bytes: 3}, {Bytes: 1}, {Objects: 2}}
	Total(c...)
	if !slices.Equal(l, []int64{3, 1, 2}) || !slices.Equal(c, []api.Count{{Bytes: 3}, {Bytes: 1}, {Objects: 2}}) {
		t.Error(l, c)
	}
}
