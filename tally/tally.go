// Package tally is layer 1: it computes with counts of bytes and objects and
// compares them with limits. See shared/doc/01-tally.md.
package tally

import (
	"wharfage/api"
)

const unlimited = -1

// Check returns ErrArg unless both numbers of the count are in range.
func Check(c api.Count) api.Errno {
	return checkFrom(c, 0)
}

// CheckLimit returns ErrArg unless each number of the limit is in range or -1.
func CheckLimit(l api.Count) api.Errno {
	return checkFrom(l, unlimited)
}

// Add returns a + b.
func Add(a, b int64) (int64, api.Errno) {
	return Sum(a, b)
}

// Sub returns a - b.
func Sub(a, b int64) (int64, api.Errno) {
	if !inRange(a) || !inRange(b) {
		return 0, api.ErrArg
	}
	if a < b {
		return 0, api.ErrOver
	}
	return a - b, api.OK
}

// Sum returns the sum of all arguments, 0 without any.
func Sum(l ...int64) (int64, api.Errno) {
	sum := int64(0)
	for _, n := range l {
		if !inRange(n) {
			return 0, api.ErrArg
		}
		sum = joined(sum, n)
	}
	if !inRange(sum) {
		return 0, api.ErrOver
	}
	return sum, api.OK
}

// Plus returns a + b, number by number.
func Plus(a, b api.Count) (api.Count, api.Errno) {
	return Total(a, b)
}

// Minus returns a - b, number by number.
func Minus(a, b api.Count) (api.Count, api.Errno) {
	if Check(a) != api.OK || Check(b) != api.OK {
		return api.Count{}, api.ErrArg
	}
	return result(api.Count{Bytes: a.Bytes - b.Bytes, Objects: a.Objects - b.Objects})
}

// Total returns the sum of all arguments, number by number.
func Total(l ...api.Count) (api.Count, api.Errno) {
	total := api.Count{}
	for _, c := range l {
		if Check(c) != api.OK {
			return api.Count{}, api.ErrArg
		}
		total.Bytes = joined(total.Bytes, c.Bytes)
		total.Objects = joined(total.Objects, c.Objects)
	}
	return result(total)
}

// Grows returns ErrQuota if the change from old to now increases a number
// beyond its limit.
func Grows(old, now, limit api.Count) api.Errno {
	if Check(old) != api.OK || Check(now) != api.OK || CheckLimit(limit) != api.OK {
		return api.ErrArg
	}
	if outgrows(old.Bytes, now.Bytes, limit.Bytes) || outgrows(old.Objects, now.Objects, limit.Objects) {
		return api.ErrQuota
	}
	return api.OK
}

// Left returns how much may still be added to used.
func Left(used, limit int64) int64 {
	if limit == unlimited {
		limit = api.MaxCount
	}
	if !inRange(used) || !inRange(limit) {
		return 0
	}
	return max(limit-used, 0)
}

func inRange(n int64) bool {
	return n >= 0 && n <= api.MaxCount
}

// joined adds two numbers, but stops one above the range: a sum that has left
// the range never returns to it, and must not wrap around, however many
// numbers are added.
func joined(sum, n int64) int64 {
	return min(sum+n, api.MaxCount+1)
}

// checkFrom compares whole counts: a count has both numbers from lowest to
// MaxCount exactly if moving each of them into these bounds changes nothing.
func checkFrom(c api.Count, lowest int64) api.Errno {
	inside := api.Count{Bytes: moved(c.Bytes, lowest), Objects: moved(c.Objects, lowest)}
	if inside != c {
		return api.ErrArg
	}
	return api.OK
}

func moved(n, lowest int64) int64 {
	return min(max(n, lowest), api.MaxCount)
}

// result is for counts that were computed from valid ones: leaving the range
// is not the fault of one argument there.
func result(c api.Count) (api.Count, api.Errno) {
	if Check(c) != api.OK {
		return api.Count{}, api.ErrOver
	}
	return c, api.OK
}

// outgrows accepts a number above the limit that does not increase: a limit
// may be set below what is already used.
func outgrows(old, now, limit int64) bool {
	return now > old && now > limit && limit != unlimited
}
