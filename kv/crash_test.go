package kv

import (
	"maps"
	"math/rand"
	"testing"

	"wharfage/api"
	"wharfage/disk"
)

// past is what a user of a store remembers: what it contained after each
// successful transaction, and how many of them are known to be flushed.
type past struct {
	states  []model
	flushed int
}

func begun() *past { return &past{states: []model{{}}} }

func (p *past) commits() int { return len(p.states) - 1 }

func (p *past) newest() model { return p.states[p.commits()] }

// load requires that a store is the result of a prefix of all transactions,
// which includes the flushed ones, and forgets the others.
func (p *past) load(t *testing.T, s *Store) {
	t.Helper()
	if why := s.Check(refers); why != api.OK {
		t.Fatal("check", why)
	}
	var got model
	view(t, s, func(x *Tx) { got = modelOf(x) })
	for n := p.commits(); n >= p.flushed; n-- {
		if maps.Equal(p.states[n], got) {
			p.states = p.states[:n+1]
			p.flushed = n
			return
		}
	}
	t.Fatalf("not a prefix of %d transactions with %d of them", p.commits(), p.flushed)
}

// user performs the random calls of a seed on a store.
type user struct {
	*past
	r      *rand.Rand
	serial int
}

func using(seed int64) *user {
	return &user{begun(), rand.New(rand.NewSource(seed)), 0}
}

// value returns bytes that no other value begins with.
func (u *user) value(longest int) string {
	u.serial++
	return string([]byte{byte(u.serial >> 8), byte(u.serial)}) + text(u.r.Intn(longest-1))
}

// change is one transaction, which may abort.
func (u *user) change(x *Tx, m model) {
	m["serial"] = u.value(2)
	set(x, "serial", m["serial"])
	for range u.r.Intn(4) {
		k := string([]byte{"bk"[u.r.Intn(2)], byte(u.r.Intn(12))})
		switch {
		case u.r.Intn(3) == 0:
			unset(x, k)
			delete(m, k)
		case k[0] == 'b':
			m[k] = u.value([]int{9, 500, 1500}[u.r.Intn(3)])
			set(x, k, m[k])
		default:
			m[k] = u.value(64)
			set(x, k, m[k])
		}
	}
	if u.r.Intn(8) == 0 {
		x.Stop(api.ErrQuota)
	}
}

// step performs one call, which must leave the store as its model is.
func (u *user) step(t *testing.T, s *Store) api.Errno {
	t.Helper()
	why := api.OK
	switch u.r.Intn(8) {
	case 0:
		if why = s.Flush(); why == api.OK {
			u.flushed = u.commits()
		}
	case 1:
		if why = s.Checkpoint(); why == api.OK {
			u.flushed = u.commits()
		}
	default:
		m := maps.Clone(u.newest())
		if why = s.Do(func(x *Tx) { u.change(x, m) }); why == api.OK {
			u.states = append(u.states, m)
		}
	}
	// A commit may have had to flush those before it.
	u.flushed = max(u.flushed, u.commits()-s.Waiting())
	isModel(t, s, u.newest())
	return why
}

// failed returns a disk of which the n-th operation failed, and what is
// remembered, or nil if there are fewer operations.
func failed(t *testing.T, seed int64, n, journal int) (*disk.Disk, *past) {
	t.Helper()
	d, s := formatted(t, 20, journal)
	u := using(seed)
	d.Arm(n)
	for range 25 {
		switch why := u.step(t, s); why {
		case api.OK, api.ErrQuota, api.ErrDisk, api.ErrJournal:
		case api.ErrDown:
			return d, u.past
		default:
			t.Fatal(why)
		}
	}
	return nil, nil
}

// keeps returns which of n pending writes survive: each way if there are few,
// and otherwise all, all but one, a single one, those before one, and others.
func keeps(r *rand.Rand, n int) [][]bool {
	var all [][]bool
	choose := func(by func(i int) bool) {
		keep := make([]bool, n)
		for i := range keep {
			keep[i] = by(i)
		}
		all = append(all, keep)
	}
	if n <= 5 {
		for mask := range 1 << n {
			choose(func(i int) bool { return mask>>i&1 == 1 })
		}
		return all
	}
	for at := range n {
		choose(func(i int) bool { return i != at })
		choose(func(i int) bool { return i == at })
		choose(func(i int) bool { return i < at })
	}
	choose(func(i int) bool { return true })
	for range 20 {
		choose(func(i int) bool { return r.Intn(2) == 0 })
	}
	return all
}

// Whichever operation fails, and whichever pending writes survive.
func TestP15_4WhicheverWritesSurvive(t *testing.T) {
	r := rand.New(rand.NewSource(17))
	for seed := range int64(4) {
		fails, lost := 0, 0
		for n := 1; ; n++ {
			d, p := failed(t, seed, n, []int{12, 24, 60, 9}[seed])
			if d == nil {
				break
			}
			fails++
			for _, keep := range keeps(r, d.Pending()) {
				e, q := d.Copy(), *p
				e.Up(keep...)
				s, why := Load(e)
				must(t, why)
				q.load(t, s)
				lost += p.commits() - q.commits()
			}
			if t.Failed() {
				t.Fatal(seed, n)
			}
		}
		if fails < 60 || lost < 100 {
			t.Error(seed, fails, lost)
		}
	}
}

// Nothing is lost if all writes survive.
func TestP15_4AllWritesSurvive(t *testing.T) {
	for n := 1; ; n++ {
		d, p := failed(t, 1, n, 24)
		if d == nil {
			break
		}
		keep := make([]bool, d.Pending())
		for i := range keep {
			keep[i] = true
		}
		d.Up(keep...)
		s, why := Load(d)
		must(t, why)
		isModel(t, s, p.newest())
	}
}

// The disk fails any number of times, also while the store is loaded, and the
// store is used on after each failure.
func TestP15_4AnyNumberOfFailures(t *testing.T) {
	for seed := range int64(10) {
		d, s := formatted(t, 24, 10+4*int(seed))
		u := using(100 + seed)
		fails := 0
		for range 400 {
			if u.r.Intn(10) == 0 {
				d.Arm(u.r.Intn(25))
			}
			why := u.step(t, s)
			if why == api.ErrDown != d.Down() && why != api.ErrQuota && why != api.ErrDisk && why != api.ErrJournal {
				t.Fatal(seed, why)
			}
			if d.Down() || u.r.Intn(40) == 0 {
				fails++
				s = u.reload(t, d)
			}
			if t.Failed() {
				t.Fatal(seed)
			}
		}
		if fails < 20 || u.commits() < 50 {
			t.Error(seed, fails, u.commits())
		}
	}
}

// reload restarts the disk, and loads it until this succeeds.
func (u *user) reload(t *testing.T, d *disk.Disk) *Store {
	t.Helper()
	for {
		keep := make([]bool, d.Pending())
		for i := range keep {
			keep[i] = u.r.Intn(3) > 0
		}
		d.Up(keep...)
		if u.r.Intn(3) > 0 {
			d.Arm(1 + u.r.Intn(12))
		}
		s, why := Load(d)
		if why == api.OK {
			u.load(t, s)
			return s
		}
		if s != nil || why != api.ErrDown {
			t.Fatal(s, why)
		}
	}
}

// Aborts and transactions for which there is no space leave no page behind.
func TestP15_4NoPageIsLost(t *testing.T) {
	_, s := formatted(t, 12, 6)
	u := using(18)
	kinds := map[api.Errno]int{}
	for range 1500 {
		kinds[u.step(t, s)]++
		if t.Failed() {
			t.Fatal(kinds)
		}
	}
	for _, why := range []api.Errno{api.OK, api.ErrQuota, api.ErrDisk, api.ErrJournal} {
		if kinds[why] < 20 {
			t.Error(kinds)
		}
	}
	for k := range u.newest() {
		do(t, s, func(x *Tx) { unset(x, k) })
	}
	if why := s.Check(nil); why != api.OK || s.Free() != 10 {
		t.Error(why, s.Free())
	}
}
