package pages

import (
	"math/rand"
	"slices"
	"testing"

	"wharfage/api"
	"wharfage/disk"
	"wharfage/journal"
)

// past is what a user of a store remembers: the pages after each commit, and
// how many commits are known to be flushed.
type past struct {
	states  [][]string
	flushed int
}

func begun(n int) *past {
	return &past{states: [][]string{slices.Repeat([]string{noughts}, n)}}
}

func (p *past) commits() int { return len(p.states) - 1 }

func (p *past) commit(l []journal.Image) {
	next := slices.Clone(p.states[p.commits()])
	for _, x := range l {
		next[x.Page] = x.Text
	}
	p.states = append(p.states, next)
}

// load requires that the pages are those after a prefix of all commits, which
// has the flushed ones, and forgets the others.
func (p *past) load(t *testing.T, s *Store) {
	t.Helper()
	got := contents(t, s)
	for m := p.commits(); m >= p.flushed; m-- {
		if slices.Equal(p.states[m], got) {
			p.states = p.states[:m+1]
			p.flushed = m
			return
		}
	}
	t.Fatalf("not a prefix of %d commits with %d of them", p.commits(), p.flushed)
}

// unique returns a page that no other commit has, or zero bytes at times.
func unique(serial, page int) string {
	if (serial+page)%7 == 3 {
		return noughts
	}
	b := []byte(noughts)
	b[0], b[1], b[2], b[479] = byte(serial>>8), byte(serial), byte(page), 1
	return string(b)
}

// plan is a fixed sequence of calls: a list of pages is a commit of them, an
// empty one a flush, and a nil one a checkpoint.
var plan = [][]int{
	{1, 2}, {}, {2, 3, 7}, {5}, nil, {1}, {1, 2, 3}, {}, {0, 6}, {4}, {5, 1}, {7}, nil, {}, {2}, {3, 2},
}

// perform performs a plan until the disk fails.
func perform(s *Store, p *past, plan [][]int) api.Errno {
	for i, l := range plan {
		why := api.OK
		epoch, before := s.Epoch(), p.commits()
		switch {
		case l == nil:
			why = s.Checkpoint()
		case len(l) == 0:
			why = s.Flush()
		default:
			var images []journal.Image
			for _, page := range l {
				images = append(images, journal.Image{Page: page, Text: unique(i, page)})
			}
			if why = s.Commit(images...); why == api.OK {
				p.commit(images)
			}
		}
		if why == api.OK && len(l) == 0 || s.Epoch() > epoch {
			p.flushed = before // all that was there before this call
		}
		if why != api.OK {
			return why
		}
	}
	return api.OK
}

// failed returns a disk of which the plan's n-th operation failed, or nil if
// the plan has fewer ones.
func failed(t *testing.T, n, size int) (*disk.Disk, *past) {
	t.Helper()
	d, s := formatted(t, 8, size)
	p := begun(8)
	d.Arm(n)
	switch why := perform(s, p, plan); {
	case why == api.OK && !d.Down():
		return nil, p
	case why != api.ErrDown:
		t.Fatal(why)
	}
	return d, p
}

func masked(mask, n int) []bool {
	keep := make([]bool, n)
	for i := range n {
		keep[i] = mask>>i&1 == 1
	}
	return keep
}

// Whichever operation fails, and whichever pending writes survive.
func TestP9_4WhicheverWritesSurvive(t *testing.T) {
	for size := 4; size <= 9; size++ {
		fails := 0
		for n := 1; ; n++ {
			d, p := failed(t, n, size)
			if d == nil {
				break
			}
			fails++
			for mask := range 1 << d.Pending() {
				e, q := d.Copy(), *p
				e.Up(masked(mask, e.Pending())...)
				q.load(t, loaded(t, e))
			}
			if t.Failed() {
				t.Fatal(size, n)
			}
		}
		if fails < 30 {
			t.Error(size, "the plan has few operations", fails)
		}
	}
}

// Nothing fails, or all that was written survives: then no commit is lost.
func TestP9_4NothingIsLostIfAllWritesSurvive(t *testing.T) {
	for n := 1; ; n++ {
		d, p := failed(t, n, 5)
		if d == nil {
			break
		}
		d.Up(all(d.Pending())...)
		if s := loaded(t, d); !slices.Equal(contents(t, s), p.states[p.commits()]) {
			t.Error(n)
		}
	}
}

// The disk fails again while the store is loaded, at each operation, three
// times in a row.
func TestP9_4FailuresWhileLoading(t *testing.T) {
	keeps := []func(n int) []bool{
		all,
		func(n int) []bool { return nil },
		func(n int) []bool { return masked(0x5555, n) },
		func(n int) []bool { return masked(0xaaaa, n) },
		func(n int) []bool { return masked(1<<n>>1, n) },
		func(n int) []bool { return masked(1<<n>>1-1, n) },
	}
	for n := 1; ; n++ {
		d, p := failed(t, n, 6)
		if d == nil {
			break
		}
		for first := range keeps {
			for again := 1; again < 9; again++ {
				e, q := d.Copy(), *p
				for i := range 3 {
					e.Up(keeps[(first+i)%len(keeps)](e.Pending())...)
					e.Arm(again)
					if s, why := Load(e); why == api.OK {
						q.load(t, s)
					} else if s != nil || why != api.ErrDown {
						t.Fatal(why)
					}
				}
				e.Up(keeps[first](e.Pending())...)
				q.load(t, loaded(t, e))
			}
		}
	}
}

// user is a store and what its user remembers.
type user struct {
	*past
	r      *rand.Rand
	d      *disk.Disk
	s      *Store
	size   int
	serial int
	model  numbers
	dirty  map[int]bool
}

func (u *user) some() []journal.Image {
	var l []journal.Image
	u.serial++
	for _, page := range u.r.Perm(8)[:1+u.r.Intn(6)] {
		l = append(l, journal.Image{Page: page, Text: unique(u.serial, page)})
	}
	return l
}

// checkpointed has the model perform a checkpoint.
func (u *user) checkpointed() {
	u.flushed = u.commits()
	u.model.epoch++
	u.model.room, u.model.waiting = u.size, 0
	clear(u.dirty)
}

// commit performs one. It returns its error, and the one that the document
// requires if the disk does not fail.
func (u *user) commit() (api.Errno, api.Errno) {
	l := u.some()
	why := u.s.Commit(l...)
	if len(l) >= u.size {
		return why, api.ErrJournal
	}
	if len(l) >= u.model.room && (why == api.OK || u.s.Epoch() > u.model.epoch) {
		u.checkpointed()
	}
	if why == api.OK {
		u.past.commit(l)
		u.model.room -= len(l) + 1
		u.model.waiting++
		for _, x := range l {
			u.dirty[x.Page] = true
		}
	}
	return why, api.OK
}

func (u *user) flush() (api.Errno, api.Errno) {
	why := u.s.Flush()
	if why == api.OK {
		u.flushed = u.commits()
		u.model.waiting = 0
	}
	return why, api.OK
}

func (u *user) checkpoint() (api.Errno, api.Errno) {
	why := u.s.Checkpoint()
	if why == api.OK && len(u.dirty) > 0 {
		u.checkpointed()
	}
	return why, api.OK
}

// reload restarts the disk, and loads it until this succeeds.
func (u *user) reload(t *testing.T) {
	t.Helper()
	for {
		u.d.Up(masked(u.r.Int(), u.d.Pending())...)
		if u.r.Intn(3) > 0 {
			u.d.Arm(1 + u.r.Intn(10))
		}
		s, why := Load(u.d)
		if why == api.OK {
			u.s = s
			u.load(t, s)
			clear(u.dirty)
			u.model = numbers{pages: 8, room: u.size, epoch: s.Epoch()}
			return
		}
		if s != nil || why != api.ErrDown {
			t.Fatal(why)
		}
	}
}

// step performs a random call and compares the store with the model.
func (u *user) step(t *testing.T) {
	t.Helper()
	if u.r.Intn(12) == 0 {
		u.d.Arm(u.r.Intn(20))
	}
	call := []func() (api.Errno, api.Errno){u.commit, u.commit, u.commit, u.flush, u.checkpoint}[u.r.Intn(5)]
	got, want := call()
	if u.d.Down() && got == api.ErrDown {
		want = api.ErrDown
	}
	if got != want {
		t.Fatal(got, want)
	}
	u.model.fresh = len(u.dirty)
	counts(t, u.s, u.model)
	if !slices.Equal(contents(t, u.s), u.states[u.commits()]) {
		t.Fatal("other pages than committed")
	}
	if u.d.Down() || u.r.Intn(40) == 0 {
		u.reload(t)
	}
}

// Random calls and failures, any number of times, on one disk.
func TestP9_4RandomCallsAndFailures(t *testing.T) {
	for seed := range int64(60) {
		size := 4 + int(seed)%9
		d, s := formatted(t, 8, size)
		u := &user{past: begun(8), r: rand.New(rand.NewSource(seed)), d: d, s: s, size: size, dirty: map[int]bool{}}
		u.model = of(s)
		for range 300 {
			u.step(t)
		}
		if t.Failed() {
			t.Fatal(seed)
		}
	}
}
