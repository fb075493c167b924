package disk

import (
	"math"
	"slices"
	"strings"
	"testing"

	"wharfage/api"
)

// full is a sector that consists of one byte.
func full(c byte) string { return strings.Repeat(string([]byte{c}), 512) }

var blank, a, b, c = full(0), full('a'), full('b'), full('c')

// made returns a disk, on which steps are then performed that have to succeed.
func made(t *testing.T, n int, steps ...func(d *Disk) api.Errno) *Disk {
	t.Helper()
	d, why := New(n)
	if d == nil || why != api.OK {
		t.Fatal(n, why)
	}
	for i, step := range steps {
		if why := step(d); why != api.OK {
			t.Fatal(i, why)
		}
	}
	return d
}

func writing(i int, s string) func(d *Disk) api.Errno {
	return func(d *Disk) api.Errno { return d.Write(i, s) }
}

func flushing(d *Disk) api.Errno { return d.Flush() }

// reads fails if the sectors of a disk do not read like this.
func reads(t *testing.T, d *Disk, want ...string) {
	t.Helper()
	for i, s := range want {
		if got, why := d.Read(i); got != s || why != api.OK {
			t.Errorf("sector %d: %.1q %d", i, got, why)
		}
	}
}

func safe(t *testing.T, d *Disk, want ...string) {
	t.Helper()
	if got := d.Safe(); !slices.Equal(got, want) {
		t.Errorf("%d sectors: %.1q", len(got), got)
	}
}

func TestP7_1New(t *testing.T) {
	for _, n := range []int{math.MinInt, -4865, -1, 0, 4866, 4867, 1 << 32, 1<<32 + 1, math.MaxInt} {
		if d, why := New(n); d != nil || why != api.ErrArg {
			t.Error(n, d, why)
		}
	}
	for _, n := range []int{1, 2, 3, 4864, 4865} {
		d := made(t, n)
		if d.Len() != n || d.Pending() != 0 || d.Ops() != 0 || d.Down() {
			t.Error(n, d.Len(), d.Pending(), d.Ops(), d.Down())
		}
		l := slices.Repeat([]string{blank}, n)
		safe(t, d, l...)
		reads(t, d, l...)
	}
}

func TestP7_1NewIsNotArmed(t *testing.T) {
	d := made(t, 1)
	for i := range 100 {
		if d.Write(0, a) != api.OK || d.Flush() != api.OK {
			t.Fatal(i)
		}
	}
	if d.Ops() != 200 {
		t.Error(d.Ops())
	}
}

func TestP7_1Ops(t *testing.T) {
	d := made(t, 2, writing(0, a), flushing, flushing, writing(1, b))
	ops := func(want int64) {
		t.Helper()
		if got := d.Ops(); got != want {
			t.Error(got, want)
		}
	}
	ops(4)
	d.Read(0)
	d.Read(9)
	d.Write(2, a)
	d.Write(0, "a")
	d.Safe()
	d.Copy().Flush()
	ops(4)
	d.Arm(2)
	ops(4)
	d.Write(0, a)
	ops(5)
	d.Flush() // brings it down
	d.Flush()
	d.Write(0, a)
	ops(5)
	d.Up(true, true)
	ops(5)
	d.Flush()
	ops(6)
}

func TestP7_1Pending(t *testing.T) {
	d := made(t, 2)
	for i := range 300 {
		if d.Pending() != i {
			t.Fatal(i, d.Pending())
		}
		d.Write(0, a) // also if nothing changes
	}
	d.Write(0, "")
	d.Write(-1, a)
	if d.Pending() != 300 {
		t.Error(d.Pending())
	}
	d.Flush()
	if d.Pending() != 0 {
		t.Error(d.Pending())
	}
}

func TestP7_1Safe(t *testing.T) {
	d := made(t, 3, writing(1, a), flushing, writing(1, b), writing(2, c))
	safe(t, d, blank, a, blank)
	d.Arm(1)
	d.Flush()
	safe(t, d, blank, a, blank)
	d.Up(false, true)
	safe(t, d, blank, a, c)
}

func TestP7_1NilDisk(t *testing.T) {
	var d *Disk
	d.Arm(1)
	d.Arm(0)
	if d.Len() != 0 || d.Pending() != 0 || d.Ops() != 0 || d.Up() != 0 || d.Up(true, true) != 0 {
		t.Error("numbers")
	}
	if d.Safe() != nil || d.Copy() != nil {
		t.Error("lists and copies")
	}
	if !d.Down() {
		t.Error("it is down")
	}
	for _, i := range []int{math.MinInt, -1, 0, 1, math.MaxInt} {
		if s, why := d.Read(i); s != "" || why != api.ErrArg {
			t.Error(i, s, why)
		}
		if w, x := d.Write(i, a), d.Write(i, ""); w != api.ErrArg || x != api.ErrArg {
			t.Error(i, w, x)
		}
	}
	if why := d.Flush(); why != api.ErrArg {
		t.Error(why)
	}
}

func TestP7_1Copy(t *testing.T) {
	d := made(t, 2, writing(0, a), flushing, writing(0, b), writing(1, c))
	e := d.Copy()
	safe(t, e, a, blank)
	reads(t, e, b, c)
	if e.Len() != 2 || e.Pending() != 2 || e.Ops() != 4 || e.Down() {
		t.Error(e.Len(), e.Pending(), e.Ops(), e.Down())
	}
	d.Write(0, c)
	e.Write(0, a)
	reads(t, d, c, c)
	reads(t, e, a, c)
	d.Flush()
	safe(t, d, c, c)
	safe(t, e, a, blank)
	if e.Up(true) != 1 || d.Pending() != 0 {
		t.Error(d.Pending())
	}
	safe(t, d, c, c)
	safe(t, e, b, blank)
}

// Lists that shared memory would be told apart only where it has room left.
func TestP7_1CopyOfAnyNumberOfWrites(t *testing.T) {
	d := made(t, 1)
	for i := range 40 {
		e := d.Copy()
		d.Write(0, a)
		e.Write(0, b)
		reads(t, d, a)
		reads(t, e, b)
		if d.Pending() != i+1 || e.Pending() != i+1 {
			t.Error(i, d.Pending(), e.Pending())
		}
	}
}

func TestP7_1CopyIsArmedToo(t *testing.T) {
	d := made(t, 1)
	d.Arm(3)
	d.Write(0, a)
	e := d.Copy()
	d.Arm(0)
	if e.Write(0, b) != api.OK || e.Flush() != api.ErrDown || !e.Down() {
		t.Error("the copy goes down as the disk would have done")
	}
	f := e.Copy()
	if !f.Down() || f.Pending() != 2 {
		t.Error("a copy of it is down too")
	}
	f.Up()
	if f.Down() || !e.Down() || d.Down() || d.Flush() != api.OK {
		t.Error("each is down for itself")
	}
}

// calls performs n calls of Write or Flush and returns how many succeeded.
func calls(d *Disk, n int) int {
	done := 0
	for i := range n {
		why := api.OK
		if i%3 == 2 {
			why = d.Flush()
		} else {
			why = d.Write(0, a)
		}
		if why == api.OK {
			done++
		}
	}
	return done
}

func TestP7_2ArmAtTheNthCall(t *testing.T) {
	for n := 1; n < 20; n++ {
		for before := range 4 {
			d := made(t, 1)
			calls(d, before)
			d.Arm(n)
			if got := calls(d, n-1); got != n-1 || d.Down() {
				t.Error(n, got, d.Down())
			}
			d.Read(0)
			d.Read(1)
			d.Write(0, "")
			d.Write(1, a)
			if d.Down() {
				t.Error(n, "other calls are not counted")
			}
			if got := calls(d, 10); got != 0 || !d.Down() {
				t.Error(n, got, d.Down())
			}
		}
	}
}

func TestP7_2ArmBelowOneDisarms(t *testing.T) {
	for _, n := range []int{0, -1, -2, math.MinInt} {
		d := made(t, 1)
		d.Arm(n)
		if got := calls(d, 50); got != 50 {
			t.Error(n, got)
		}
		d.Arm(3)
		calls(d, 2)
		d.Arm(n)
		if got := calls(d, 50); got != 50 || d.Down() {
			t.Error(n, got)
		}
	}
}

func TestP7_2ArmAgain(t *testing.T) {
	for n := 1; n < 6; n++ {
		for _, first := range []int{1, 2, 5, 9, math.MaxInt} {
			d := made(t, 1)
			d.Arm(first)
			d.Arm(n)
			if got := calls(d, 20); got != n-1 {
				t.Error(first, n, got)
			}
		}
	}
	d := made(t, 1)
	d.Arm(math.MaxInt)
	if got := calls(d, 100); got != 100 || d.Down() {
		t.Error(got)
	}
}

func TestP7_2GoingDownHasNoOtherEffect(t *testing.T) {
	for _, step := range []func(d *Disk) api.Errno{flushing, writing(0, c), writing(1, c)} {
		d := made(t, 2, writing(0, a), flushing, writing(0, b))
		d.Arm(1)
		if why := step(d); why != api.ErrDown || !d.Down() {
			t.Error(why)
		}
		if d.Pending() != 1 || d.Ops() != 3 || d.Len() != 2 {
			t.Error(d.Pending(), d.Ops(), d.Len())
		}
		safe(t, d, a, blank)
		if n := d.Copy().Up(true, true); n != 1 {
			t.Error(n)
		}
		if n := d.Up(); n != 0 {
			t.Error(n)
		}
		reads(t, d, a, blank)
	}
}

func TestP7_2WhileDown(t *testing.T) {
	d := made(t, 2, writing(0, a), flushing, writing(0, b))
	d.Arm(1)
	d.Flush()
	for range 3 {
		for _, i := range []int{math.MinInt, -1, 0, 1, 2, math.MaxInt} {
			if s, why := d.Read(i); s != "" || why != api.ErrDown {
				t.Error(i, why)
			}
			want := api.ErrArg
			if i == 0 || i == 1 {
				want = api.ErrDown
			}
			if why := d.Write(i, c); why != want {
				t.Error(i, why)
			}
			if why := d.Write(i, c[1:]); why != api.ErrArg {
				t.Error(i, why)
			}
		}
		if why := d.Flush(); why != api.ErrDown {
			t.Error(why)
		}
		d.Arm(0) // does not bring it up
		if !d.Down() || d.Pending() != 1 || d.Ops() != 3 {
			t.Error(d.Down(), d.Pending(), d.Ops())
		}
		safe(t, d, a, blank)
		d.Arm(7)
	}
	if n := d.Up(true); n != 1 {
		t.Error(n)
	}
	reads(t, d, b, blank)
}

func TestP7_2DownWithoutArming(t *testing.T) {
	d := made(t, 1)
	if d.Down() {
		t.Error("a new disk is up")
	}
	d.Arm(2)
	if d.Down() {
		t.Error("an armed disk is up")
	}
}

func TestP7_3ReadWhatWasWrittenLast(t *testing.T) {
	d := made(t, 3, writing(0, a), writing(1, a), writing(0, b))
	reads(t, d, b, a, blank)
	d.Write(1, c)
	reads(t, d, b, c, blank)
	d.Flush()
	reads(t, d, b, c, blank)
	d.Write(0, blank)
	reads(t, d, blank, c, blank)
	d.Write(0, a)
	d.Write(2, b)
	reads(t, d, a, c, b)
}

func TestP7_3AllBytes(t *testing.T) {
	every := make([]byte, 512)
	for i := range every {
		every[i] = byte(i)
	}
	d := made(t, 1, writing(0, string(every)))
	reads(t, d, string(every))
	d.Flush()
	reads(t, d, string(every))
	safe(t, d, string(every))
}

func TestP7_3SectorsThatDoNotExist(t *testing.T) {
	for _, n := range []int{1, 2, 4865} {
		d := made(t, n)
		for _, i := range []int{math.MinInt, -n, -1, n, n + 1, math.MaxInt} {
			if s, why := d.Read(i); s != "" || why != api.ErrArg {
				t.Error(n, i, why)
			}
			if why := d.Write(i, a); why != api.ErrArg {
				t.Error(n, i, why)
			}
		}
		if d.Pending() != 0 || d.Write(n-1, a) != api.OK || d.Write(0, b) != api.OK {
			t.Error(n, d.Pending())
		}
	}
}

func TestP7_3OtherLengths(t *testing.T) {
	d := made(t, 1)
	for _, n := range []int{0, 1, 480, 511, 513, 1024, 1 << 20} {
		if why := d.Write(0, strings.Repeat("a", n)); why != api.ErrArg {
			t.Error(n, why)
		}
	}
	reads(t, d, blank)
}

func TestP7_3FlushInOrder(t *testing.T) {
	d := made(t, 2, writing(0, a), writing(1, b), writing(0, b), writing(1, a), writing(0, c))
	safe(t, d, blank, blank)
	if why := d.Flush(); why != api.OK || d.Pending() != 0 {
		t.Error(why, d.Pending())
	}
	safe(t, d, c, a)
	if d.Up() != 0 {
		t.Error("nothing was pending")
	}
	reads(t, d, c, a)
}

func TestP7_4UpExamples(t *testing.T) {
	for _, x := range []struct {
		keep []bool
		n    int
		want [2]string
	}{
		{nil, 0, [2]string{a, blank}},
		{[]bool{}, 0, [2]string{a, blank}},
		{[]bool{false, false, false}, 0, [2]string{a, blank}},
		{[]bool{true}, 1, [2]string{b, blank}},
		{[]bool{false, true}, 1, [2]string{a, b}},
		{[]bool{false, false, true}, 1, [2]string{c, blank}},
		{[]bool{true, true}, 2, [2]string{b, b}},
		{[]bool{true, false, true}, 2, [2]string{c, blank}},
		{[]bool{true, true, true}, 3, [2]string{c, b}},
		{[]bool{true, true, true, true, true}, 3, [2]string{c, b}},
		{[]bool{false, false, false, true, true}, 0, [2]string{a, blank}},
	} {
		for _, arm := range []int{0, 1, 5} {
			d := made(t, 2, writing(0, a), flushing, writing(0, b), writing(1, b), writing(0, c))
			d.Arm(arm)
			if arm == 1 {
				d.Flush()
			}
			if got := d.Up(x.keep...); got != x.n || d.Down() || d.Pending() != 0 || d.Ops() != 5 {
				t.Error(x.keep, arm, got, d.Down(), d.Pending(), d.Ops())
			}
			safe(t, d, x.want[:]...)
			reads(t, d, x.want[:]...)
			if got := calls(d, 20); got != 20 {
				t.Error(x.keep, arm, got, "it is still armed")
			}
		}
	}
}

func TestP7_4UpAgain(t *testing.T) {
	d := made(t, 1, writing(0, a))
	if d.Up(true) != 1 || d.Up(true) != 0 || d.Up() != 0 {
		t.Error("each write is kept or lost once")
	}
	d.Write(0, b)
	if d.Up(false) != 0 || d.Up(true) != 0 {
		t.Error("a lost write does not return")
	}
	reads(t, d, a)
}

// model is a disk as the log of all its writes, of which some are lost.
type model struct {
	log   []entry
	armed int // how many more calls succeed, if it is armed
	bomb  bool
	down  bool
	ops   int64
}

type entry struct {
	at   int
	text string
	fate int
}

const (
	waiting = iota
	lost
	durable
)

const small = 2 // sectors of the disks that are compared with models

func (m *model) contents(i int, counts func(fate int) bool) string {
	text := blank
	for _, e := range m.log {
		if e.at == i && counts(e.fate) {
			text = e.text
		}
	}
	return text
}

func (m *model) read(i int) (string, api.Errno) {
	switch {
	case m.down:
		return "", api.ErrDown
	case i < 0 || i >= small:
		return "", api.ErrArg
	}
	return m.contents(i, func(fate int) bool { return fate != lost }), api.OK
}

func (m *model) safe() []string {
	var l []string
	for i := range small {
		l = append(l, m.contents(i, func(fate int) bool { return fate == durable }))
	}
	return l
}

func (m *model) pending() int {
	n := 0
	for _, e := range m.log {
		if e.fate == waiting {
			n++
		}
	}
	return n
}

// call counts a call of Write or Flush.
func (m *model) call() api.Errno {
	switch {
	case m.down:
		return api.ErrDown
	case m.bomb && m.armed == 0:
		m.down = true
		return api.ErrDown
	}
	m.armed--
	m.ops++
	return api.OK
}

func (m *model) write(i int, s string) api.Errno {
	if i < 0 || i >= small || len(s) != 512 {
		return api.ErrArg
	}
	why := m.call()
	if why == api.OK {
		m.log = append(slices.Clone(m.log), entry{i, s, waiting})
	}
	return why
}

func (m *model) flush() api.Errno {
	why := m.call()
	if why == api.OK {
		m.decide(slices.Repeat([]bool{true}, m.pending()))
	}
	return why
}

func (m *model) decide(keep []bool) int {
	m.log = slices.Clone(m.log)
	kept := 0
	for i, e := range m.log {
		if e.fate != waiting {
			continue
		}
		m.log[i].fate = lost
		if len(keep) > 0 && keep[0] {
			m.log[i].fate = durable
			kept++
		}
		if len(keep) > 0 {
			keep = keep[1:]
		}
	}
	return kept
}

func (m *model) arm(n int) {
	m.bomb, m.armed = n >= 1, n-1
}

func (m *model) up(keep []bool) int {
	m.down, m.bomb = false, false
	return m.decide(keep)
}

// same reports whether a disk and a model cannot be told apart by looking.
func same(d *Disk, m *model) bool {
	for i := -1; i <= small; i++ {
		s, why := d.Read(i)
		if x, no := m.read(i); s != x || why != no {
			return false
		}
	}
	return d.Len() == small && d.Pending() == m.pending() && d.Ops() == m.ops && d.Down() == m.down && slices.Equal(d.Safe(), m.safe())
}

// act performs one thing on both and reports whether the results are equal.
type act struct {
	name string
	do   func(d *Disk, m *model) bool
}

func acts() []act {
	var l []act
	write := func(name string, i int, s string) {
		l = append(l, act{name, func(d *Disk, m *model) bool { return d.Write(i, s) == m.write(i, s) }})
	}
	arm := func(name string, n int) {
		l = append(l, act{name, func(d *Disk, m *model) bool { d.Arm(n); m.arm(n); return true }})
	}
	up := func(name string, keep ...bool) {
		l = append(l, act{name, func(d *Disk, m *model) bool { return d.Up(keep...) == m.up(keep) }})
	}
	write("write 0 a", 0, a)
	write("write 0 b", 0, b)
	write("write 1 c", 1, c)
	write("write 2 a", 2, a)
	l = append(l, act{"flush", func(d *Disk, m *model) bool { return d.Flush() == m.flush() }})
	arm("arm 0", 0)
	arm("arm 1", 1)
	arm("arm 2", 2)
	up("up")
	up("up +", true)
	up("up -+++", false, true, true, true)
	return l
}

// visit tries all sequences of so many acts, each on a copy of the disk.
func visit(t *testing.T, d *Disk, m model, depth int, path ...string) {
	if depth == 0 || t.Failed() {
		return
	}
	for _, x := range acts() {
		e, f := d.Copy(), m
		here := append(slices.Clone(path), x.name)
		if !x.do(e, &f) || !same(e, &f) {
			t.Errorf("%q", here)
		}
		visit(t, e, f, depth-1, here...)
		if !same(d, &m) {
			t.Errorf("%q changed the disk of which it was a copy", here)
		}
	}
}

func TestP7_1to4AllSequencesOfActs(t *testing.T) {
	visit(t, made(t, small), model{}, 5)
}

// journeys has lists of writes, by their sectors, with flushes (-1) between them.
var journeys = [][]int{
	{0, 0, 1},
	{0, 1, -1, 0, 0, 1, 2},
	{-1, 2, 2, -1, -1, 1, 0, 2, 1},
	{0, 1, 2, -1, 2, 1, 0, 2, 1, 0, -1, 0, 1},
}

// travel performs a journey: each write has contents of its own. It returns
// for each sector what it may contain after a failure: what was durable, and
// what was written since.
func travel(d *Disk, journey []int) [3][]string {
	may := [3][]string{{blank}, {blank}, {blank}}
	for i, at := range journey {
		s := full(byte(i + 1))
		switch {
		case at >= 0 && d.Write(at, s) == api.OK:
			may[at] = append(may[at], s)
		case at < 0 && d.Flush() == api.OK:
			for j := range may {
				may[j] = may[j][len(may[j])-1:]
			}
		}
	}
	return may
}

func TestP7_5Durability(t *testing.T) {
	for _, journey := range journeys {
		for arm := range len(journey) + 2 {
			d := made(t, 3)
			d.Arm(arm)
			may := travel(d, journey)
			n := d.Pending()
			for mask := range 1 << n {
				e := d.Copy()
				keep := make([]bool, n)
				for i := range keep {
					keep[i] = mask>>i&1 == 1
				}
				e.Up(keep...)
				for i := range 3 {
					if s, why := e.Read(i); why != api.OK || !slices.Contains(may[i], s) {
						t.Error(journey, arm, keep, i, why)
					}
				}
			}
		}
	}
}

func TestP7_5EachLaterWriteMaySurvive(t *testing.T) {
	d := made(t, 3)
	may := travel(d, []int{0, -1, 0, 1, 0, 0})
	for k, s := range may[0] {
		e := d.Copy()
		keep := []bool{false, false, false, false}
		if k > 0 {
			keep[[]int{0, 2, 3}[k-1]] = true
		}
		e.Up(keep...)
		reads(t, e, s, blank, blank)
	}
}

func TestP1_DisksThatNewDidNotCreate(t *testing.T) {
	var d Disk
	d.Arm(1)
	if d.Len() != 0 || d.Pending() != 0 || d.Ops() != 0 || len(d.Safe()) != 0 || d.Copy() == nil {
		t.Error("it has no sectors")
	}
	if _, why := d.Read(0); why != api.ErrArg {
		t.Error(why)
	}
	if d.Write(0, a) != api.ErrArg || d.Flush() != api.ErrDown || d.Up(true) != 0 {
		t.Error("it fails like any other")
	}
}

func TestP2_DisksAreIndependent(t *testing.T) {
	d, e := made(t, 1, writing(0, a)), made(t, 1)
	d.Flush()
	d.Arm(1)
	d.Flush()
	if e.Down() || e.Ops() != 0 || e.Pending() != 0 {
		t.Error(e.Down(), e.Ops(), e.Pending())
	}
	safe(t, e, blank)
}

func TestRulesArgumentsAreKept(t *testing.T) {
	d := made(t, 1, writing(0, a), writing(0, b))
	keep := []bool{true, false, true}
	d.Up(keep...)
	if !slices.Equal(keep, []bool{true, false, true}) {
		t.Error(keep)
	}
}

func TestRulesResultsAreNew(t *testing.T) {
	d := made(t, 2, writing(0, a), flushing)
	l := d.Safe()
	l[0], l[1] = b, c
	safe(t, d, a, blank)
	reads(t, d, a, blank)
	m := d.Safe()
	d.Write(0, c)
	d.Flush()
	if !slices.Equal(m, []string{a, blank}) {
		t.Error("an earlier result changed")
	}
}
