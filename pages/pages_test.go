package pages

import (
	"math"
	"slices"
	"strings"
	"testing"

	"wharfage/api"
	"wharfage/disk"
	"wharfage/journal"
	"wharfage/sector"
)

var noughts = strings.Repeat("\x00", 480)

// junk is no sector.
var junk = strings.Repeat("\xa5", 512)

func text(c byte) string { return strings.Repeat(string([]byte{c}), 480) }

func img(page int, c byte) journal.Image { return journal.Image{Page: page, Text: text(c)} }

// run returns images of the first k pages.
func run(k int, c byte) []journal.Image {
	var l []journal.Image
	for i := range k {
		l = append(l, img(i, c))
	}
	return l
}

func must(t *testing.T, why api.Errno) {
	t.Helper()
	if why != api.OK {
		t.Fatal(why)
	}
}

func newDisk(t *testing.T, n int) *disk.Disk {
	t.Helper()
	d, why := disk.New(n)
	must(t, why)
	return d
}

func formatted(t *testing.T, pages, size int) (*disk.Disk, *Store) {
	t.Helper()
	d := newDisk(t, 1+size+pages)
	s, why := Format(d, pages, size)
	if s == nil || why != api.OK {
		t.Fatal(pages, size, why)
	}
	return d, s
}

func loaded(t *testing.T, d *disk.Disk) *Store {
	t.Helper()
	s, why := Load(d)
	if s == nil || why != api.OK {
		t.Fatal(why)
	}
	return s
}

func broken(t *testing.T, d *disk.Disk) {
	t.Helper()
	d.Arm(1)
	d.Flush()
	if !d.Down() {
		t.Fatal("it is up")
	}
}

func all(n int) []bool { return slices.Repeat([]bool{true}, n) }

func sealed(t *testing.T, s sector.Sector) string {
	t.Helper()
	b, why := sector.Seal(s)
	must(t, why)
	return b
}

func headSector(epoch uint64, pages, size int) sector.Sector {
	return sector.Sector{Kind: 1, Epoch: epoch, Number: 0, At: pages, Many: size, Page: noughts}
}

func homeSector(page int, text string) sector.Sector {
	return sector.Sector{Kind: 4, At: page, Page: text}
}

// contents returns all pages of a store.
func contents(t *testing.T, s *Store) []string {
	t.Helper()
	var l []string
	for i := range s.Pages() {
		x, why := s.Read(i)
		if why != api.OK || len(x) != 480 {
			t.Fatal(i, why, len(x))
		}
		l = append(l, x)
	}
	return l
}

// has fails if the pages of a store do not begin with these bytes, and consist
// of them; further ones consist of zero bytes.
func has(t *testing.T, s *Store, want ...byte) {
	t.Helper()
	for i, x := range contents(t, s) {
		c := byte(0)
		if i < len(want) {
			c = want[i]
		}
		if x != text(c) {
			t.Errorf("page %d: %.1q instead of %q", i, x, c)
		}
	}
}

type numbers struct {
	pages, room, waiting, fresh int
	epoch                       uint64
}

func of(s *Store) numbers {
	return numbers{s.Pages(), s.Room(), s.Waiting(), s.Fresh(), s.Epoch()}
}

func counts(t *testing.T, s *Store, want numbers) {
	t.Helper()
	if got := of(s); got != want {
		t.Errorf("%v instead of %v", got, want)
	}
}

// op is an operation of a disk: a write to a sector, or a flush.
type op struct {
	at   int
	text string
}

const (
	flush = -1
	same  = -2 // a write that changes nothing: where it goes is not seen
)

// traced returns the operations that a function performs on a disk. It is
// performed again and again, and the disk fails at each of them.
func traced(t *testing.T, prepare func() (*disk.Disk, func() api.Errno)) []op {
	t.Helper()
	var l []op
	d, _ := prepare()
	pending := d.Pending()
	for n := 1; ; n++ {
		d, act := prepare()
		d.Arm(n)
		why := act()
		if d.Down() && why != api.ErrDown {
			t.Fatal(n, why)
		}
		if n > 1 && d.Pending() == pending+1 {
			l = append(l, lastWrite(d))
		} else if n > 1 {
			l = append(l, op{at: flush})
		}
		pending = d.Pending()
		if !d.Down() {
			must(t, why)
			return l
		}
	}
}

// lastWrite returns the most recent pending write of a disk.
func lastWrite(d *disk.Disk) op {
	c := d.Copy()
	before := c.Safe()
	keep := make([]bool, c.Pending())
	keep[len(keep)-1] = true
	c.Up(keep...)
	for i, b := range c.Safe() {
		if b != before[i] {
			return op{at: i, text: b}
		}
	}
	return op{at: same}
}

func sameOps(t *testing.T, got, want []op) {
	t.Helper()
	if slices.Equal(got, want) {
		return
	}
	for i := range max(len(got), len(want)) {
		switch {
		case i >= len(got):
			t.Errorf("operation %d: none instead of %d", i, want[i].at)
		case i >= len(want):
			t.Errorf("operation %d: %d instead of none", i, got[i].at)
		case got[i] != want[i]:
			t.Errorf("operation %d: %d instead of %d", i, got[i].at, want[i].at)
		}
	}
}

func TestP9_1Size(t *testing.T) {
	counts := []int{math.MinInt, -8, -1, 0, 1, 3, 4, 5, 7, 8, 9, 1023, 1024, 1025, 3839, 3840, 3841, 65535, 65536, 1 << 32, math.MaxInt}
	for _, pages := range counts {
		for _, size := range counts {
			n, why := Size(pages, size)
			if pages >= 8 && pages <= 3840 && size >= 4 && size <= 1024 {
				if n != 1+pages+size || why != api.OK {
					t.Error(pages, size, n, why)
				}
			} else if n != 0 || why != api.ErrArg {
				t.Error(pages, size, n, why)
			}
		}
	}
}

func TestP9_1FormatRejects(t *testing.T) {
	for _, c := range []struct{ n, pages, size int }{
		{12, 7, 4}, {12, 8, 3}, {13, 8, 3}, {13, 9, 3}, {13, 7, 5}, {14, 8, 4}, {12, 8, 4}, {1, 8, 4}, {4865, 8, 4},
		{4865, 3841, 1023}, {4865, 3839, 1025}, {4865, 3840, 1023}, {4864, 3840, 1024}, {4865, 4860, 4},
		{13, -8, 20}, {13, 20, -8}, {1, 0, 0}, {13, 4, 8}, {13, math.MaxInt, math.MinInt}, {13, math.MinInt, math.MaxInt},
	} {
		for _, down := range []bool{false, true} {
			d := newDisk(t, c.n)
			if down {
				broken(t, d)
			}
			if s, why := Format(d, c.pages, c.size); s != nil || why != api.ErrArg {
				t.Error(c, why)
			}
			if d.Ops() != 0 {
				t.Error(c, "it was written to")
			}
		}
		if s, why := Format(nil, c.pages, c.size); s != nil || why != api.ErrArg {
			t.Error(c, why)
		}
	}
	if s, why := Format(nil, 8, 4); s != nil || why != api.ErrArg {
		t.Error(why)
	}
}

func TestP9_1FormatMakesAStoreOfZeroBytes(t *testing.T) {
	for _, c := range []struct{ pages, size int }{{8, 4}, {9, 4}, {8, 5}, {3840, 1024}, {3840, 4}, {8, 1024}} {
		d, s := formatted(t, c.pages, c.size)
		counts(t, s, numbers{pages: c.pages, room: c.size, epoch: 1})
		has(t, s)
		if d.Pending() != 0 {
			t.Error(c, d.Pending())
		}
		want := slices.Repeat([]string{sector.Blank()}, 1+c.size+c.pages)
		want[0] = sealed(t, headSector(1, c.pages, c.size))
		if !slices.Equal(d.Safe(), want) {
			t.Error(c, "other sectors")
		}
		d.Up()
		u := loaded(t, d)
		counts(t, u, numbers{pages: c.pages, room: c.size, epoch: 2})
		has(t, u)
	}
}

// used returns a disk whose sectors have to be changed, with a pending write.
func used(t *testing.T, n int) *disk.Disk {
	t.Helper()
	d := newDisk(t, n)
	for i := range n {
		must(t, d.Write(i, junk))
	}
	must(t, d.Flush())
	must(t, d.Write(n-1, strings.Repeat("p", 512)))
	return d
}

func TestP9_1FormatSteps(t *testing.T) {
	got := traced(t, func() (*disk.Disk, func() api.Errno) {
		d := used(t, 14)
		return d, func() api.Errno {
			s, why := Format(d, 9, 4)
			if (s == nil) != (why != api.OK) {
				t.Error("a store or an error")
			}
			return why
		}
	})
	var want []op
	for i := 1; i < 14; i++ {
		want = append(want, op{at: i, text: sector.Blank()})
	}
	sameOps(t, got, append(want, op{at: flush}, op{at: 0, text: sealed(t, headSector(1, 9, 4))}, op{at: flush}))
}

func TestP9_1FormatAgain(t *testing.T) {
	d, s := formatted(t, 8, 5)
	must(t, s.Commit(img(1, 'a'), img(7, 'b')))
	must(t, s.Checkpoint())
	must(t, s.Commit(img(2, 'c')))
	must(t, s.Flush())
	u, why := Format(d, 9, 4)
	must(t, why)
	counts(t, u, numbers{pages: 9, room: 4, epoch: 1})
	has(t, u)
	v := loaded(t, d)
	counts(t, v, numbers{pages: 9, room: 4, epoch: 2})
	has(t, v)
}

func TestP9_1LoadRejects(t *testing.T) {
	if s, why := Load(nil); s != nil || why != api.ErrArg {
		t.Error(why)
	}
	for _, n := range []int{1, 12, 13, 4865} {
		d := newDisk(t, n)
		if s, why := Load(d); s != nil || why != api.ErrForm || d.Ops() != 0 {
			t.Error(n, why, d.Ops())
		}
		broken(t, d)
		if s, why := Load(d); s != nil || why != api.ErrDown {
			t.Error(n, why)
		}
	}
	d, _ := formatted(t, 8, 4)
	broken(t, d)
	if s, why := Load(d); s != nil || why != api.ErrDown {
		t.Error(why)
	}
}

// refuses fails if a disk is loaded that has this sector.
func refuses(t *testing.T, d *disk.Disk, i int, b string) {
	t.Helper()
	e := d.Copy()
	must(t, e.Write(i, b))
	ops := e.Ops()
	for range 2 {
		if s, why := Load(e); s != nil || why != api.ErrForm {
			t.Errorf("sector %d: error %d", i, why)
		}
	}
	if e.Ops() != ops || e.Pending() != 1 {
		t.Error("it was written to")
	}
}

func TestP9_1LoadNeedsAHead(t *testing.T) {
	d, _ := formatted(t, 9, 5)
	good := headSector(1, 9, 5)
	refuses(t, d, 0, sector.Blank())
	refuses(t, d, 0, junk)
	b := sealed(t, good)
	refuses(t, d, 0, b[:511]+"\x01")
	for i, change := range []func(s *sector.Sector){
		func(s *sector.Sector) { s.Kind = 2 },
		func(s *sector.Sector) { s.Kind = 3 },
		func(s *sector.Sector) { s.Kind = 4 },
		func(s *sector.Sector) { s.Number = 1 },
		func(s *sector.Sector) { s.Number = 1 << 63 },
		func(s *sector.Sector) { s.Page = text('a') },
		func(s *sector.Sector) { s.Page = noughts[1:] + "\x01" },
		func(s *sector.Sector) { s.At = 10 },
		func(s *sector.Sector) { s.At = 8 },
		func(s *sector.Sector) { s.Many = 4 },
		func(s *sector.Sector) { s.Many = 6 },
		func(s *sector.Sector) { s.At, s.Many = 7, 7 },
		func(s *sector.Sector) { s.At, s.Many = 11, 3 },
		func(s *sector.Sector) { s.At, s.Many = 14, 0 },
		func(s *sector.Sector) { s.At, s.Many = 0, 14 },
		func(s *sector.Sector) { s.At, s.Many = 5, 9 },
		func(s *sector.Sector) { s.At, s.Many = 65535, 65535 },
		func(s *sector.Sector) { s.At, s.Many = 0, 0 },
		func(s *sector.Sector) { s.At, s.Many = 9, 65535 },
		func(s *sector.Sector) { s.At, s.Many = 3841, 5 },
	} {
		x := good
		change(&x)
		if x == good {
			t.Fatal(i)
		}
		refuses(t, d, 0, sealed(t, x))
	}
	// the same sectors divided in another way
	for _, c := range []struct{ pages, size int }{{8, 6}, {9, 5}, {10, 4}} {
		e := d.Copy()
		e.Write(0, sealed(t, headSector(7, c.pages, c.size)))
		counts(t, loaded(t, e), numbers{pages: c.pages, room: c.size, epoch: 8})
	}
	e := newDisk(t, 4865)
	e.Write(0, sealed(t, headSector(7, 3840, 1024)))
	counts(t, loaded(t, e), numbers{pages: 3840, room: 1024, epoch: 8})
	f := newDisk(t, 4865)
	refuses(t, f, 0, sealed(t, headSector(7, 3841, 1023)))
	refuses(t, f, 0, sealed(t, headSector(7, 3839, 1025)))
}

func TestP9_1LoadNeedsHomeSectors(t *testing.T) {
	d, s := formatted(t, 9, 4)
	must(t, s.Commit(img(2, 'c')))
	must(t, s.Flush()) // the journal does not make up for a home sector
	for page := range 9 {
		refuses(t, d, 5+page, junk)
		refuses(t, d, 5+page, sealed(t, homeSector(page, text('a')))[:511]+"b")
		refuses(t, d, 5+page, sealed(t, homeSector(page+1, text('a'))))
		refuses(t, d, 5+page, sealed(t, homeSector((page+8)%9, text('a'))))
		refuses(t, d, 5+page, sealed(t, sector.Sector{Kind: 2, Epoch: 1, Number: 1, At: page, Page: text('a')}))
		refuses(t, d, 5+page, sealed(t, sector.Sector{Kind: 4, Epoch: 1, At: page, Page: text('a')}))
		refuses(t, d, 5+page, sealed(t, sector.Sector{Kind: 4, Number: 1, At: page, Page: text('a')}))
		refuses(t, d, 5+page, sealed(t, sector.Sector{Kind: 4, Many: 1, At: page, Page: text('a')}))
		e := d.Copy()
		must(t, e.Write(5+page, sealed(t, homeSector(page, text('a')))))
		want := make([]byte, 9)
		want[page], want[2] = 'a', 'c'
		has(t, loaded(t, e), want...)
		f := d.Copy()
		must(t, f.Write(5+page, sealed(t, homeSector(page, noughts))))
		has(t, loaded(t, f), 0, 0, 'c')
	}
	// the sectors of the journal may be anything
	for i := 1; i <= 4; i++ {
		e := d.Copy()
		must(t, e.Write(i, junk))
		loaded(t, e)
	}
}

func TestP9_1LoadAppliesTheJournalInOrder(t *testing.T) {
	d, s := formatted(t, 8, 20)
	must(t, s.Commit(img(1, 'a'), img(2, 'a'), img(3, 'a')))
	must(t, s.Commit(img(3, 'b'), img(2, 'b')))
	must(t, s.Commit(img(7, 'c'), img(3, 'c')))
	must(t, s.Commit(img(1, 0)))
	has(t, s, 0, 0, 'b', 'c', 0, 0, 0, 'c')
	u := loaded(t, d)
	has(t, u, 0, 0, 'b', 'c', 0, 0, 0, 'c')
	counts(t, u, numbers{pages: 8, room: 20, epoch: 2})
	d.Up()
	has(t, loaded(t, d), 0, 0, 'b', 'c', 0, 0, 0, 'c')
}

func TestP9_1LoadAppliesImagesInOrder(t *testing.T) {
	d, _ := formatted(t, 8, 6)
	for i, c := range []byte{'a', 'b', 'c'} {
		must(t, d.Write(1+i, sealed(t, sector.Sector{Kind: 2, Epoch: 1, Number: 1, At: 4, Many: i, Page: text(c)})))
	}
	must(t, d.Write(4, sealed(t, sector.Sector{Kind: 3, Epoch: 1, Number: 1, Many: 3, Page: noughts})))
	has(t, loaded(t, d), 0, 0, 0, 0, 'c')
}

func TestP9_1LoadRejectsPagesThatDoNotExist(t *testing.T) {
	for _, page := range []int{8, 9, 3839} {
		for before := range 3 {
			d, s := formatted(t, 8, 20)
			for i := range before {
				must(t, s.Commit(img(i, 'a')))
			}
			must(t, s.log.Append(img(7, 'b'), img(page, 'b')))
			ops := d.Ops()
			for range 2 {
				if u, why := Load(d); u != nil || why != api.ErrForm {
					t.Error(page, before, why)
				}
			}
			if d.Ops() != ops {
				t.Error("it was written to")
			}
		}
	}
}

func TestP9_1LoadTakesTransactionsOfItsEpoch(t *testing.T) {
	d, s := formatted(t, 8, 20)
	must(t, s.Commit(img(1, 'a')))
	must(t, s.Flush())
	for _, epoch := range []uint64{0, 2, 1 << 63, math.MaxUint64} {
		e := d.Copy()
		must(t, e.Write(0, sealed(t, headSector(epoch, 8, 20))))
		u := loaded(t, e)
		has(t, u)
		counts(t, u, numbers{pages: 8, room: 20, epoch: epoch + 1})
	}
}

func TestP9_1LoadSteps(t *testing.T) {
	got := traced(t, func() (*disk.Disk, func() api.Errno) {
		d, s := formatted(t, 10, 9)
		must(t, s.Commit(img(9, 'a'), img(3, 'a')))
		must(t, s.Commit(img(1, 'b'), img(9, 'b'), img(5, 'b')))
		return d, func() api.Errno {
			u, why := Load(d)
			if (u == nil) != (why != api.OK) {
				t.Error("a store or an error")
			}
			return why
		}
	})
	want := []op{{at: flush}}
	for _, x := range []journal.Image{img(1, 'b'), img(3, 'a'), img(5, 'b'), img(9, 'b')} {
		want = append(want, op{at: 10 + x.Page, text: sealed(t, homeSector(x.Page, x.Text))})
	}
	sameOps(t, got, append(want, op{at: flush}, op{at: 0, text: sealed(t, headSector(2, 10, 9))}, op{at: flush}))
}

func TestP9_1LoadStepsWithoutTransactions(t *testing.T) {
	got := traced(t, func() (*disk.Disk, func() api.Errno) {
		d, _ := formatted(t, 8, 4)
		return d, func() api.Errno {
			_, why := Load(d)
			return why
		}
	})
	sameOps(t, got, []op{{at: flush}, {at: flush}, {at: 0, text: sealed(t, headSector(2, 8, 4))}, {at: flush}})
}

// Pages of zero bytes have blank home sectors.
func TestP9_1LoadWritesBlankSectors(t *testing.T) {
	d, s := formatted(t, 8, 4)
	must(t, s.Commit(img(4, 'a')))
	must(t, s.Checkpoint())
	must(t, s.Commit(img(4, 0)))
	has(t, loaded(t, d))
	if b := d.Safe()[5+4]; b != sector.Blank() {
		t.Errorf("%.4q", b)
	}
}

func TestP9_2ReadPagesThatDoNotExist(t *testing.T) {
	for _, n := range []int{8, 9, 3840} {
		_, s := formatted(t, n, 4)
		for _, page := range []int{math.MinInt, -n, -1, n, n + 1, 3840, math.MaxInt} {
			if x, why := s.Read(page); x != "" || why != api.ErrArg {
				t.Error(n, page, why)
			}
		}
		if x, why := s.Read(n - 1); x != noughts || why != api.OK {
			t.Error(n, why)
		}
	}
}

func TestP9_2ReadWhatWasCommittedLast(t *testing.T) {
	d, s := formatted(t, 8, 20)
	must(t, s.Commit(img(1, 'a'), img(0, 'b')))
	has(t, s, 'b', 'a')
	must(t, s.Commit(img(1, 'c')))
	has(t, s, 'b', 'c')
	must(t, s.Flush())
	has(t, s, 'b', 'c')
	must(t, s.Commit(img(0, 0)))
	has(t, s, 0, 'c')
	must(t, s.Checkpoint())
	has(t, s, 0, 'c')
	broken(t, d)
	has(t, s, 0, 'c') // from memory, also while the disk is down
	if x, why := s.Read(8); x != "" || why != api.ErrArg {
		t.Error(why)
	}
}

func TestP9_2CommitRejects(t *testing.T) {
	short := journal.Image{Page: 1, Text: noughts[1:]}
	for i, l := range [][]journal.Image{
		nil, {}, {short}, {img(0, 'a'), short}, {{Page: 1}}, {{Page: 1, Text: noughts + "a"}},
		{img(8, 'a')}, {img(-1, 'a')}, {img(3839, 'a')}, {img(3840, 'a')}, {img(math.MaxInt, 'a')}, {img(math.MinInt, 'a')},
		{img(0, 'a'), img(8, 'a')}, {img(8, 'a'), img(0, 'a')}, {img(1, 'a'), img(1, 'a')}, {img(1, 'a'), img(0, 'b'), img(1, 'c')},
		append(run(8, 'a'), img(8, 'a')), append(run(8, 'a'), img(7, 'a')), // ErrArg is named before ErrJournal
	} {
		for _, down := range []bool{false, true} {
			d, s := formatted(t, 8, 5)
			must(t, s.Commit(img(2, 'x')))
			before, ops := of(s), d.Ops()
			if down {
				broken(t, d)
			}
			if why := s.Commit(l...); why != api.ErrArg {
				t.Error(i, down, why)
			}
			counts(t, s, before)
			has(t, s, 0, 0, 'x')
			if d.Ops() != ops {
				t.Error(i, "it was written to")
			}
		}
	}
}

func TestP9_2CommitTooMany(t *testing.T) {
	for size := 4; size < 12; size++ {
		for k := 1; k <= 12; k++ {
			d, s := formatted(t, 12, size)
			want := api.OK
			if k >= size {
				want = api.ErrJournal
			}
			ops := d.Ops()
			if why := s.Commit(run(k, 'a')...); why != want {
				t.Error(size, k, why)
			}
			if want == api.OK {
				counts(t, s, numbers{pages: 12, room: size - k - 1, waiting: 1, fresh: k, epoch: 1})
				continue
			}
			counts(t, s, numbers{pages: 12, room: size, epoch: 1})
			has(t, s)
			broken(t, d)
			if why := s.Commit(run(k, 'a')...); why != api.ErrJournal || d.Ops() != ops {
				t.Error(size, k, why)
			}
		}
	}
}

func TestP9_2CommitWhileDown(t *testing.T) {
	d, s := formatted(t, 8, 5)
	must(t, s.Commit(img(2, 'x')))
	before, ops := of(s), d.Ops()
	broken(t, d)
	for k := 1; k < 5; k++ { // with and without a checkpoint
		if why := s.Commit(run(k, 'a')...); why != api.ErrDown {
			t.Error(k, why)
		}
	}
	counts(t, s, before)
	has(t, s, 0, 0, 'x')
	if d.Ops() != ops {
		t.Error("it was written to")
	}
}

func TestP9_2CommitAppends(t *testing.T) {
	d, s := formatted(t, 8, 9)
	ops := d.Ops()
	must(t, s.Commit(img(6, 'a'), img(1, 'b')))
	counts(t, s, numbers{pages: 8, room: 6, waiting: 1, fresh: 2, epoch: 1})
	must(t, s.Commit(img(1, 'c'), img(2, 'c')))
	counts(t, s, numbers{pages: 8, room: 3, waiting: 2, fresh: 3, epoch: 1})
	must(t, s.Commit(img(1, 'c')))
	counts(t, s, numbers{pages: 8, room: 1, waiting: 3, fresh: 3, epoch: 1})
	if d.Ops() != ops+8 || d.Pending() != 8 {
		t.Error("it writes the journal only", d.Ops()-ops, d.Pending())
	}
	l, why := journal.Scan(d, 9, 1)
	want := [][]journal.Image{{img(6, 'a'), img(1, 'b')}, {img(1, 'c'), img(2, 'c')}, {img(1, 'c')}}
	if why != api.OK || !slices.EqualFunc(l, want, slices.Equal) {
		t.Error(len(l), why)
	}
}

// A page that a commit leaves as it is becomes dirty, too.
func TestP9_2CommitOfTheSameContents(t *testing.T) {
	d, s := formatted(t, 8, 9)
	must(t, s.Commit(img(3, 0)))
	counts(t, s, numbers{pages: 8, room: 7, waiting: 1, fresh: 1, epoch: 1})
	ops := d.Ops()
	must(t, s.Checkpoint())
	if d.Ops() != ops+5 {
		t.Error(d.Ops() - ops)
	}
	counts(t, s, numbers{pages: 8, room: 9, epoch: 2})
	must(t, s.Commit(img(3, 0)))
	ops = d.Ops()
	loaded(t, d)
	if d.Ops() != ops+5 {
		t.Error(d.Ops() - ops)
	}
}

func TestP9_2CommitKeepsNoArgument(t *testing.T) {
	_, s := formatted(t, 8, 9)
	l := []journal.Image{img(1, 'a'), img(2, 'b')}
	must(t, s.Commit(l...))
	if l[0] != img(1, 'a') || l[1] != img(2, 'b') {
		t.Error("arguments are not modified")
	}
	l[0], l[1] = img(3, 'c'), img(1, 'd')
	has(t, s, 0, 'a', 'b')
	must(t, s.Checkpoint())
	has(t, s, 0, 'a', 'b')
}

func TestP9_2CommitCheckpointsIfThereIsNoRoom(t *testing.T) {
	for size := 4; size < 10; size++ {
		for first := 1; first < size; first++ {
			for k := 1; k < size; k++ {
				d, s := formatted(t, 10, size)
				must(t, s.Commit(run(first, 'a')...))
				must(t, s.Commit(run(k, 'b')...))
				room := size - first - 1
				want := numbers{pages: 10, room: room - k - 1, waiting: 2, fresh: max(first, k), epoch: 1}
				if k >= room {
					want = numbers{pages: 10, room: size - k - 1, waiting: 1, fresh: k, epoch: 2}
				}
				counts(t, s, want)
				d.Up() // what the checkpoint wrote is safe
				u := loaded(t, d)
				if k >= room {
					has(t, u, slices.Repeat([]byte{'a'}, first)...)
				} else {
					has(t, u)
				}
			}
		}
	}
}

func TestP9_2CommitStepsWithACheckpoint(t *testing.T) {
	got := traced(t, func() (*disk.Disk, func() api.Errno) {
		d, s := formatted(t, 10, 6)
		must(t, s.Commit(img(8, 'a'), img(3, 'a'), img(0, 'a')))
		return d, func() api.Errno { return s.Commit(img(5, 'b'), img(3, 'b')) }
	})
	want := []op{{at: flush}}
	for _, page := range []int{0, 3, 8} {
		want = append(want, op{at: 7 + page, text: sealed(t, homeSector(page, text('a')))})
	}
	want = append(want, op{at: flush}, op{at: 0, text: sealed(t, headSector(2, 10, 6))}, op{at: flush},
		op{at: 1, text: sealed(t, sector.Sector{Kind: 2, Epoch: 2, Number: 1, At: 5, Many: 0, Page: text('b')})},
		op{at: 2, text: sealed(t, sector.Sector{Kind: 2, Epoch: 2, Number: 1, At: 3, Many: 1, Page: text('b')})},
		op{at: 3, text: sealed(t, sector.Sector{Kind: 3, Epoch: 2, Number: 1, Many: 2, Page: noughts})})
	sameOps(t, got, want)
}

// What a commit has changed when the disk fails in the middle: nothing, or the
// checkpoint alone.
func TestP9_2CommitFails(t *testing.T) {
	for n := 1; n <= 10; n++ {
		d, s := formatted(t, 10, 6)
		must(t, s.Commit(img(8, 'a'), img(3, 'a'), img(0, 'a')))
		before := of(s)
		d.Arm(n)
		if why := s.Commit(img(5, 'b'), img(3, 'b')); why != api.ErrDown {
			t.Error(n, why)
		}
		has(t, s, 'a', 0, 0, 'a', 0, 0, 0, 0, 'a')
		if n <= 7 {
			counts(t, s, before)
		} else {
			counts(t, s, numbers{pages: 10, room: 6, epoch: 2})
		}
	}
	for n := 1; n <= 3; n++ {
		d, s := formatted(t, 10, 6)
		must(t, s.Commit(img(8, 'a')))
		before := of(s)
		d.Arm(n)
		if why := s.Commit(img(5, 'b'), img(8, 'b')); why != api.ErrDown {
			t.Error(n, why)
		}
		counts(t, s, before)
		has(t, s, 0, 0, 0, 0, 0, 0, 0, 0, 'a')
	}
}

func TestP9_2Flush(t *testing.T) {
	d, s := formatted(t, 8, 20)
	ops := d.Ops()
	must(t, s.Flush())
	if d.Ops() != ops {
		t.Error("nothing is waiting")
	}
	must(t, s.Commit(img(1, 'a')))
	must(t, s.Commit(img(2, 'b'), img(1, 'b')))
	ops = d.Ops()
	must(t, s.Flush())
	counts(t, s, numbers{pages: 8, room: 15, fresh: 2, epoch: 1})
	if d.Ops() != ops+1 || d.Pending() != 0 {
		t.Error(d.Ops()-ops, d.Pending())
	}
	must(t, s.Flush())
	if d.Ops() != ops+1 {
		t.Error("nothing is waiting")
	}
	d.Up()
	has(t, loaded(t, d), 0, 'b', 'b')
}

// The disk is flushed for the sake of transactions only.
func TestP9_2FlushOfOtherWrites(t *testing.T) {
	d, s := formatted(t, 8, 20)
	must(t, d.Write(3, junk))
	must(t, s.Flush())
	must(t, s.Checkpoint())
	if d.Pending() != 1 {
		t.Error(d.Pending())
	}
}

func TestP9_2FlushFails(t *testing.T) {
	d, s := formatted(t, 8, 20)
	d.Arm(1)
	must(t, s.Flush()) // does not reach the disk
	if d.Down() {
		t.Error("it was flushed")
	}
	d.Arm(0)
	must(t, s.Commit(img(1, 'a')))
	d.Arm(1)
	before := of(s)
	for range 2 {
		if why := s.Flush(); why != api.ErrDown || d.Pending() != 2 {
			t.Error(why, d.Pending())
		}
		counts(t, s, before)
	}
	e, u := formatted(t, 8, 20)
	broken(t, e)
	if why := u.Flush(); why != api.ErrDown { // also if nothing is waiting
		t.Error(why)
	}
}

func TestP9_2CheckpointSteps(t *testing.T) {
	for _, flushed := range []bool{false, true} {
		got := traced(t, func() (*disk.Disk, func() api.Errno) {
			d, s := formatted(t, 20, 30)
			must(t, s.Commit(img(19, 'a'), img(3, 'a'), img(11, 'a')))
			must(t, s.Commit(img(2, 'b'), img(11, 'b'), img(10, 'b')))
			if flushed {
				must(t, s.Flush())
			}
			return d, s.Checkpoint
		})
		want := []op{{at: flush}}
		for _, x := range []journal.Image{img(2, 'b'), img(3, 'a'), img(10, 'b'), img(11, 'b'), img(19, 'a')} {
			want = append(want, op{at: 31 + x.Page, text: sealed(t, homeSector(x.Page, x.Text))})
		}
		sameOps(t, got, append(want, op{at: flush}, op{at: 0, text: sealed(t, headSector(2, 20, 30))}, op{at: flush}))
	}
}

func TestP9_2Checkpoint(t *testing.T) {
	d, s := formatted(t, 8, 20)
	want := make([]byte, 8)
	for i := 1; i < 6; i++ {
		for k := range i {
			want[i], want[7] = byte('a'+k), byte(10*i+k)
			must(t, s.Commit(img(i, want[i]), img(7, want[7])))
		}
		must(t, s.Checkpoint())
		counts(t, s, numbers{pages: 8, room: 20, epoch: uint64(i + 1)})
		has(t, s, want...)
		c := d.Copy()
		c.Up()
		has(t, loaded(t, c), want...)
	}
}

func TestP9_2CheckpointOfNothing(t *testing.T) {
	d, s := formatted(t, 8, 20)
	nothing := func() {
		t.Helper()
		before, ops := of(s), d.Ops()
		d.Arm(1)
		must(t, s.Checkpoint())
		d.Arm(0)
		counts(t, s, before)
		if d.Ops() != ops || d.Down() {
			t.Error("it reached the disk")
		}
	}
	nothing()
	must(t, s.Commit(img(1, 'a')))
	must(t, s.Checkpoint())
	nothing()
	must(t, s.Commit(img(1, 'b')))
	must(t, s.Flush()) // what was flushed still waits for a checkpoint
	ops := d.Ops()
	must(t, s.Checkpoint())
	if d.Ops() != ops+5 {
		t.Error(d.Ops() - ops)
	}
	nothing()
	s = loaded(t, d)
	nothing()
	broken(t, d)
	if why := s.Checkpoint(); why != api.ErrDown {
		t.Error(why)
	}
}

func TestP9_2CheckpointFails(t *testing.T) {
	for n := 1; n <= 6; n++ {
		d, s := formatted(t, 8, 20)
		must(t, s.Commit(img(5, 'a'), img(2, 'a')))
		before := of(s)
		d.Arm(n)
		for range 2 {
			if why := s.Checkpoint(); why != api.ErrDown {
				t.Error(n, why)
			}
			counts(t, s, before)
			has(t, s, 0, 0, 'a', 0, 0, 'a')
		}
	}
}

// After a checkpoint, only what was committed later is dirty.
func TestP9_2CheckpointMakesPagesClean(t *testing.T) {
	d, s := formatted(t, 8, 20)
	must(t, s.Commit(run(8, 'a')...))
	must(t, s.Checkpoint())
	must(t, s.Commit(img(4, 'b')))
	counts(t, s, numbers{pages: 8, room: 18, waiting: 1, fresh: 1, epoch: 2})
	ops := d.Ops()
	must(t, s.Checkpoint())
	if d.Ops() != ops+5 {
		t.Error(d.Ops() - ops)
	}
	counts(t, s, numbers{pages: 8, room: 20, epoch: 3})
}

func TestP9_2LargestStore(t *testing.T) {
	d, s := formatted(t, 3840, 1024)
	for i := range 4 {
		l := run(3840, byte('a'+i))[960*i : 960*(i+1)]
		must(t, s.Commit(l...))
	}
	if why := s.Commit(run(1024, 'z')...); why != api.ErrJournal {
		t.Error(why)
	}
	must(t, s.Commit(run(1023, 'x')...))
	counts(t, s, numbers{pages: 3840, waiting: 1, fresh: 1023, epoch: 5})
	want := contents(t, s)
	must(t, s.Flush())
	d.Up()
	if u := loaded(t, d); !slices.Equal(contents(t, u), want) || u.Epoch() != 6 {
		t.Error("other pages")
	}
}

func TestP9_3Numbers(t *testing.T) {
	d, s := formatted(t, 12, 9)
	counts(t, s, numbers{pages: 12, room: 9, epoch: 1})
	must(t, s.Commit(img(1, 'a'), img(11, 'a')))
	counts(t, s, numbers{pages: 12, room: 6, waiting: 1, fresh: 2, epoch: 1})
	must(t, s.Flush())
	counts(t, s, numbers{pages: 12, room: 6, fresh: 2, epoch: 1})
	must(t, s.Commit(img(1, 'b')))
	counts(t, s, numbers{pages: 12, room: 4, waiting: 1, fresh: 2, epoch: 1})
	broken(t, d)
	counts(t, s, numbers{pages: 12, room: 4, waiting: 1, fresh: 2, epoch: 1})
	d.Up(true, true)
	counts(t, loaded(t, d), numbers{pages: 12, room: 9, epoch: 2})
}

func TestP9_3NilStore(t *testing.T) {
	var s *Store
	counts(t, s, numbers{})
	for _, page := range []int{math.MinInt, -1, 0, 1, math.MaxInt} {
		if x, why := s.Read(page); x != "" || why != api.ErrArg {
			t.Error(page, why)
		}
	}
	for _, l := range [][]journal.Image{nil, {img(0, 'a')}, {img(-1, 'a')}, run(3840, 'a')} {
		if why := s.Commit(l...); why != api.ErrArg {
			t.Error(len(l), why)
		}
	}
	if s.Flush() != api.ErrArg || s.Checkpoint() != api.ErrArg {
		t.Error(s.Flush(), s.Checkpoint())
	}
	z := new(Store)
	counts(t, z, numbers{})
	if _, why := z.Read(0); why == api.OK || z.Commit(img(0, 'a')) == api.OK || z.Flush() == api.OK || z.Checkpoint() == api.OK {
		t.Error("a store that was not made has no pages")
	}
}
