package journal

import (
	"math"
	"slices"
	"strings"
	"testing"

	"wharfage/api"
	"wharfage/disk"
	"wharfage/sector"
)

var noughts = strings.Repeat("\x00", 480)

var epochs = []uint64{0, 1, 2, 5, 1 << 32, 1<<63 - 1, 1 << 63, math.MaxUint64}

// text is a page that begins with a byte and consists of it.
func text(c byte) string { return strings.Repeat(string([]byte{c}), 480) }

func img(page int, c byte) Image { return Image{Page: page, Text: text(c)} }

func blankDisk(t *testing.T, n int) *disk.Disk {
	t.Helper()
	d, why := disk.New(n)
	if why != api.OK {
		t.Fatal(n, why)
	}
	return d
}

// opened returns a journal on a new disk that has some sectors behind it.
func opened(t *testing.T, size int, epoch uint64) (*disk.Disk, *Journal) {
	t.Helper()
	d := blankDisk(t, size+3)
	j, why := Open(d, size, epoch)
	if j == nil || why != api.OK {
		t.Fatal(size, why)
	}
	return d, j
}

func sealed(t *testing.T, s sector.Sector) string {
	t.Helper()
	b, why := sector.Seal(s)
	if why != api.OK {
		t.Fatal(s.Kind, s.At, s.Many, why)
	}
	return b
}

func imageSector(epoch, number uint64, i int, x Image) sector.Sector {
	return sector.Sector{Kind: 2, Epoch: epoch, Number: number, At: x.Page, Many: i, Page: x.Text}
}

func commitSector(epoch, number uint64, k int) sector.Sector {
	return sector.Sector{Kind: 3, Epoch: epoch, Number: number, At: 0, Many: k, Page: noughts}
}

// stored returns the sectors of a transaction, as the document describes them.
func stored(t *testing.T, epoch, number uint64, l ...Image) []string {
	t.Helper()
	var all []string
	for i, x := range l {
		all = append(all, sealed(t, imageSector(epoch, number, i, x)))
	}
	return append(all, sealed(t, commitSector(epoch, number, len(l))))
}

func append1(t *testing.T, j *Journal, l ...Image) {
	t.Helper()
	if why := j.Append(l...); why != api.OK {
		t.Fatal(len(l), why)
	}
}

// scans fails if a scan does not return these transactions.
func scans(t *testing.T, d *disk.Disk, size int, epoch uint64, want ...[]Image) {
	t.Helper()
	got, why := Scan(d, size, epoch)
	if why != api.OK || !slices.EqualFunc(got, want, slices.Equal) {
		t.Errorf("%d transactions instead of %d, error %d", len(got), len(want), why)
	}
}

// every returns images of all pages.
func every() []Image {
	var l []Image
	for i := range 3840 {
		l = append(l, img(i, byte(i)))
	}
	return l
}

func TestP8_1CheckValid(t *testing.T) {
	mixed := make([]byte, 480)
	for i := range mixed {
		mixed[i] = byte(i * 7)
	}
	for i, l := range [][]Image{
		{img(0, 0)},
		{img(3839, 'a')},
		{img(5, 0xff)},
		{{Page: 1, Text: string(mixed)}},
		{img(1, 'a'), img(0, 'a')},
		{img(0, 'a'), img(3839, 'b'), img(1, 'a')},
		every(),
	} {
		if why := Check(l...); why != api.OK {
			t.Error(i, why)
		}
	}
}

func TestP8_1CheckInvalid(t *testing.T) {
	bad := [][]Image{{}, nil}
	for _, n := range []int{math.MinInt, -3840, -1, 3840, 3841, 65535, 65536, 1 << 32, math.MaxInt} {
		bad = append(bad, []Image{img(n, 'a')}, []Image{img(1, 'a'), img(n, 'b')}, []Image{img(n, 'a'), img(1, 'b')})
	}
	for _, n := range []int{0, 1, 479, 481, 512, 960, 1 << 16} {
		x := Image{Page: 2, Text: strings.Repeat("a", n)}
		bad = append(bad, []Image{x}, []Image{img(1, 'a'), x}, []Image{x, img(1, 'a')})
	}
	bad = append(bad,
		[]Image{img(0, 'a'), img(0, 'a')},
		[]Image{img(3, 'a'), img(3, 'b')},
		[]Image{img(3, 'a'), img(4, 'b'), img(3, 'c')},
		[]Image{img(5, 'a'), img(3, 'a'), img(4, 'b'), img(4, 'c')},
		append(every(), img(3839, 'a')),
		append(every(), img(0, 'a')),
	)
	for i, l := range bad {
		if why := Check(l...); why != api.ErrArg {
			t.Error(i, len(l), why)
		}
		if _, j := opened(t, 1024, 1); j.Append(l...) != api.ErrArg || j.Room() != 1024 || j.Number() != 0 {
			t.Error(i, "appended")
		}
	}
}

// wrong calls a function with all arguments that Open and Scan have to reject.
func wrong(t *testing.T, call func(d *disk.Disk, size int)) {
	for _, size := range []int{math.MinInt, -4, -1, 0, 1, 3, 1025, 1026, 4864, 1 << 32, 1<<32 + 4, math.MaxInt} {
		call(blankDisk(t, 4865), size)
		call(blankDisk(t, 1), size)
		call(nil, size)
	}
	for _, size := range []int{4, 5, 6, 1023, 1024} {
		call(nil, size)
		for _, n := range []int{1, 4, size - 1, size} {
			call(blankDisk(t, min(n, size)), size)
		}
	}
}

func TestP8_1OpenRejects(t *testing.T) {
	wrong(t, func(d *disk.Disk, size int) {
		if j, why := Open(d, size, 1); j != nil || why != api.ErrArg {
			t.Error(d.Len(), size, why)
		}
	})
}

func TestP8_1OpenIsEmpty(t *testing.T) {
	for _, size := range []int{4, 5, 6, 1023, 1024} {
		for _, n := range []int{size + 1, size + 2, 4865} {
			for _, epoch := range epochs {
				d := blankDisk(t, n)
				j, why := Open(d, size, epoch)
				if why != api.OK || j.Room() != size || j.Number() != 0 || j.Epoch() != epoch {
					t.Error(n, size, epoch, why, j.Room(), j.Number(), j.Epoch())
				}
				if d.Ops() != 0 || d.Pending() != 0 {
					t.Error("Open writes nothing", d.Ops())
				}
			}
		}
	}
}

func TestP8_1OpenWhereThereIsAJournal(t *testing.T) {
	d, j := opened(t, 6, 7)
	append1(t, j, img(1, 'a'))
	d.Flush()
	before := d.Safe()
	k, why := Open(d, 6, 7)
	if why != api.OK || k.Room() != 6 || k.Number() != 0 || j.Room() != 4 || j.Number() != 1 {
		t.Error(why, k.Room(), k.Number(), j.Room(), j.Number())
	}
	if !slices.Equal(d.Safe(), before) || d.Pending() != 0 {
		t.Error("Open writes nothing")
	}
	scans(t, d, 6, 7, []Image{img(1, 'a')})
}

func TestP8_1OpenOnADiskThatIsDown(t *testing.T) {
	d := blankDisk(t, 9)
	d.Arm(1)
	d.Flush()
	j, why := Open(d, 8, 3)
	if why != api.OK || j.Room() != 8 || j.Number() != 0 || j.Epoch() != 3 {
		t.Error(why)
	}
	if why := j.Append(img(1, 'a')); why != api.ErrDown {
		t.Error(why)
	}
}

func TestP8_1NilJournal(t *testing.T) {
	var j *Journal
	if j.Room() != 0 || j.Number() != 0 || j.Epoch() != 0 {
		t.Error(j.Room(), j.Number(), j.Epoch())
	}
	for _, l := range [][]Image{nil, {img(1, 'a')}, {img(-1, 'a')}, every()} {
		if why := j.Append(l...); why != api.ErrArg {
			t.Error(len(l), why)
		}
	}
	if z := new(Journal); z.Append(img(1, 'a')) == api.OK || z.Room() != 0 || z.Number() != 0 || z.Epoch() != 0 {
		t.Error("a journal that was not opened has no room")
	}
}

func TestP8_1RoomAndNumber(t *testing.T) {
	_, j := opened(t, 12, 1)
	room := 12
	for i, k := range []int{1, 3, 2, 1} {
		append1(t, j, every()[:k]...)
		room -= k + 1
		if j.Room() != room || j.Number() != uint64(i+1) || j.Epoch() != 1 {
			t.Error(i, j.Room(), j.Number(), j.Epoch())
		}
	}
}

func TestP8_2AppendWritesTheTransaction(t *testing.T) {
	for _, epoch := range epochs {
		d, j := opened(t, 9, epoch)
		want := slices.Repeat([]string{sector.Blank()}, 12)
		l := [][]Image{{img(3, 'a')}, {img(3839, 'b'), img(0, 0), img(7, 0xff)}, {img(3, 'c'), img(2, 'd')}}
		at := 1
		for i, x := range l {
			append1(t, j, x...)
			at += copy(want[at:], stored(t, epoch, uint64(i+1), x...))
			if d.Pending() != at-1 || d.Ops() != int64(at-1) {
				t.Error(i, "not flushed, each sector once", d.Pending(), d.Ops())
			}
		}
		if safe := d.Safe(); !slices.Equal(safe, slices.Repeat([]string{sector.Blank()}, 12)) {
			t.Error("nothing is durable yet")
		}
		d.Flush()
		if got := d.Safe(); !slices.Equal(got, want) {
			t.Error(epoch, "other sectors")
		}
	}
}

func TestP8_2AppendInTheOrderOfTheSectors(t *testing.T) {
	d, j := opened(t, 6, 2)
	append1(t, j, img(9, 'a'), img(1, 'b'), img(4, 'c'))
	want := stored(t, 2, 1, img(9, 'a'), img(1, 'b'), img(4, 'c'))
	for i := range 4 {
		c := d.Copy()
		keep := make([]bool, 4)
		keep[i] = true
		c.Up(keep...)
		for k, b := range c.Safe() {
			if (k == i+1) != (b != sector.Blank()) || k == i+1 && b != want[i] {
				t.Error(i, k)
			}
		}
	}
}

func TestP8_2AppendNeedsRoom(t *testing.T) {
	for size := 4; size < 12; size++ {
		for k := 1; k < 14; k++ {
			d, j := opened(t, size, 1)
			want := api.OK
			if k+1 > size {
				want = api.ErrJournal
			}
			if why := j.Append(every()[:k]...); why != want {
				t.Error(size, k, why)
			}
			if want == api.ErrJournal && (j.Room() != size || j.Number() != 0 || d.Ops() != 0) {
				t.Error(size, k, "an error has no effect")
			}
		}
	}
}

func TestP8_2AppendToAFullJournal(t *testing.T) {
	for size := 4; size < 14; size++ {
		d, j := opened(t, size, 1)
		var all [][]Image
		for j.Room() > 1 {
			l := []Image{img(size, byte(len(all)))}
			append1(t, j, l...)
			all = append(all, l)
		}
		for range 2 {
			if why := j.Append(img(1, 'z')); why != api.ErrJournal {
				t.Error(size, why)
			}
			if j.Room() != size%2 || j.Number() != uint64(size/2) || d.Pending() != size/2*2 {
				t.Error(size, j.Room(), j.Number(), d.Pending())
			}
		}
		scans(t, d, size, 1, all...)
	}
	d, j := opened(t, 1024, 1)
	append1(t, j, every()[:1023]...)
	if j.Room() != 0 || j.Append(img(1, 'a')) != api.ErrJournal {
		t.Error(j.Room())
	}
	scans(t, d, 1024, 1, every()[:1023])
}

func TestP8_2OrderOfErrors(t *testing.T) {
	d, j := opened(t, 4, 1)
	d.Arm(1)
	if why := j.Append(append(every(), img(3840, 'a'))...); why != api.ErrArg {
		t.Error(why)
	}
	if why := j.Append(every()...); why != api.ErrJournal {
		t.Error(why)
	}
	if d.Down() {
		t.Error("these calls do not reach the disk")
	}
	if why := j.Append(img(1, 'a')); why != api.ErrDown || !d.Down() {
		t.Error(why)
	}
	for range 2 {
		if j.Append() != api.ErrArg || j.Append(every()[:4]...) != api.ErrJournal || j.Append(every()[:3]...) != api.ErrDown {
			t.Error("while it is down")
		}
	}
	if j.Room() != 4 || j.Number() != 0 {
		t.Error(j.Room(), j.Number())
	}
}

func TestP8_2DiskFailsWhileAppending(t *testing.T) {
	one, two, three := []Image{img(1, 'a')}, every()[3:7], []Image{img(9, 'x'), img(8, 'y')}
	for n := 1; n <= 5; n++ {
		d, j := opened(t, 9, 4)
		append1(t, j, one...)
		d.Arm(n)
		if why := j.Append(two...); why != api.ErrDown {
			t.Error(n, why)
		}
		if j.Room() != 7 || j.Number() != 1 || d.Pending() != 2+n-1 {
			t.Error(n, j.Room(), j.Number(), d.Pending())
		}
		d.Up(slices.Repeat([]bool{true}, 10)...)
		scans(t, d, 9, 4, one)
		append1(t, j, three...)
		if j.Room() != 4 || j.Number() != 2 {
			t.Error(n, j.Room(), j.Number())
		}
		scans(t, d, 9, 4, one, three)
	}
}

func TestP8_2AppendKeepsNoArgument(t *testing.T) {
	d, j := opened(t, 9, 4)
	l := []Image{img(1, 'a'), img(2, 'b')}
	append1(t, j, l...)
	if l[0] != img(1, 'a') || l[1] != img(2, 'b') {
		t.Error("arguments are not modified")
	}
	l[0], l[1] = img(3, 'c'), img(4, 'd')
	d.Flush()
	scans(t, d, 9, 4, []Image{img(1, 'a'), img(2, 'b')})
}

func TestP8_3ScanRejects(t *testing.T) {
	wrong(t, func(d *disk.Disk, size int) {
		if l, why := Scan(d, size, 1); len(l) != 0 || why != api.ErrArg {
			t.Error(d.Len(), size, why)
		}
		d.Arm(1)
		d.Flush()
		if l, why := Scan(d, size, 1); len(l) != 0 || why != api.ErrArg {
			t.Error(d.Len(), size, why)
		}
	})
}

func TestP8_3ScanOfADiskThatIsDown(t *testing.T) {
	d, j := opened(t, 9, 4)
	append1(t, j, img(1, 'a'))
	d.Flush()
	d.Arm(1)
	d.Flush()
	for _, size := range []int{4, 9, 11} {
		if l, why := Scan(d, size, 4); len(l) != 0 || why != api.ErrDown {
			t.Error(size, len(l), why)
		}
	}
	d.Up()
	scans(t, d, 9, 4, []Image{img(1, 'a')})
}

func TestP8_3ScanReadsOnly(t *testing.T) {
	d, j := opened(t, 9, 4)
	append1(t, j, img(1, 'a'))
	d.Flush()
	append1(t, j, img(2, 'b'))
	d.Arm(1)
	for range 3 {
		scans(t, d, 9, 4, []Image{img(1, 'a')}, []Image{img(2, 'b')}) // pending writes too
	}
	if d.Down() || d.Pending() != 2 || d.Ops() != 5 {
		t.Error(d.Down(), d.Pending(), d.Ops())
	}
	got, _ := Scan(d, 9, 4)
	got[0][0], got[1] = img(7, 'z'), nil
	scans(t, d, 9, 4, []Image{img(1, 'a')}, []Image{img(2, 'b')})
	got, _ = Scan(d, 9, 4)
	_ = append(got[0], img(7, 'z'))
	if got[1][0] != img(2, 'b') {
		t.Error("two lists share memory")
	}
}

func TestP8_3ScanOfNothing(t *testing.T) {
	for _, epoch := range epochs {
		for _, size := range []int{4, 5, 1024} {
			scans(t, blankDisk(t, size+1), size, epoch)
			d := blankDisk(t, size+1)
			for i := range d.Len() {
				d.Write(i, strings.Repeat("\xa5", 512))
			}
			scans(t, d, size, epoch)
		}
	}
}

func TestP8_3ScanOfOtherEpochs(t *testing.T) {
	for _, epoch := range epochs {
		d, j := opened(t, 9, epoch)
		append1(t, j, img(1, 'a'))
		for _, other := range append(epochs, epoch+1, epoch-1) {
			if other == epoch {
				scans(t, d, 9, other, []Image{img(1, 'a')})
			} else {
				scans(t, d, 9, other)
			}
		}
	}
}

func TestP8_3ScanOfOtherSizes(t *testing.T) {
	d, j := opened(t, 20, 1)
	var all [][]Image
	ends := []int{}
	for i, k := range []int{1, 2, 3, 1, 4} {
		all = append(all, every()[i:i+k])
		append1(t, j, all[i]...)
		ends = append(ends, 20-j.Room())
	}
	for size := 4; size < d.Len(); size++ {
		n := 0
		for n < len(ends) && ends[n] <= size {
			n++
		}
		scans(t, d, size, 1, all[:n]...)
	}
}

// laid returns a disk with these sectors from sector 1 on.
func laid(t *testing.T, n int, l ...sector.Sector) *disk.Disk {
	t.Helper()
	d := blankDisk(t, n)
	for i, s := range l {
		if s.Kind == 0 {
			continue
		}
		if why := d.Write(i+1, sealed(t, s)); why != api.OK {
			t.Fatal(i, why)
		}
	}
	return d
}

func TestP8_3PagesOfATransaction(t *testing.T) {
	for _, n := range []int{0, 1, 3838, 3839} {
		d := laid(t, 9, imageSector(1, 1, 0, img(n, 'a')), commitSector(1, 1, 1))
		scans(t, d, 8, 1, []Image{img(n, 'a')})
	}
	for _, n := range []int{3840, 3841, 65535} {
		d := laid(t, 9, imageSector(1, 1, 0, img(n, 'a')), commitSector(1, 1, 1))
		scans(t, d, 8, 1)
		d = laid(t, 9, imageSector(1, 1, 0, img(2, 'a')), imageSector(1, 1, 1, img(n, 'a')), commitSector(1, 1, 2))
		scans(t, d, 8, 1)
	}
	d := laid(t, 9, imageSector(1, 1, 0, img(5, 'a')), imageSector(1, 1, 1, img(5, 'b')), imageSector(1, 1, 2, img(5, 'a')), commitSector(1, 1, 3))
	scans(t, d, 8, 1, []Image{img(5, 'a'), img(5, 'b'), img(5, 'a')})
}

func TestP8_3ATransactionHasAnImage(t *testing.T) {
	scans(t, laid(t, 9, commitSector(1, 1, 0)), 8, 1)
	scans(t, laid(t, 9, commitSector(1, 1, 0), imageSector(1, 1, 0, img(1, 'a')), commitSector(1, 1, 1)), 8, 1)
	scans(t, laid(t, 9, commitSector(1, 1, 0), imageSector(1, 2, 0, img(1, 'a')), commitSector(1, 2, 1)), 8, 1)
	scans(t, laid(t, 9, imageSector(1, 1, 0, img(1, 'a')), commitSector(1, 1, 1), commitSector(1, 2, 0)), 8, 1, []Image{img(1, 'a')})
	scans(t, laid(t, 9, commitSector(1, 1, 1), imageSector(1, 1, 0, img(1, 'a'))), 8, 1)
}

func TestP8_3ATransactionEndsInTheJournal(t *testing.T) {
	var l []sector.Sector
	for i := range 6 {
		l = append(l, imageSector(1, 1, i, img(i, 'a')))
	}
	l = append(l, commitSector(1, 1, 6))
	scans(t, laid(t, 9, l...), 6, 1)
	scans(t, laid(t, 9, l...), 7, 1, slices.Collect(func(yield func(Image) bool) {
		for i := range 6 {
			yield(img(i, 'a'))
		}
	}))
	scans(t, laid(t, 9, l[:6]...), 6, 1)
	scans(t, laid(t, 9, l[:6]...), 8, 1)
}

// spoils returns sectors that differ from one in a single field.
func spoils(s sector.Sector) []sector.Sector {
	var l []sector.Sector
	for _, change := range []func(s *sector.Sector){
		func(s *sector.Sector) { *s = sector.Sector{} },
		func(s *sector.Sector) { s.Kind = 1 },
		func(s *sector.Sector) { s.Kind = 5 - s.Kind }, // an image and a commit change places
		func(s *sector.Sector) { s.Kind = 4 },
		func(s *sector.Sector) { s.Epoch++ },
		func(s *sector.Sector) { s.Epoch-- },
		func(s *sector.Sector) { s.Epoch ^= 1 << 63 },
		func(s *sector.Sector) { s.Number++ },
		func(s *sector.Sector) { s.Number-- },
		func(s *sector.Sector) { s.Number ^= 1 << 63 },
		func(s *sector.Sector) { s.Many++ },
		func(s *sector.Sector) { s.Many = (s.Many + 65535) % 65536 },
		func(s *sector.Sector) { s.Many ^= 1 << 15 },
	} {
		x := s
		change(&x)
		l = append(l, x)
	}
	if s.Kind == 2 {
		x := s
		x.At = 3840
		return append(l, x)
	}
	x, y, z := s, s, s
	x.At = 1
	y.Page = "\x01" + noughts[1:]
	z.Page = noughts[1:] + "\x01"
	return append(l, x, y, z)
}

func TestP8_3ScanStopsAtTheFirstIncompleteTransaction(t *testing.T) {
	all := [][]Image{{img(1, 'a')}, {img(2, 'b'), img(1, 'c')}, {img(3, 'd')}}
	var good []sector.Sector
	var of []int // the transaction of each sector
	for n, l := range all {
		for i, x := range l {
			good = append(good, imageSector(6, uint64(n+1), i, x))
		}
		good = append(good, commitSector(6, uint64(n+1), len(l)))
		of = append(of, slices.Repeat([]int{n}, len(l)+1)...)
	}
	scans(t, laid(t, 12, good...), 10, 6, all...)
	for i, s := range good {
		for _, x := range spoils(s) {
			l := slices.Clone(good)
			l[i] = x
			scans(t, laid(t, 12, l...), 10, 6, all[:of[i]]...)
		}
		d := laid(t, 12, good...)
		b, _ := d.Read(i + 1)
		d.Write(i+1, b[:511]+string([]byte{b[511] ^ 1}))
		scans(t, d, 10, 6, all[:of[i]]...)
	}
}

func TestP8_3NumbersAreConsecutiveFromOne(t *testing.T) {
	tx := func(number uint64) []sector.Sector {
		return []sector.Sector{imageSector(1, number, 0, img(int(number%9), 'a')), commitSector(1, number, 1)}
	}
	for _, c := range []struct {
		numbers []uint64
		want    int
	}{
		{[]uint64{1, 2, 3}, 3}, {[]uint64{0, 1, 2}, 0}, {[]uint64{2, 3, 4}, 0}, {[]uint64{1, 1, 2}, 1},
		{[]uint64{1, 3, 2}, 1}, {[]uint64{1, 2, 1}, 2}, {[]uint64{1, 2, 4}, 2}, {[]uint64{1, 0, 2}, 1},
		{[]uint64{math.MaxUint64, 0, 1}, 0}, {[]uint64{1<<32 + 1, 1, 2}, 0},
	} {
		var l []sector.Sector
		var want [][]Image
		for i, n := range c.numbers {
			l = append(l, tx(n)...)
			if i < c.want {
				want = append(want, []Image{img(int(n), 'a')})
			}
		}
		scans(t, laid(t, 9, l...), 8, 1, want...)
	}
}

func TestP8_3ScanReadsNoOtherSectors(t *testing.T) {
	d := laid(t, 9, imageSector(1, 1, 0, img(1, 'a')), commitSector(1, 1, 1))
	d.Write(0, sealed(t, imageSector(1, 1, 0, img(9, 'z'))))
	scans(t, d, 8, 1, []Image{img(1, 'a')})
	// the transaction begins in sector 0
	e := laid(t, 9, commitSector(1, 1, 1), imageSector(1, 2, 0, img(1, 'a')), commitSector(1, 2, 1))
	e.Write(0, sealed(t, imageSector(1, 1, 0, img(9, 'z'))))
	scans(t, e, 8, 1)
	// a gap
	f := laid(t, 9, sector.Sector{}, imageSector(1, 1, 0, img(1, 'a')), commitSector(1, 1, 1))
	scans(t, f, 8, 1)
}

// complete returns how many transactions, whose sizes these are, have all of
// their sectors, and all transactions before them too.
func complete(sizes []int, there []bool) int {
	at := 0
	for n, k := range sizes {
		if slices.Contains(there[at:at+k+1], false) {
			return n
		}
		at += k + 1
	}
	return len(sizes)
}

// older returns a disk on which an earlier epoch's journal had transactions of
// the same shapes, numbers and pages.
func older(t *testing.T, size int, all [][]Image) *disk.Disk {
	t.Helper()
	d, j := opened(t, size, 6)
	for _, l := range all {
		old := slices.Clone(l)
		for i := range old {
			old[i].Text = text('o')
		}
		append1(t, j, old...)
	}
	d.Flush()
	return d
}

// losing appends transactions, flushes after some of them (as the bits of
// flushes tell), and has each choice of the pending writes survive.
func losing(t *testing.T, sizes []int, flushes int) {
	t.Helper()
	var all [][]Image
	total := 0
	for n, k := range sizes {
		l := every()[n : n+k]
		for i := range l {
			l[i].Text = text(byte(16*n + i))
		}
		all = append(all, l)
		total += k + 1
	}
	d := older(t, max(total, 4), all)
	j, _ := Open(d, max(total, 4), 7)
	safe, flushed := 0, 0
	for n, l := range all {
		append1(t, j, l...)
		if flushes>>n&1 == 1 {
			d.Flush()
			safe, flushed = max(total, 4)-j.Room(), n+1
		}
	}
	pending := total - safe
	for mask := range 1 << pending {
		there := slices.Repeat([]bool{true}, total)
		for i := range pending {
			there[safe+i] = mask>>i&1 == 1
		}
		e := d.Copy()
		e.Up(there[safe:]...)
		want := complete(sizes, there)
		if want < flushed {
			t.Fatal("the model is wrong")
		}
		scans(t, e, max(total, 4), 7, all[:want]...)
	}
}

func TestP8_4Prefix(t *testing.T) {
	for _, sizes := range [][]int{{1}, {3}, {1, 1}, {2, 1}, {1, 2}, {1, 1, 1}, {2, 1, 2}, {1, 3, 1}, {3, 2}, {4, 1, 1}} {
		for flushes := range 1 << len(sizes) {
			losing(t, sizes, flushes)
		}
	}
}

// The disk fails in the middle, and all choices of what was written survive.
func TestP8_4PrefixOfWhatWasAppendedBeforeAFailure(t *testing.T) {
	all := [][]Image{{img(1, 'a'), img(2, 'b')}, {img(1, 'c')}, {img(2, 'd'), img(1, 'e')}}
	sizes := []int{2, 1, 2}
	for n := 1; n <= 8; n++ {
		d := older(t, 8, all)
		j, _ := Open(d, 8, 7)
		d.Arm(n)
		appended := 0
		for _, l := range all {
			if j.Append(l...) == api.OK {
				appended++
			}
		}
		if !d.Down() || d.Pending() != n-1 || j.Number() != uint64(appended) {
			t.Error(n, d.Pending(), appended)
		}
		for mask := range 1 << (n - 1) {
			there := make([]bool, 8)
			for i := range n - 1 {
				there[i] = mask>>i&1 == 1
			}
			e := d.Copy()
			e.Up(there...)
			want := complete(sizes, there)
			if want > appended {
				t.Fatal("the model is wrong")
			}
			scans(t, e, 8, 7, all[:want]...)
		}
	}
}
