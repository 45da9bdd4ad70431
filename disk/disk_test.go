package disk_test

import (
	"math"
	"math/rand/v2"
	"slices"
	"strings"
	"testing"

	"interlace/api"
	"interlace/disk"
)

// zeros is a page of zero bytes.
var zeros = strings.Repeat("\x00", 128)

// put returns a page in which the bytes from at on are replaced by s.
func put(page string, at int, s string) string { return page[:at] + s + page[at+len(s):] }

func fresh(t *testing.T, pages int) *disk.Disk {
	t.Helper()
	d, e := disk.New(pages)
	if d == nil || e != api.OK {
		t.Fatalf("P4.1: New(%d): error %d", pages, e)
	}
	return d
}

func check(t *testing.T, promise string, got, want api.Errno) {
	t.Helper()
	if got != want {
		t.Errorf("%s: error %d instead of %d", promise, got, want)
	}
}

func checkPage(t *testing.T, promise string, d *disk.Disk, i int, want string) {
	t.Helper()
	if s, e := d.Read(i); s != want || e != api.OK {
		t.Errorf("%s: page %d is %q, error %d, instead of %q", promise, i, s, e, want)
	}
}

func checkImage(t *testing.T, promise string, d *disk.Disk, want ...string) {
	t.Helper()
	if l := d.Image(); !slices.Equal(l, want) {
		t.Errorf("%s: the contents are %q instead of %q", promise, l, want)
	}
}

func checkPending(t *testing.T, promise string, d *disk.Disk, want ...int) {
	t.Helper()
	if l := d.Pending(); !slices.Equal(l, want) {
		t.Errorf("%s: pending are %v instead of %v", promise, l, want)
	}
}

func TestNew(t *testing.T) {
	for _, n := range []int{1, 2, 4095, 4096} {
		d := fresh(t, n)
		if d.Len() != n || !d.Up() {
			t.Errorf("P4.1: a new disk with %d pages has %d, power %v", n, d.Len(), d.Up())
		}
		checkImage(t, "P4.1", d, slices.Repeat([]string{zeros}, n)...)
		checkPending(t, "P4.1", d)
		checkPage(t, "P4.1", d, n-1, zeros)
		// The trip is unlimited: there is power for more steps than pages.
		for range 2 * n {
			check(t, "P4.1", d.Flush(), api.OK)
		}
	}
	for _, n := range []int{0, -1, 4097, math.MinInt, math.MaxInt} {
		if d, e := disk.New(n); d != nil || e != api.ErrArg {
			t.Errorf("P4.1: New(%d) gives %v, error %d", n, d, e)
		}
	}
}

func TestWrite(t *testing.T) {
	d := fresh(t, 3)
	check(t, "P4.2", d.Write(1, 4, "abc"), api.OK)
	check(t, "P4.2", d.Write(1, 6, "xyz"), api.OK)
	page := put(put(zeros, 4, "abc"), 6, "xyz")
	checkPage(t, "P4.2", d, 1, page)
	checkPage(t, "P4.2", d, 0, zeros)
	checkImage(t, "P4.6", d, zeros, zeros, zeros)
	checkPending(t, "P4.6", d, 1)

	check(t, "P4.2", d.Flush(), api.OK)
	checkImage(t, "P4.2", d, zeros, page, zeros)
	checkPending(t, "P4.2", d)
	checkPage(t, "P4.2", d, 1, page)

	// A pending content begins with what was flushed.
	check(t, "P4.2", d.Write(1, 0, "\xff"), api.OK)
	checkPage(t, "P4.2", d, 1, put(page, 0, "\xff"))
	checkImage(t, "P4.6", d, zeros, page, zeros)
}

func TestWriteNothing(t *testing.T) {
	d := fresh(t, 3)
	check(t, "P4.2", d.Write(2, 128, ""), api.OK)
	check(t, "P4.2", d.Write(0, 0, ""), api.OK)
	checkPending(t, "P4.2: writing nothing makes a page pending", d, 0, 2)
	checkPage(t, "P4.2", d, 2, zeros)
	// What is pending is a content of its own, which rot of the content does not reach.
	check(t, "P4.5", d.Rot(0, 0), api.OK)
	checkPage(t, "P4.5", d, 0, zeros)
}

func TestWriteWholePage(t *testing.T) {
	d := fresh(t, 1)
	full := strings.Repeat("w", 128)
	check(t, "P4.2", d.Write(0, 0, full), api.OK)
	checkPage(t, "P4.2", d, 0, full)
	check(t, "P4.2", d.Write(0, 127, "z"), api.OK)
	checkPage(t, "P4.2", d, 0, full[:127]+"z")
}

func TestBadArguments(t *testing.T) {
	d := fresh(t, 2)
	full := strings.Repeat("w", 128)
	for _, x := range []struct {
		i, at int
		s     string
	}{
		{-1, 0, "a"}, {2, 0, "a"}, {math.MinInt, 0, ""}, {math.MaxInt, 0, ""},
		{0, -1, "a"}, {0, -1, ""}, {0, math.MinInt, "a"}, {0, math.MinInt, full},
		{0, 128, "a"}, {0, 129, ""}, {0, 127, "ab"}, {0, 1, full}, {0, 0, full + "w"}, {0, -1, full + "w"},
		{0, math.MaxInt, "a"}, {0, math.MaxInt, full}, {1, math.MaxInt, ""},
	} {
		check(t, "P4.2: Write", d.Write(x.i, x.at, x.s), api.ErrArg)
	}
	for _, i := range []int{-1, 2, math.MinInt, math.MaxInt} {
		if s, e := d.Read(i); s != "" || e != api.ErrArg {
			t.Errorf("P4.2: Read(%d) gives %q, error %d", i, s, e)
		}
	}
	checkPending(t, "P4.2: an error changes nothing", d)
	checkImage(t, "P4.2: an error changes nothing", d, zeros, zeros)
}

func TestTrip(t *testing.T) {
	d := fresh(t, 2)
	check(t, "P4.2", d.Write(0, 0, "old"), api.OK)
	d.Trip(3)
	check(t, "P4.3", d.Write(0, 0, "new"), api.OK)
	// Neither a read nor an error is a step.
	checkPage(t, "P4.2", d, 0, put(zeros, 0, "new"))
	check(t, "P4.2", d.Write(2, 0, ""), api.ErrArg)
	check(t, "P4.2", d.Rot(0, 2000), api.ErrArg)
	check(t, "P4.3", d.Flush(), api.OK)
	check(t, "P4.3", d.Write(1, 0, "more"), api.OK)
	// The trip is 0 now, but bad arguments come first, and the power stays on.
	check(t, "P4.2", d.Write(1, 126, "abc"), api.ErrArg)
	checkPage(t, "P4.2", d, 1, put(zeros, 0, "more"))
	if !d.Up() {
		t.Error("P4.2: the power went off without a step")
	}
	check(t, "P4.2", d.Flush(), api.ErrDown)
	if d.Up() {
		t.Error("P4.2: the power is on after the trip")
	}
	checkImage(t, "P4.2: nothing else changes", d, put(zeros, 0, "new"), zeros)
	checkPending(t, "P4.6: while the power is off", d, 1)
}

func TestTripAtWrite(t *testing.T) {
	d := fresh(t, 2)
	check(t, "P4.2", d.Write(0, 0, "a"), api.OK)
	d.Trip(0)
	check(t, "P4.2", d.Write(1, 0, "b"), api.ErrDown)
	checkPending(t, "P4.2: a write without power changes nothing", d, 0)
	if d.Up() {
		t.Error("P4.2: the power is on after the trip")
	}
}

func TestTripIsSet(t *testing.T) {
	d := fresh(t, 1)
	for _, n := range []int{-1, -2, math.MinInt} {
		d.Trip(0)
		d.Trip(n)
		for range 20 {
			check(t, "P4.3: a negative trip is unlimited", d.Flush(), api.OK)
		}
	}
	d.Trip(math.MaxInt)
	check(t, "P4.3", d.Flush(), api.OK)
	d.Trip(1)
	check(t, "P4.3", d.Flush(), api.OK)
	check(t, "P4.3", d.Flush(), api.ErrDown)
	// Trip does not switch the power on.
	d.Trip(-1)
	check(t, "P4.3", d.Flush(), api.ErrDown)
}

func TestPowerOff(t *testing.T) {
	d := fresh(t, 2)
	check(t, "P4.2", d.Write(1, 3, "abc"), api.OK)
	d.Trip(0)
	check(t, "P4.2", d.Flush(), api.ErrDown)
	d.Trip(5)
	for _, i := range []int{0, 1, -1, 2} {
		if s, e := d.Read(i); s != "" || e != api.ErrDown {
			t.Errorf("P4.2: Read(%d) without power gives %q, error %d", i, s, e)
		}
		check(t, "P4.2: Write without power", d.Write(i, -1, "a"), api.ErrDown)
	}
	check(t, "P4.2: Write without power", d.Write(0, 0, ""), api.ErrDown)
	check(t, "P4.2: Flush without power", d.Flush(), api.ErrDown)
	if d.Len() != 2 || d.Up() {
		t.Errorf("P4.1: %d pages, power %v", d.Len(), d.Up())
	}
	checkImage(t, "P4.6", d, zeros, zeros)
	checkPending(t, "P4.6", d, 1)
}

func TestMount(t *testing.T) {
	old, written := strings.Repeat("o", 128), strings.Repeat("w", 128)
	for _, x := range []struct {
		picks []int
		// lengths are the numbers of bytes that the pages 1, 3 and 4 get.
		lengths [3]int
	}{
		{nil, [3]int{128, 128, 128}},
		{[]int{}, [3]int{128, 128, 128}},
		{[]int{0}, [3]int{0, 128, 128}},
		{[]int{7, 0, 127}, [3]int{7, 0, 127}},
		{[]int{-1, 129, 1}, [3]int{0, 128, 1}},
		{[]int{math.MinInt, math.MaxInt, 128, 3, 4}, [3]int{0, 128, 128}},
	} {
		d := fresh(t, 5)
		for i := range 5 {
			check(t, "P4.2", d.Write(i, 0, old), api.OK)
		}
		check(t, "P4.2", d.Flush(), api.OK)
		for _, i := range []int{4, 1, 3} {
			check(t, "P4.2", d.Write(i, 0, written), api.OK)
		}
		picks := slices.Clone(x.picks)
		d.Mount(picks)
		want := slices.Repeat([]string{old}, 5)
		for k, i := range []int{1, 3, 4} {
			want[i] = written[:x.lengths[k]] + old[x.lengths[k]:]
		}
		checkImage(t, "P4.4", d, want...)
		checkPending(t, "P4.4: nothing is pending", d)
		for i := range want {
			checkPage(t, "P4.4", d, i, want[i])
		}
		if !slices.Equal(picks, x.picks) {
			t.Error("DOC, Memory: Mount changed its argument")
		}
	}
}

func TestMountSwitches(t *testing.T) {
	d := fresh(t, 1)
	d.Trip(0)
	check(t, "P4.2", d.Flush(), api.ErrDown)
	d.Mount(nil)
	if !d.Up() {
		t.Error("P4.4: the power is off after Mount")
	}
	// The trip is unlimited, after a failure as well as without one.
	for range 5 {
		check(t, "P4.4", d.Flush(), api.OK)
	}
	d.Trip(2)
	d.Mount(nil)
	for range 5 {
		check(t, "P4.4", d.Flush(), api.OK)
	}
}

func TestRot(t *testing.T) {
	d := fresh(t, 2)
	check(t, "P4.2", d.Write(1, 0, "abc"), api.OK)
	check(t, "P4.2", d.Flush(), api.OK)
	check(t, "P4.5", d.Rot(1, 0), api.OK)
	check(t, "P4.5", d.Rot(1, 9), api.OK)
	check(t, "P4.5", d.Rot(1, 1023), api.OK)
	rotten := put(put(zeros, 0, "``c"), 127, "\x80")
	checkImage(t, "P4.5", d, zeros, rotten)
	checkPage(t, "P4.5", d, 1, rotten)
	check(t, "P4.8", d.Rot(1, 1023), api.OK)
	checkPage(t, "P4.8", d, 1, put(zeros, 0, "``c"))

	d.Trip(0)
	check(t, "P4.2", d.Flush(), api.ErrDown)
	check(t, "P4.5: without power", d.Rot(0, 17), api.OK)
	checkImage(t, "P4.5: without power", d, put(zeros, 2, "\x02"), put(zeros, 0, "``c"))
	for _, x := range [][2]int{{-1, 0}, {2, 0}, {0, -1}, {0, 1024}, {math.MaxInt, 0}, {0, math.MaxInt}, {0, math.MinInt}} {
		check(t, "P4.5", d.Rot(x[0], x[1]), api.ErrArg)
	}
}

func TestRotIsNoStep(t *testing.T) {
	d := fresh(t, 1)
	check(t, "P4.2", d.Write(0, 0, "abc"), api.OK)
	d.Trip(0)
	check(t, "P4.5", d.Rot(0, 1), api.OK)
	if !d.Up() {
		t.Error("P4.5: Rot took a step")
	}
	// The pending content does not rot, and takes the place of the rotten one as far as it is written.
	checkPage(t, "P4.5", d, 0, put(zeros, 0, "abc"))
	checkImage(t, "P4.5", d, put(zeros, 0, "\x02"))
	check(t, "P4.5", d.Rot(0, 40), api.OK)
	d.Mount([]int{3})
	checkImage(t, "P4.4", d, put(put(zeros, 0, "abc"), 5, "\x01"))
}

func TestEveryBit(t *testing.T) {
	d := fresh(t, 1)
	for bit := range 1024 {
		check(t, "P4.5", d.Rot(0, bit), api.OK)
		checkImage(t, "P4.5", d, put(zeros, bit/8, string([]byte{1 << (bit % 8)})))
		check(t, "P4.8", d.Rot(0, bit), api.OK)
		checkImage(t, "P4.8", d, zeros)
	}
}

func TestResultsAreNew(t *testing.T) {
	d := fresh(t, 2)
	check(t, "P4.2", d.Write(0, 0, "a"), api.OK)
	d.Image()[1] = "x"
	d.Pending()[0] = 1
	checkImage(t, "P4.6: results are new memory", d, zeros, zeros)
	checkPending(t, "P4.6: results are new memory", d, 0)
	image := d.Image()
	check(t, "P4.2", d.Flush(), api.OK)
	if image[0] != zeros {
		t.Error("P4.6: a result changed afterwards")
	}
}

func TestClone(t *testing.T) {
	d := fresh(t, 3)
	check(t, "P4.2", d.Write(0, 0, "a"), api.OK)
	check(t, "P4.2", d.Flush(), api.OK)
	check(t, "P4.2", d.Write(1, 0, "b"), api.OK)
	d.Trip(1)
	c := d.Clone()
	if c.Len() != 3 || !c.Up() {
		t.Errorf("P4.6: the clone has %d pages, power %v", c.Len(), c.Up())
	}
	a, b := put(zeros, 0, "a"), put(zeros, 0, "b")
	checkImage(t, "P4.6", c, a, zeros, zeros)
	checkPending(t, "P4.6", c, 1)
	checkPage(t, "P4.6", c, 1, b)

	// Neither of both changes when the other one does: contents, pending contents, power and trip.
	check(t, "P4.8", c.Write(2, 0, "c"), api.OK)
	check(t, "P4.8", c.Rot(0, 0), api.OK)
	check(t, "P4.6: the clone has the trip", c.Flush(), api.ErrDown)
	checkImage(t, "P4.8", d, a, zeros, zeros)
	checkPending(t, "P4.8", d, 1)
	checkPage(t, "P4.8", d, 2, zeros)
	check(t, "P4.8", d.Flush(), api.OK)
	check(t, "P4.8", d.Flush(), api.ErrDown)
	checkImage(t, "P4.8", d, a, b, zeros)
	checkImage(t, "P4.8", c, put(zeros, 0, "`"), zeros, zeros)
	checkPending(t, "P4.8", c, 1, 2)

	off := d.Clone()
	if off.Up() {
		t.Error("P4.6: the clone of a disk without power has power")
	}
	off.Mount(nil)
	if d.Up() {
		t.Error("P4.8: a clone's Mount switched the disk on")
	}
	check(t, "P4.8", off.Write(1, 1, "x"), api.OK)
	checkPending(t, "P4.8", d)
}

// Examples of the chapter.
func TestExamples(t *testing.T) {
	d := fresh(t, 2)
	check(t, "P4.2", d.Write(0, 1, "abc"), api.OK)
	checkPage(t, "P4.2", d, 0, "\x00abc"+zeros[4:])
	checkImage(t, "P4.6", d, zeros, zeros)
	checkPending(t, "P4.6", d, 0)
	d.Mount([]int{3})
	checkPage(t, "P4.4", d, 0, "\x00ab"+zeros[3:])
	check(t, "P4.2", d.Write(1, 127, "x"), api.OK)
	check(t, "P4.2", d.Flush(), api.OK)
	check(t, "P4.5", d.Rot(1, 1016), api.OK)
	checkPage(t, "P4.5", d, 1, zeros[1:]+"y")
	d.Trip(1)
	check(t, "P4.3", d.Write(0, 0, ""), api.OK)
	check(t, "P4.3", d.Flush(), api.ErrDown)
	if d.Up() {
		t.Error("P4.3: the power is on")
	}
	if s, e := d.Read(0); s != "" || e != api.ErrDown {
		t.Errorf("P4.2: Read gives %q, error %d", s, e)
	}
	check(t, "P4.5", d.Rot(0, 1024), api.ErrArg)
	check(t, "P4.2", d.Write(0, 0, "x"), api.ErrDown)
}

// model is the disk of the chapter, with a list of bytes for each page, and nil for what is not pending.
type model struct {
	content, pending [][]byte
	up, limited      bool
	trip             int
}

func newModel(pages int) *model {
	m := &model{pending: make([][]byte, pages), up: true}
	for range pages {
		m.content = append(m.content, make([]byte, 128))
	}
	return m
}

func (m *model) clone() *model {
	c := *m
	c.content, c.pending = slices.Clone(m.content), slices.Clone(m.pending)
	for i := range c.content {
		c.content[i], c.pending[i] = slices.Clone(c.content[i]), slices.Clone(c.pending[i])
	}
	return &c
}

func (m *model) fails() bool {
	if m.limited && m.trip == 0 {
		m.up = false
		return true
	}
	m.trip--
	return false
}

func (m *model) write(i, at int, s string) api.Errno {
	if !m.up {
		return api.ErrDown
	}
	if i < 0 || i >= len(m.content) || at < 0 || at+len(s) > 128 {
		return api.ErrArg
	}
	if m.fails() {
		return api.ErrDown
	}
	if m.pending[i] == nil {
		m.pending[i] = slices.Clone(m.content[i])
	}
	for k := range len(s) {
		m.pending[i][at+k] = s[k]
	}
	return api.OK
}

func (m *model) flush() api.Errno {
	if !m.up || m.fails() {
		return api.ErrDown
	}
	for i, p := range m.pending {
		if p != nil {
			m.content[i], m.pending[i] = p, nil
		}
	}
	return api.OK
}

func (m *model) mount(picks []int) {
	for i, p := range m.pending {
		if p == nil {
			continue
		}
		n := 128
		if len(picks) > 0 {
			n = picks[0]
			picks = picks[1:]
		}
		for k := range p {
			if k < n {
				m.content[i][k] = p[k]
			}
		}
		m.pending[i] = nil
	}
	m.up, m.limited = true, false
}

func (m *model) rot(i, bit int) api.Errno {
	if i < 0 || i >= len(m.content) || bit < 0 || bit > 1023 {
		return api.ErrArg
	}
	m.content[i][bit/8] ^= 1 << (bit % 8)
	return api.OK
}

func (m *model) compare(t *testing.T, d *disk.Disk) {
	t.Helper()
	var image []string
	var pending []int
	for i, c := range m.content {
		image = append(image, string(c))
		want := string(c)
		if m.pending[i] != nil {
			want = string(m.pending[i])
			pending = append(pending, i)
		}
		if m.up {
			checkPage(t, "P4.7", d, i, want)
		}
	}
	checkImage(t, "P4.7", d, image...)
	checkPending(t, "P4.7", d, pending...)
	if d.Up() != m.up || d.Len() != len(m.content) {
		t.Errorf("P4.7: power %v instead of %v, %d pages", d.Up(), m.up, d.Len())
	}
}

// act does the same with a disk and with its model.
func act(t *testing.T, r *rand.Rand, d *disk.Disk, m *model) {
	t.Helper()
	n := len(m.content)
	switch r.IntN(12) {
	case 0, 1:
		check(t, "P4.2: Flush", d.Flush(), m.flush())
	case 2:
		trip := r.IntN(12) - 2
		d.Trip(trip)
		m.trip, m.limited = trip, trip >= 0
	case 3, 4:
		picks := make([]int, r.IntN(n+1))
		for k := range picks {
			picks[k] = r.IntN(140) - 6
		}
		d.Mount(picks)
		m.mount(picks)
	case 5:
		i, bit := r.IntN(n+2)-1, r.IntN(1030)-3
		check(t, "P4.5: Rot", d.Rot(i, bit), m.rot(i, bit))
	default:
		i, at := r.IntN(n+2)-1, r.IntN(132)-2
		s := make([]byte, r.IntN(40))
		for k := range s {
			s[k] = byte(r.Uint32())
		}
		check(t, "P4.2: Write", d.Write(i, at, string(s)), m.write(i, at, string(s)))
	}
}

// TestCourses compares disks with models through long courses, in which disks are cloned and both go on.
func TestCourses(t *testing.T) {
	for seed := range uint64(60) {
		r := rand.New(rand.NewPCG(4, seed))
		d, m := fresh(t, 1+int(seed)%6), newModel(1+int(seed)%6)
		for range 150 {
			if r.IntN(10) == 0 {
				otherDisk, otherModel := d.Clone(), m.clone()
				for range 8 {
					act(t, r, otherDisk, otherModel)
				}
				otherModel.compare(t, otherDisk)
			}
			act(t, r, d, m)
			m.compare(t, d)
			if t.Failed() {
				t.Fatalf("seed %d", seed)
			}
		}
	}
}
