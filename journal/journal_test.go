package journal_test

import (
	"math"
	"math/rand/v2"
	"slices"
	"strings"
	"testing"

	"interlace/api"
	"interlace/disk"
	"interlace/journal"
)

func fresh(t *testing.T, pages int) *disk.Disk {
	t.Helper()
	d, e := disk.New(pages)
	if e != api.OK {
		t.Fatalf("New(%d): error %d", pages, e)
	}
	return d
}

func open(t *testing.T, promise string, d *disk.Disk) *journal.Journal {
	t.Helper()
	j, e := journal.Open(d)
	if j == nil || e != api.OK {
		t.Fatalf("%s: Open gives %v, error %d", promise, j, e)
	}
	return j
}

func check(t *testing.T, promise string, got, want api.Errno) {
	t.Helper()
	if got != want {
		t.Errorf("%s: error %d instead of %d", promise, got, want)
	}
}

// used is the second way to the number of bytes that records use.
func used(records []string) int { return 2*len(records) + len(strings.Join(records, "")) }

// capacity is that of a disk, as the chapter says.
func capacity(pages int) int { return (pages - 2) / 2 * 128 }

// checkRecords compares everything that can be asked of a journal.
func checkRecords(t *testing.T, promise string, d *disk.Disk, j *journal.Journal, want []string) {
	t.Helper()
	if l := j.Records(); !slices.Equal(l, want) {
		t.Fatalf("%s: %d records %.300q instead of %d, %.300q", promise, len(l), l, len(want), want)
	}
	if j.Len() != len(want) || j.Used() != used(want) || j.Room() != capacity(d.Len())-used(want) {
		t.Fatalf("%s: Len %d, Used %d, Room %d with %d records", promise, j.Len(), j.Used(), j.Room(), len(want))
	}
	for k, r := range want {
		if s, ok := j.Record(k); s != r || !ok {
			t.Fatalf("%s: record %d is %.100q, %v, instead of %.100q", promise, k, s, ok, r)
		}
	}
	for _, k := range []int{-1, len(want), len(want) + 1, math.MinInt, math.MaxInt} {
		if s, ok := j.Record(k); s != "" || ok {
			t.Fatalf("%s: record %d is %.100q, %v", promise, k, s, ok)
		}
	}
}

// checkDisk opens the journal of a disk, and compares it.
func checkDisk(t *testing.T, promise string, d *disk.Disk, want []string) *journal.Journal {
	t.Helper()
	j := open(t, promise, d)
	checkRecords(t, promise, d, j, want)
	return j
}

func add(t *testing.T, j *journal.Journal, record string) {
	t.Helper()
	n := j.Len()
	if k, e := j.Append(record); k != n || e != api.OK {
		t.Fatalf("P5.3: Append of %d bytes to %d records gives %d, error %d", len(record), n, k, e)
	}
}

func replace(t *testing.T, j *journal.Journal, records ...string) {
	t.Helper()
	if e := j.Replace(records); e != api.OK {
		t.Fatalf("P5.4: Replace with %d records: error %d", len(records), e)
	}
}

// noise returns a text of any bytes.
func noise(r *rand.Rand, n int) string {
	b := make([]byte, n)
	for i := range b {
		b[i] = byte(r.Uint32())
	}
	return string(b)
}

// some returns records that fit.
func some(r *rand.Rand, capacity int) []string {
	var list []string
	for room := r.IntN(capacity + 1); room >= 2; {
		n := min(r.IntN(1+r.IntN(200)), room-2)
		list = append(list, noise(r, n))
		room -= n + 2
	}
	return list
}

func TestExamples(t *testing.T) {
	d := fresh(t, 6)
	j := checkDisk(t, "P5.1", d, nil)
	if j.Len() != 0 || j.Room() != 256 {
		t.Errorf("P5.2: Len %d, Room %d", j.Len(), j.Room())
	}
	add(t, j, "abc")
	add(t, j, "")
	checkRecords(t, "P5.3", d, j, []string{"abc", ""})
	if j.Used() != 7 {
		t.Errorf("P5.2: Used %d", j.Used())
	}
	long := strings.Repeat("l", 247)
	add(t, j, long)
	if j.Room() != 0 {
		t.Errorf("P5.2: Room %d", j.Room())
	}
	k, e := j.Append("")
	if check(t, "P5.3", e, api.ErrFull); k != 0 {
		t.Errorf("P5.3: number %d with an error", k)
	}
	checkDisk(t, "P5.7", d, []string{"abc", "", long})
	replace(t, j, "x")
	j = checkDisk(t, "P5.4", d, []string{"x"})
	d.Trip(0)
	for range 2 {
		k, e = j.Append("y")
		if check(t, "P5.3", e, api.ErrDown); k != 0 {
			t.Errorf("P5.3: number %d with an error", k)
		}
	}
	checkRecords(t, "P5.2", d, j, []string{"x"})
	d.Mount(nil)
	checkDisk(t, "P5.5", d, []string{"x"})
}

func TestOpenErrors(t *testing.T) {
	for pages := 1; pages < 4; pages++ {
		d := fresh(t, pages)
		for range 2 {
			j, e := journal.Open(d)
			if check(t, "P5.1: a small disk", e, api.ErrArg); j != nil {
				t.Error("P5.1: a journal with an error")
			}
			d.Trip(0)
			d.Flush()
		}
	}
	for _, pages := range []int{4, 5, 6, 7, 4095, 4096} {
		checkDisk(t, "P5.1: a new disk", fresh(t, pages), nil)
	}
	// Whatever bit has rotted, the power is asked for first.
	d := fresh(t, 4)
	add(t, open(t, "P5.1", d), "abc")
	d.Trip(0)
	d.Flush()
	for i := range 4 {
		for bit := range 8 * 128 {
			d.Rot(i, bit)
			j, e := journal.Open(d)
			if check(t, "P5.1: no power", e, api.ErrDown); j != nil {
				t.Fatal("P5.1: a journal with an error")
			}
			d.Rot(i, bit)
		}
	}
	d.Mount(nil)
	checkDisk(t, "P5.7", d, []string{"abc"})
}

func TestAccessors(t *testing.T) {
	d := fresh(t, 10)
	j := open(t, "P5.1", d)
	records := []string{"", "a", strings.Repeat("b", 200), "\x00\xff", ""}
	replace(t, j, records...)
	// Neither the argument nor a result is the journal's own memory.
	mine := slices.Clone(records)
	replace(t, j, mine...)
	mine[0] = "changed"
	l := j.Records()
	l[1] = "changed"
	_ = append(l[:2], "changed")
	checkRecords(t, "P5.2: new memory", d, j, records)
	add(t, j, "z")
	if l[4] != "" || len(l) != 5 {
		t.Errorf("P5.2: a later call changes a result to %q", l)
	}
	records = append(records, "z")
	d.Trip(0)
	checkRecords(t, "P5.2: no step", d, j, records)
	if !d.Up() {
		t.Error("P5.2: an accessor needs a step")
	}
	d.Flush()
	checkRecords(t, "P5.2: no power", d, j, records)
	check(t, "P5.4", j.Replace(nil), api.ErrDown)
	checkRecords(t, "P5.2: after an error", d, j, records)
	d.Mount(nil)
	checkRecords(t, "P5.2: closed", d, j, records)
	checkDisk(t, "P5.7", d, records)
	// They do not read the disk: here every page has rotted.
	for i := range d.Len() {
		for bit := range 1024 {
			d.Rot(i, bit)
		}
	}
	checkRecords(t, "P5.2: the disk is not read", d, j, records)
}

func TestLimits(t *testing.T) {
	d := fresh(t, 4096)
	j := open(t, "P5.1", d)
	if journal.MaxRecord != 8000 || j.Room() != 2047*128 {
		t.Errorf("P5.2: MaxRecord %d, Room %d", journal.MaxRecord, j.Room())
	}
	longest := noise(rand.New(rand.NewPCG(5, 1)), 8000)
	add(t, j, longest)
	_, e := j.Append(longest + "x")
	check(t, "P5.3", e, api.ErrLimit)
	check(t, "P5.4", j.Replace([]string{"a", longest + "x", "b"}), api.ErrLimit)
	replace(t, j, longest, "", longest)
	checkDisk(t, "P5.7", d, []string{longest, "", longest})

	// A record that is too long is ErrLimit also if it does not fit, or if there is no power; the journal is not closed.
	d = fresh(t, 5)
	j = open(t, "P5.1", d)
	_, e = j.Append(longest + "x")
	check(t, "P5.3", e, api.ErrLimit)
	_, e = j.Append(longest)
	check(t, "P5.3", e, api.ErrFull)
	check(t, "P5.4", j.Replace([]string{longest, "", longest + "x"}), api.ErrLimit)
	check(t, "P5.4", j.Replace([]string{longest}), api.ErrFull)
	d.Trip(0)
	d.Flush()
	_, e = j.Append(longest + "x")
	check(t, "P5.3", e, api.ErrLimit)
	_, e = j.Append(longest)
	check(t, "P5.3", e, api.ErrFull)
	check(t, "P5.4", j.Replace([]string{longest + "x"}), api.ErrLimit)
	check(t, "P5.4", j.Replace([]string{longest}), api.ErrFull)
	d.Mount(nil)
	add(t, j, "not closed")
	checkDisk(t, "P5.7", d, []string{"not closed"})

	// A journal that is closed says so first, also with power.
	d.Trip(0)
	_, e = j.Append("")
	check(t, "P5.3: no power", e, api.ErrDown)
	d.Mount(nil)
	_, e = j.Append(longest + "x")
	check(t, "P5.3: closed", e, api.ErrDown)
	_, e = j.Append(longest)
	check(t, "P5.3: closed", e, api.ErrDown)
	_, e = j.Append("")
	check(t, "P5.3: closed", e, api.ErrDown)
	check(t, "P5.4: closed", j.Replace([]string{longest + "x"}), api.ErrDown)
	check(t, "P5.4: closed", j.Replace([]string{longest}), api.ErrDown)
	check(t, "P5.4: closed", j.Replace(nil), api.ErrDown)
	checkDisk(t, "P5.7", d, []string{"not closed"})
}

func TestCapacity(t *testing.T) {
	for pages := 4; pages < 12; pages++ {
		full := capacity(pages)
		for _, n := range []int{0, 1, 2, 125, 126, 127, 128, 129, full - 2} {
			if n > full-2 {
				continue
			}
			d := fresh(t, pages)
			j := open(t, "P5.1", d)
			var records []string
			for used(records)+n+2 <= full {
				r := strings.Repeat(string(rune('a'+len(records)%26)), n)
				records = append(records, r)
				add(t, j, r)
				checkDisk(t, "P5.8", d, records)
			}
			_, e := j.Append(strings.Repeat("n", n))
			check(t, "P5.3", e, api.ErrFull)
			if room := j.Room(); room >= 2 {
				_, e = j.Append(strings.Repeat("r", room-1))
				check(t, "P5.3: one byte more than Room", e, api.ErrFull)
				records = append(records, strings.Repeat("r", room-2))
				add(t, j, records[len(records)-1])
				checkDisk(t, "P5.8", d, records)
			}
			// Replace has room for the whole capacity, however full the journal is.
			replace(t, j, records...)
			checkDisk(t, "P5.4", d, records)
			if j.Room() == 0 {
				check(t, "P5.4", j.Replace(append(records, "")), api.ErrFull)
			}
			checkDisk(t, "P5.7", d, records)
		}
	}
}

func TestGreatestDisk(t *testing.T) {
	d := fresh(t, 4096)
	j := open(t, "P5.1", d)
	empty := make([]string, capacity(4096)/2)
	replace(t, j, empty...)
	checkDisk(t, "P5.4: empty records", d, empty)
	_, e := j.Append("")
	check(t, "P5.3", e, api.ErrFull)

	r := rand.New(rand.NewPCG(5, 2))
	replace(t, j)
	var records []string
	for j.Room() > 1 {
		records = append(records, noise(r, min(8000, j.Room()-2)))
		add(t, j, records[len(records)-1])
	}
	checkDisk(t, "P5.8", d, records)
	check(t, "P5.4", j.Replace(append(records, "")), api.ErrFull)
	for range 2 {
		replace(t, j, records...)
		checkDisk(t, "P5.8", d, records)
	}
}

// change is a call that changes records.
type change struct {
	name string
	want []string
	call func(*journal.Journal) api.Errno
}

func appending(old []string, record string) change {
	return change{"Append", append(slices.Clone(old), record), func(j *journal.Journal) api.Errno {
		_, e := j.Append(record)
		return e
	}}
}

func replacing(records []string) change {
	return change{"Replace", records, func(j *journal.Journal) api.Errno { return j.Replace(records) }}
}

// choices returns picks for a number of pending pages: each alone at every byte, all at once, and some by chance.
func choices(r *rand.Rand, pending int) [][]int {
	all := [][]int{nil, slices.Repeat([]int{0}, pending), {-1}, {500}}
	for k := range pending {
		for p := 0; p <= 128; p++ {
			none, every := make([]int, pending), slices.Repeat([]int{128}, pending)
			none[k], every[k] = p, p
			all = append(all, none, every)
		}
	}
	for range 20 {
		picks := make([]int, pending)
		for k := range picks {
			picks[k] = r.IntN(129)
		}
		all = append(all, picks)
	}
	return all
}

// fail does a call on a copy of a disk, with a failure after so many steps, and returns the copy and the call's result.
// The journal has written the old records so many times before.
func fail(t *testing.T, d *disk.Disk, old []string, times int, c change, steps int) (*disk.Disk, api.Errno) {
	t.Helper()
	d = d.Clone()
	j := open(t, "P5.5", d)
	for range times {
		replace(t, j, old...)
	}
	d.Trip(steps)
	e := c.call(j)
	if e != api.OK && e != api.ErrDown {
		t.Fatalf("P5.5: %s: error %d", c.name, e)
	}
	if (e == api.ErrDown) == d.Up() {
		t.Fatalf("P5.5: %s: error %d, power %v", c.name, e, d.Up())
	}
	return d, e
}

// reopen opens the journal of a disk, with failures while it is opened.
func reopen(t *testing.T, r *rand.Rand, d *disk.Disk) *journal.Journal {
	t.Helper()
	for steps := 0; ; steps++ {
		d.Trip(r.IntN(steps + 1))
		j, e := journal.Open(d)
		if e == api.OK {
			d.Trip(-1)
			return j
		}
		if check(t, "P5.5: Open", e, api.ErrDown); j != nil || d.Up() || steps > 10000 {
			t.Fatalf("P5.5: Open gives %v, power %v", j, d.Up())
		}
		picks := make([]int, len(d.Pending()))
		for k := range picks {
			picks[k] = r.IntN(129)
		}
		d.Mount(picks)
	}
}

// checkFailures lets the power fail at each step of a call, mounts the disk in many ways, and opens the journal; it
// returns disks on which this has happened.
func checkFailures(t *testing.T, r *rand.Rand, d *disk.Disk, old []string, times int, c change) []*disk.Disk {
	t.Helper()
	var after []*disk.Disk
	for steps := 0; ; steps++ {
		torn, result := fail(t, d, old, times, c, steps)
		if result == api.OK {
			checkDisk(t, "P5.5: "+c.name+" returned OK", torn, c.want)
			return after
		}
		for i, picks := range choices(r, len(torn.Pending())) {
			m := torn.Clone()
			m.Mount(picks)
			j := reopen(t, r, m)
			got := j.Records()
			if !slices.Equal(got, old) && !slices.Equal(got, c.want) {
				t.Fatalf("P5.5: %s, failure after %d steps, picks %v: %.300q, neither %.300q nor %.300q", c.name, steps, picks, got, old, c.want)
			}
			checkRecords(t, "P5.5", m, j, got)
			checkDisk(t, "P5.5: opened again", m, got)
			if i%7 == 0 {
				add := appending(got, "")
				if used(add.want) <= capacity(m.Len()) {
					check(t, "P5.3: after a failure", add.call(j), api.OK)
					checkDisk(t, "P5.5: after a failure", m, add.want)
				}
				after = append(after, m)
			}
		}
	}
}

func TestFailures(t *testing.T) {
	r := rand.New(rand.NewPCG(5, 3))
	for _, pages := range []int{4, 5, 6, 9} {
		for range 3 {
			// The two halves, or whatever there is, have been used before.
			d := fresh(t, pages)
			old := some(r, capacity(pages))
			j := open(t, "P5.1", d)
			for range r.IntN(3) {
				replace(t, j, some(r, capacity(pages))...)
			}
			replace(t, j, old...)
			for _, c := range []change{
				replacing(nil), replacing(some(r, capacity(pages))), replacing(slices.Clone(old)),
				replacing([]string{noise(r, capacity(pages)-2)}), appending(old, ""), appending(old, noise(r, 40)),
			} {
				if used(c.want) <= capacity(pages) {
					checkFailures(t, r, d, old, 0, c)
					checkFailures(t, r, d, old, 1, c)
				}
			}
		}
		checkFailures(t, r, fresh(t, pages), nil, 0, appending(nil, noise(r, capacity(pages)-2)))
	}
}

// TestFailuresInARow lets the power fail in call after call, so that what a failure left is there at the next one.
func TestFailuresInARow(t *testing.T) {
	r := rand.New(rand.NewPCG(5, 4))
	for range 60 {
		pages := 4 + r.IntN(8)
		d := fresh(t, pages)
		var records []string
		for range 60 {
			j := reopen(t, r, d)
			checkRecords(t, "P5.5", d, j, records)
			d.Trip(r.IntN(40))
			var c change
			for {
				c = replacing(some(r, capacity(pages)))
				if a := appending(records, noise(r, r.IntN(60))); r.IntN(2) == 0 && used(a.want) <= capacity(pages) {
					c = a
				}
				if e := c.call(j); e != api.OK {
					check(t, "P5.5: "+c.name, e, api.ErrDown)
					break
				}
				records = c.want
				checkRecords(t, "P5.5", d, j, records)
			}
			checkRecords(t, "P5.2: after an error", d, j, records)
			picks := make([]int, len(d.Pending()))
			for k := range picks {
				picks[k] = r.IntN(130) - 1
			}
			d.Mount(picks)
			check(t, "P5.3: closed", appending(nil, "").call(j), api.ErrDown)
			got := open(t, "P5.5", d).Records()
			if !slices.Equal(got, records) && !slices.Equal(got, c.want) {
				t.Fatalf("P5.5: %s: neither the old records nor the new ones", c.name)
			}
			records = got
		}
	}
}

// TestNoPowerBetween mounts a disk while a journal is in use, which loses nothing, since nothing is pending.
func TestNoPowerBetween(t *testing.T) {
	d := fresh(t, 6)
	j := open(t, "P5.1", d)
	var records []string
	for k := range 10 {
		records = append(records, strings.Repeat("m", k))
		add(t, j, records[k])
		if len(d.Pending()) != 0 {
			t.Error("P5.7: a page is pending after OK")
		}
		d.Mount([]int{0, 0, 0, 0, 0, 0})
		checkDisk(t, "P5.7", d, records)
	}
}

// checkRot opens the journal of a disk, a bit of which has rotted, and returns whether it was opened.
func checkRot(t *testing.T, d *disk.Disk, want []string, i, bit int) bool {
	t.Helper()
	j, e := journal.Open(d)
	if e == api.OK {
		checkRecords(t, "P5.6", d, j, want)
		return true
	}
	if check(t, "P5.6", e, api.ErrCorrupt); j != nil {
		t.Fatal("P5.6: a journal with an error")
	}
	return false
}

// checkEachRot lets each bit of a disk rot.
func checkEachRot(t *testing.T, d *disk.Disk, want []string) {
	t.Helper()
	for i := range d.Len() {
		for bit := range 1024 {
			c := d.Clone()
			c.Rot(i, bit)
			opened := checkRot(t, c, want, i, bit)
			if checkRot(t, c, want, i, bit) != opened {
				t.Fatal("P5.6: Open does not give the same again")
			}
			// Where it was opened the bit counts as rotted once more.
			c.Rot(i, bit)
			if !checkRot(t, c, want, i, bit) && !opened {
				t.Fatalf("P5.6: ErrCorrupt after the bit %d of page %d was restored", bit, i)
			}
		}
	}
}

func TestRot(t *testing.T) {
	r := rand.New(rand.NewPCG(5, 5))
	for _, pages := range []int{4, 5, 6, 8} {
		d := fresh(t, pages)
		j := open(t, "P5.1", d)
		checkEachRot(t, d, nil)
		var last []string
		for range 4 {
			last = some(r, capacity(pages))
			replace(t, j, last...)
			checkEachRot(t, d, last)
			if j.Room() > 1 {
				last = append(last, noise(r, r.IntN(j.Room()-1)))
				add(t, j, last[len(last)-1])
				checkEachRot(t, d, last)
			}
		}
		for _, zeros := range [][]string{nil, {""}, {"", "", ""}, {strings.Repeat("\x00", capacity(pages)-2)}} {
			replace(t, j, zeros...)
			checkEachRot(t, d, zeros)
		}
	}
}

// TestRotAfterFailure lets bits rot on disks on which the power has failed, and whose journal was opened since then.
func TestRotAfterFailure(t *testing.T) {
	r := rand.New(rand.NewPCG(5, 6))
	d := fresh(t, 6)
	j := open(t, "P5.1", d)
	old := []string{"one", noise(r, 130), ""}
	replace(t, j, some(r, 256)...)
	replace(t, j, old...)
	c := replacing([]string{noise(r, 200), "two"})
	for k, d := range checkFailures(t, r, d, old, 0, c) {
		if k%20 == 0 {
			checkEachRot(t, d, open(t, "P5.5", d).Records())
		}
	}
}

// TestRotAgain lets a bit rot after each call that returned OK: what has rotted before such a call does no harm.
func TestRotAgain(t *testing.T) {
	r := rand.New(rand.NewPCG(5, 7))
	for range 40 {
		pages := 4 + r.IntN(5)
		d := fresh(t, pages)
		j := open(t, "P5.1", d)
		var records []string
		for range 300 {
			i, bit := r.IntN(d.Len()), r.IntN(1024)
			if r.IntN(2) == 0 {
				// The bits at the beginnings of pages are more likely to be of use.
				bit = r.IntN(200)
			}
			d.Rot(i, bit)
			if r.IntN(3) == 0 {
				if !checkRot(t, d, records, i, bit) {
					d.Rot(i, bit)
					checkDisk(t, "P5.6: restored", d, records)
				}
				continue
			}
			if r.IntN(2) == 0 && j.Room() > 1 {
				records = append(slices.Clone(records), noise(r, r.IntN(min(50, j.Room()-1))))
				add(t, j, records[len(records)-1])
			} else {
				records = some(r, capacity(pages))
				replace(t, j, records...)
			}
			checkDisk(t, "P5.6: no bit has rotted since the last call", d, records)
		}
	}
}

// TestEqualHistories compares journals on equal disks: results depend on nothing else.
func TestEqualHistories(t *testing.T) {
	course := func() []string {
		r := rand.New(rand.NewPCG(5, 8))
		d := fresh(t, 8)
		j := open(t, "P5.1", d)
		for range 30 {
			replace(t, j, some(r, 300)...)
			add(t, j, noise(r, 20))
		}
		return d.Image()
	}
	if !slices.Equal(course(), course()) {
		t.Error("P5.4: the same calls give different disks")
	}
}
