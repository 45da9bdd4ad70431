package field_test

import (
	"fmt"
	"math"
	"math/rand/v2"
	"regexp"
	"slices"
	"strconv"
	"strings"
	"testing"

	"interlace/api"
	"interlace/bits"
	"interlace/field"
)

// A second form of heads and patterns: a text of 160 characters, x for a free bit. What is expected is calculated with it.
type line = string

const headBits = 160

var free = strings.Repeat("x", headBits)

// lineOf returns the bits of a head as 160 characters.
func lineOf(h api.Head) line {
	var b strings.Builder
	for _, x := range h {
		fmt.Fprintf(&b, "%016b", x)
	}
	return b.String()
}

func headOf(s line) api.Head {
	var h api.Head
	for i := range h {
		h[i] = number(s[16*i : 16*i+16])
	}
	return h
}

func number(digits string) int {
	n, err := strconv.ParseUint(digits, 2, 16)
	if err != nil {
		panic(err)
	}
	return int(n)
}

func patternOf(s line) api.Pattern {
	mask := strings.NewReplacer("0", "1", "x", "0").Replace(s)
	return api.Pattern{Mask: headOf(mask), Bits: headOf(strings.ReplaceAll(s, "x", "0"))}
}

// part returns the bits of a field.
func part(f api.Field, s line) string { return s[f.At : f.At+f.Width] }

// with returns a line in which a field has other bits.
func with(f api.Field, s line, digits string) line { return s[:f.At] + digits + s[f.At+f.Width:] }

// digitsOf returns a value as bits.
func digitsOf(f api.Field, n int) string { return fmt.Sprintf("%0*b", f.Width, n) }

func power(n int) int { return int(math.Exp2(float64(n))) }

func source(seed uint64) *rand.Rand { return rand.New(rand.NewPCG(seed, 8)) }

var port = api.Field{Name: "port", At: 0, Width: 16}

// given are the fields of the chapter's examples.
func given() []api.Field {
	return []api.Field{{Name: "dst", At: 16, Width: 8}, {Name: "src", At: 24, Width: 8}, {Name: "kind", At: 33, Width: 3}}
}

// someList returns a right list, whose fields are in any order.
func someList(r *rand.Rand) []api.Field {
	var l []api.Field
	for at := 16 + r.IntN(20); at < 144 && len(l) < 16; {
		width := 1 + r.IntN(min(16, 16-at%16))
		l = append(l, api.Field{Name: someName(r), At: at, Width: width})
		at += width
		if r.IntN(3) == 0 {
			at += r.IntN(20)
		}
	}
	r.Shuffle(len(l), func(i, j int) { l[i], l[j] = l[j], l[i] })
	for i := range l {
		l[i].Name += strconv.Itoa(i)
	}
	return l
}

const letters = "abcdefghijklmnopqrstuvwxyz"

func someName(r *rand.Rand) string {
	s := string(letters[r.IntN(26)])
	for range r.IntN(20) {
		s += string((letters + "0123456789_")[r.IntN(37)])
	}
	return s
}

func someHead(r *rand.Rand) api.Head {
	var h api.Head
	for w := range h {
		h[w] = r.IntN(65536) & []int{65535, 0, 65535, r.IntN(65536)}[r.IntN(4)]
	}
	return h
}

// someField returns a field of a list, or the port.
func someField(r *rand.Rand, l []api.Field) api.Field {
	return append(slices.Clip(l), port)[r.IntN(len(l)+1)]
}

// everyField calls a function for each field of a word, and for the port.
func everyField(word int, f func(api.Field)) {
	f(port)
	for at := range 16 {
		for width := 1; at+width <= 16; width++ {
			f(api.Field{Name: "f", At: 16*word + at, Width: width})
		}
	}
}

// someValues returns values of a field, the least and the greatest among them.
func someValues(r *rand.Rand, f api.Field) []int {
	n := power(f.Width)
	return []int{0, n - 1, n / 2, n/2 - 1, r.IntN(n), r.IntN(n)}
}

func TestName(t *testing.T) {
	for _, s := range []string{"a", "z", "port", "tag", "dst", "a_", "a0", "z9", "a__9", "abcdefghijklmnopqrstuvwx", "a23456789_123456789_1234", strings.Repeat("z", 24)} {
		if !field.Name(s) {
			t.Errorf("P8.1: %q is no name", s)
		}
	}
	for _, s := range []string{"", "_", "0", "9a", "_a", "A", "aB", "a b", " a", "a ", "a-b", "a.b", "a\n", "a\x00", "\x00", "é", "aé", "a\xff", "\xff", "ａ", "aａ", "a٣", "a\u0301", "abcdefghijklmnopqrstuvwxy", strings.Repeat("z", 25), strings.Repeat("z", 1<<20), strings.Repeat("a", 23) + "é"} {
		if field.Name(s) {
			t.Errorf("P8.1: %.30q is a name", s)
		}
	}
	for c := range 256 { // each byte alone, at the beginning, and behind another one
		s := string([]byte{byte(c)})
		letter, other := strings.Contains(letters, s), strings.Contains("0123456789_", s)
		if field.Name(s) != letter || field.Name(s+"a") != letter || field.Name("a"+s) != (letter || other) || field.Name("a"+s+"a") != (letter || other) {
			t.Errorf("P8.1: the byte %d in a name", c)
		}
	}
}

func TestCheck(t *testing.T) {
	f := func(name string, at, width int) api.Field { return api.Field{Name: name, At: at, Width: width} }
	full := func(n int) []api.Field {
		var l []api.Field
		for i := range n {
			l = append(l, f("f"+strconv.Itoa(i), 16+i, 1))
		}
		return l
	}
	many := make([]api.Field, 17)
	for _, x := range []struct {
		what string
		l    []api.Field
		want api.Errno
	}{
		{"none", nil, api.OK},
		{"the example", given(), api.OK},
		{"dst twice", append(given(), given()[0]), api.ErrName},
		{"kind At 30", append(given()[:2], f("kind", 30, 3)), api.ErrArg},
		{"16 fields", full(16), api.OK},
		{"17 fields", full(17), api.ErrLimit},
		{"17 wrong fields", many, api.ErrLimit},
		{"16 wrong fields", many[:16], api.ErrName},
		{"no name", []api.Field{f("", 16, 1)}, api.ErrName},
		{"a bad name", []api.Field{f("Dst", 16, 1)}, api.ErrName},
		{"a bad name and bad bits", []api.Field{f("d-", 0, 0)}, api.ErrName},
		{"port", []api.Field{f("port", 16, 1)}, api.ErrName},
		{"port and bad bits", []api.Field{port}, api.ErrName},
		{"tag is a name", []api.Field{f("tag", 16, 1)}, api.OK},
		{"the last name twice", []api.Field{f("a", 16, 1), f("b", 17, 1), f("b", 18, 1)}, api.ErrName},
		{"a name twice and common bits", []api.Field{f("a", 16, 1), f("a", 16, 1)}, api.ErrName},
		{"common bits", []api.Field{f("a", 16, 1), f("b", 16, 1)}, api.ErrArg},
		{"one common bit", []api.Field{f("a", 16, 8), f("b", 23, 2)}, api.ErrArg},
		{"one common bit, the other way", []api.Field{f("a", 23, 2), f("b", 16, 8)}, api.ErrArg},
		{"one inside", []api.Field{f("a", 16, 16), f("b", 20, 1)}, api.ErrArg},
		{"one around", []api.Field{f("a", 20, 1), f("b", 16, 16)}, api.ErrArg},
		{"common bits with the first of three", []api.Field{f("a", 16, 2), f("b", 18, 2), f("c", 17, 1)}, api.ErrArg},
		{"neighbours", []api.Field{f("a", 17, 2), f("b", 19, 2), f("c", 16, 1)}, api.OK},
		{"the first wrong one counts, bits first", []api.Field{f("a", 15, 1), f("", 16, 1)}, api.ErrArg},
		{"the first wrong one counts, the name first", []api.Field{f("", 16, 1), f("a", 15, 1)}, api.ErrName},
		{"a right one, wrong bits, a wrong name", []api.Field{f("a", 16, 1), f("b", 16, 1), f("a", 17, 1)}, api.ErrArg},
		{"width 0", []api.Field{f("a", 16, 0)}, api.ErrArg},
		{"width -1", []api.Field{f("a", 17, -1)}, api.ErrArg},
		{"width 16", []api.Field{f("a", 16, 16)}, api.OK},
		{"width 17", []api.Field{f("a", 16, 17)}, api.ErrArg},
		{"the word 0", []api.Field{f("a", 0, 16)}, api.ErrArg},
		{"the bit 15", []api.Field{f("a", 15, 1)}, api.ErrArg},
		{"the bits 15 and 16", []api.Field{f("a", 15, 2)}, api.ErrArg},
		{"the bit 16", []api.Field{f("a", 16, 1)}, api.OK},
		{"the bit 143", []api.Field{f("a", 143, 1)}, api.OK},
		{"the bits 143 and 144", []api.Field{f("a", 143, 2)}, api.ErrArg},
		{"the bit 144", []api.Field{f("a", 144, 1)}, api.ErrArg},
		{"the last bit", []api.Field{f("a", 159, 1)}, api.ErrArg},
		{"behind all", []api.Field{f("a", 160, 1)}, api.ErrArg},
		{"before all", []api.Field{f("a", -1, 1)}, api.ErrArg},
		{"a word before all", []api.Field{f("a", -16, 16)}, api.ErrArg},
		{"two words", []api.Field{f("a", 31, 2)}, api.ErrArg},
		{"greatest numbers", []api.Field{f("a", math.MaxInt, math.MaxInt)}, api.ErrArg},
		{"the greatest width", []api.Field{f("a", 16, math.MaxInt)}, api.ErrArg},
		{"the greatest at", []api.Field{f("a", math.MaxInt, 1)}, api.ErrArg},
		{"least numbers", []api.Field{f("a", math.MinInt, math.MinInt)}, api.ErrArg},
		{"the least at", []api.Field{f("a", math.MinInt, 16)}, api.ErrArg},
		{"the least width", []api.Field{f("a", 16, math.MinInt)}, api.ErrArg},
	} {
		before := slices.Clone(x.l)
		if e := field.Check(x.l); e != x.want {
			t.Errorf("P8.1: Check of %s is error %d instead of %d", x.what, e, x.want)
		}
		if !slices.Equal(x.l, before) {
			t.Errorf("P8.1: Check of %s changes it", x.what)
		}
	}
}

var nameForm = regexp.MustCompile(`^[a-z][a-z0-9_]{0,23}$`)

// check is the second way to Check: with the sets of the names and of the bits so far.
func check(l []api.Field) api.Errno {
	if len(l) > 16 {
		return api.ErrLimit
	}
	names, taken := map[string]bool{"port": true}, map[int]bool{}
	for _, f := range l {
		if !nameForm.MatchString(f.Name) || names[f.Name] {
			return api.ErrName
		}
		if f.Width < 1 || f.Width > 16 {
			return api.ErrArg
		}
		names[f.Name] = true
		for b := f.At; b < f.At+f.Width; b++ {
			if b < 16 || b > 143 || b/16 != f.At/16 || taken[b] {
				return api.ErrArg
			}
			taken[b] = true
		}
	}
	return api.OK
}

func TestCheckChanged(t *testing.T) {
	r := source(1)
	seen := map[api.Errno]int{}
	for range 4000 {
		l := someList(r)
		if e := field.Check(l); e != api.OK {
			t.Fatalf("P8.1: Check of %v is error %d", l, e)
		}
		for range r.IntN(4) {
			f := &l[r.IntN(len(l))]
			switch r.IntN(6) {
			case 0:
				f.Name = []string{"", "port", "Port", "a b", "0a", l[0].Name, l[len(l)-1].Name, someName(r)}[r.IntN(8)]
			case 1:
				f.At += r.IntN(9) - 4
			case 2:
				f.Width += r.IntN(5) - 2
			case 3:
				f.At = r.IntN(200) - 20
			case 4:
				f.Width = r.IntN(20) - 1
			case 5:
				l = append(l, api.Field{Name: someName(r), At: 16 + r.IntN(128), Width: 1})
			}
		}
		want := check(l)
		if e := field.Check(l); e != want {
			t.Fatalf("P8.1: Check of %v is error %d instead of %d", l, e, want)
		}
		seen[want]++
	}
	for _, e := range []api.Errno{api.OK, api.ErrArg, api.ErrLimit, api.ErrName} {
		if seen[e] == 0 {
			t.Errorf("P8.1: no list with the error %d", e)
		}
	}
}

func TestFind(t *testing.T) {
	r := source(2)
	for range 200 {
		l := someList(r)
		before := slices.Clone(l)
		for _, f := range l {
			if got, ok := field.Find(l, f.Name); got != f || !ok {
				t.Fatalf("P8.2: Find of %q is %v, %v", f.Name, got, ok)
			}
		}
		if got, ok := field.Find(l, "port"); got != port || !ok {
			t.Fatalf("P8.2: Find of port is %v, %v", got, ok)
		}
		for _, s := range []string{"", "Port", "por", "ports", "tag", l[0].Name + "_", l[0].Name[1:], strings.ToUpper(l[0].Name)} {
			if got, ok := field.Find(l, s); got != (api.Field{}) || ok {
				t.Fatalf("P8.2: Find of %q is %v, %v", s, got, ok)
			}
		}
		if !slices.Equal(l, before) {
			t.Fatal("P8.2: Find changes the list")
		}
	}
	if got, ok := field.Find(nil, "port"); got != port || !ok {
		t.Errorf("P8.2: Find of port among no fields is %v, %v", got, ok)
	}
	if got, ok := field.Find(nil, "dst"); got != (api.Field{}) || ok {
		t.Errorf("P8.2: Find among no fields is %v, %v", got, ok)
	}
}

func TestValues(t *testing.T) {
	r := source(3)
	for word := 1; word <= 8; word++ {
		everyField(word, func(f api.Field) {
			if n := field.Max(f); n != power(f.Width)-1 {
				t.Fatalf("P8.2: Max of %v is %d", f, n)
			}
			h := someHead(r)
			if n := field.Get(f, h); n != number(part(f, lineOf(h))) {
				t.Fatalf("P8.2: Get of %v of %v is %d", f, h, n)
			}
			for _, n := range someValues(r, f) {
				before := h
				want := headOf(with(f, lineOf(h), digitsOf(f, n)))
				if got := field.Set(f, h, n); got != want || h != before {
					t.Fatalf("P8.2: Set(%v, %v, %d) is %v", f, h, n, got)
				}
			}
		})
	}
}

func TestPatterns(t *testing.T) {
	r := source(4)
	for word := 1; word <= 8; word++ {
		everyField(word, func(f api.Field) {
			for _, n := range someValues(r, f) {
				digits := digitsOf(f, n)
				want := patternOf(with(f, free, digits))
				if p := field.Equal(f, n); p != want {
					t.Fatalf("P8.3: Equal(%v, %d) is %v", f, n, p)
				}
				if m := field.Mod(f, n); m != api.Mod(want) {
					t.Fatalf("P8.3: Mod(%v, %d) is %v", f, n, m)
				}
				for m := range f.Width + 1 {
					want := patternOf(with(f, free, digits[:m]+free[:f.Width-m]))
					if p := field.Prefix(f, n, m); p != want {
						t.Fatalf("P8.3: Prefix(%v, %d, %d) is %v", f, n, m, p)
					}
				}
			}
		})
	}
}

// blocks is the second way to Range: by halves of all values, those that lie within the range.
func blocks(f api.Field, prefix string, lo, hi int) []api.Pattern {
	rest := f.Width - len(prefix)
	first := 0
	if prefix != "" {
		first = number(prefix) * power(rest)
	}
	last := first + power(rest) - 1
	switch {
	case last < lo || hi < first:
		return nil
	case lo <= first && last <= hi:
		return []api.Pattern{patternOf(with(f, free, prefix+free[:rest]))}
	}
	return append(blocks(f, prefix+"0", lo, hi), blocks(f, prefix+"1", lo, hi)...)
}

// checkRange checks the patterns of a range, which are not too many, and of which no two overlap.
func checkRange(t *testing.T, f api.Field, lo, hi int) {
	t.Helper()
	l := field.Range(f, lo, hi)
	if want := blocks(f, "", lo, hi); !slices.Equal(l, want) {
		t.Fatalf("P8.3: Range(%v, %d, %d) is %v instead of %v", f, lo, hi, l, want)
	}
	if direct, e := bits.Range(f.At, f.Width, lo, hi); e != api.OK || !slices.Equal(l, direct) {
		t.Fatalf("P8.3: Range(%v, %d, %d) is %v instead of %v", f, lo, hi, l, direct)
	}
	if len(l) > max(1, 2*f.Width-2) {
		t.Fatalf("P8.8: Range(%v, %d, %d) has %d patterns", f, lo, hi, len(l))
	}
	for i, p := range l {
		for _, q := range l[:i] {
			if bits.Overlap(p, q) {
				t.Fatalf("P8.8: Range(%v, %d, %d) has %v and %v", f, lo, hi, p, q)
			}
		}
	}
}

func TestRange(t *testing.T) {
	for _, at := range []int{16, 19, 27, 75, 139} {
		for width := 1; width <= 5 && at%16+width <= 16; width++ {
			f := api.Field{Name: "f", At: at, Width: width}
			for lo := range power(width) {
				for hi := lo; hi < power(width); hi++ {
					checkRange(t, f, lo, hi)
				}
				for hi := range lo {
					if l := field.Range(f, lo, hi); len(l) != 0 {
						t.Fatalf("P8.3: Range(%v, %d, %d) is %v", f, lo, hi, l)
					}
				}
			}
		}
	}
	r := source(5)
	for word := 1; word <= 8; word++ {
		everyField(word, func(f api.Field) {
			last := power(f.Width) - 1
			checkRange(t, f, 0, last)
			checkRange(t, f, min(1, last), max(last-1, min(1, last)))
			for range 5 {
				lo, hi := r.IntN(last+1), r.IntN(last+1)
				checkRange(t, f, min(lo, hi), max(lo, hi))
				if l := field.Range(f, max(lo, hi), min(lo, hi)); lo != hi && len(l) != 0 {
					t.Fatalf("P8.3: Range(%v, %d, %d) is %v", f, max(lo, hi), min(lo, hi), l)
				}
			}
		})
	}
	if n := len(field.Range(port, 1, 65534)); n != 30 {
		t.Errorf("P8.8: the longest Range has %d patterns", n)
	}
}

func TestKey(t *testing.T) {
	r := source(6)
	for range 300 {
		l, h := someList(r), someHead(r)
		var names []string
		var want []int
		for range r.IntN(6) {
			f := someField(r, l)
			names = append(names, f.Name)
			want = append(want, number(part(f, lineOf(h))))
		}
		fields, asked := slices.Clone(l), slices.Clone(names)
		if key, ok := field.Key(l, names, h); !ok || !slices.Equal(key, want) {
			t.Fatalf("P8.4: Key of %v is %v, %v instead of %v", names, key, ok, want)
		}
		if !slices.Equal(l, fields) || !slices.Equal(names, asked) {
			t.Fatal("P8.4: Key changes its arguments")
		}
		for i := range len(names) + 1 {
			for _, s := range []string{"", "Port", "tag", "unknown-"} {
				if key, ok := field.Key(l, slices.Insert(slices.Clone(names), i, s), h); ok || len(key) != 0 {
					t.Fatalf("P8.4: Key with %q is %v, %v", s, key, ok)
				}
			}
		}
	}
	for _, l := range [][]api.Field{nil, given()} {
		if key, ok := field.Key(l, nil, api.Head{7}); !ok || len(key) != 0 {
			t.Errorf("P8.4: Key of no names is %v, %v", key, ok)
		}
		if key, ok := field.Key(l, []string{"port", "port"}, api.Head{7}); !ok || !slices.Equal(key, []int{7, 7}) {
			t.Errorf("P8.4: Key of port twice is %v, %v", key, ok)
		}
	}
}

// textOf is the second way to Text.
func textOf(h api.Head) string {
	var l []string
	for _, x := range h {
		l = append(l, fmt.Sprintf("%04x", x))
	}
	return strings.Join(l, ".")
}

func TestText(t *testing.T) {
	r := source(7)
	heads := []api.Head{{}, headOf(strings.Repeat("1", headBits))}
	for range 3000 {
		heads = append(heads, someHead(r))
	}
	for _, h := range heads {
		s := field.Text(h)
		if s != textOf(h) {
			t.Fatalf("P8.5: Text is %q instead of %q", s, textOf(h))
		}
		if got, e := field.Parse(s); got != h || e != api.OK {
			t.Fatalf("P8.9: Parse(%q) is error %d, %v", s, e, got)
		}
	}
}

var textForm = regexp.MustCompile(`^[0-9a-f]{4}(\.[0-9a-f]{4}){9}$`)

// parse is the second way to Parse.
func parse(s string) (api.Head, bool) {
	var h api.Head
	if strings.Contains(s, "\n") || !textForm.MatchString(s) {
		return h, false
	}
	for w, x := range strings.Split(s, ".") {
		fmt.Sscanf(x, "%x", &h[w])
	}
	return h, true
}

func checkParse(t *testing.T, s string) bool {
	t.Helper()
	want, ok := parse(s)
	got, e := field.Parse(s)
	if ok && (e != api.OK || got != want) || !ok && (e != api.ErrSyntax || got != api.Head{}) {
		t.Fatalf("P8.5: Parse(%.80q) is error %d, %v, instead of %v, %v", s, e, got, ok, want)
	}
	if ok && field.Text(got) != s {
		t.Fatalf("P8.9: Text of Parse(%q) is %q", s, field.Text(got))
	}
	return ok
}

func TestParse(t *testing.T) {
	r := source(8)
	good := 0
	for range 60 {
		s := textOf(someHead(r))
		for i := range len(s) {
			for _, c := range []string{"", "0", "1", "9", "a", "f", "g", "A", "F", ".", "..", "/", ":", "`", " ", "\x00", "\n", "\xff", "-", "+", "x", "_", "０"} {
				for _, x := range []string{s[:i] + c + s[i+1:], s[:i] + c + s[i:]} {
					if checkParse(t, x) {
						good++
					}
				}
			}
			checkParse(t, s[:i])
			checkParse(t, s[i+1:])
		}
		for _, x := range []string{s + ".", s + ".0000", s + "0", "." + s, s + "\n", " " + s, s + s, s + "." + s, strings.ToUpper(s) + "A", strings.ReplaceAll(s, ".", ""), strings.ReplaceAll(s, ".", " ")} {
			checkParse(t, x)
		}
	}
	if good == 0 {
		t.Error("P8.5: no changed text is a text")
	}
	rest := strings.Repeat(".0000", 9)
	for _, x := range []string{"", "0", "000", "00000", "0x00", "0X0f", "+001", "-001", "1_00", "1e+1", "00 1", "FFFF", "fffF", "000g", "000/", "000:", "000@", "000`", "００", "\x00\x00\x00\x00", "1234.5678"} {
		for _, s := range []string{x + rest, rest[1:] + "." + x} {
			if h, e := field.Parse(s); e != api.ErrSyntax || h != (api.Head{}) {
				t.Errorf("P8.5: Parse(%q) is error %d, %v", s, e, h)
			}
		}
	}
	for _, s := range []string{"", ".", strings.Repeat(".", 9), strings.Repeat("0", 49), strings.Repeat("0000.", 10), strings.Repeat(".", 1<<20), strings.Repeat("0000.", 1<<18)} {
		if h, e := field.Parse(s); e != api.ErrSyntax || h != (api.Head{}) {
			t.Errorf("P8.5: Parse(%.20q) is error %d, %v", s, e, h)
		}
	}
}

// showOf is the second way to Show.
func showOf(l []api.Field, h api.Head) string {
	s := fmt.Sprintf("port=%d", h[0])
	for _, f := range l {
		s += fmt.Sprintf(" %s=%d", f.Name, number(part(f, lineOf(h))))
	}
	if h[9] != 0 {
		s += fmt.Sprintf(" tag=%d", h[9])
	}
	return s
}

func TestShow(t *testing.T) {
	r := source(9)
	for range 500 {
		l, h := someList(r), someHead(r)
		before := slices.Clone(l)
		if s := field.Show(l, h); s != showOf(l, h) {
			t.Fatalf("P8.6: Show is %q instead of %q", s, showOf(l, h))
		}
		if !slices.Equal(l, before) {
			t.Fatal("P8.6: Show changes the list")
		}
	}
	tag := []api.Field{{Name: "tag", At: 140, Width: 4}}
	for _, x := range []struct {
		l    []api.Field
		h    api.Head
		want string
	}{
		{nil, api.Head{}, "port=0"},
		{nil, api.Head{65535, 1, 2, 3, 4, 5, 6, 7, 8, 65535}, "port=65535 tag=65535"},
		{nil, api.Head{9: 1}, "port=0 tag=1"},
		{given(), api.Head{}, "port=0 dst=0 src=0 kind=0"},
		{given(), api.Head{10000, 0xff0a, 0x8fff, 9: 12}, "port=10000 dst=255 src=10 kind=0 tag=12"},
		{tag, api.Head{8: 3}, "port=0 tag=3"},
		{tag, api.Head{8: 3, 9: 4}, "port=0 tag=3 tag=4"},
	} {
		if s := field.Show(x.l, x.h); s != x.want {
			t.Errorf("P8.6: Show is %q instead of %q", s, x.want)
		}
	}
}

func TestGetOfSet(t *testing.T) {
	r := source(10)
	for range 300 {
		l, h := someList(r), someHead(r)
		all := append(slices.Clone(l), port)
		for i, f := range all {
			n := r.IntN(field.Max(f) + 1)
			changed := field.Set(f, h, n)
			if got := field.Get(f, changed); got != n {
				t.Fatalf("P8.7: Get of Set(%v, %d) is %d", f, n, got)
			}
			if got := field.Set(f, h, field.Get(f, h)); got != h {
				t.Fatalf("P8.7: Set of the value of %v makes %v of %v", f, got, h)
			}
			for j, g := range all {
				if i != j && field.Get(g, changed) != field.Get(g, h) {
					t.Fatalf("P8.7: Set of %v changes %v", f, g)
				}
			}
			if changed[9] != h[9] {
				t.Fatalf("P8.7: Set of %v changes the tag", f)
			}
		}
	}
}

func TestMatches(t *testing.T) {
	r := source(11)
	for range 4000 {
		l, h := someList(r), someHead(r)
		f := someField(r, l)
		x := field.Get(f, h)
		n, m := []int{x, r.IntN(field.Max(f) + 1)}[r.IntN(2)], r.IntN(f.Width+1)
		if bits.Match(field.Equal(f, n), h) != (x == n) {
			t.Fatalf("P8.8: Equal(%v, %d) and %v", f, n, h)
		}
		if bits.Match(field.Prefix(f, n, m), h) != (x/power(f.Width-m) == n/power(f.Width-m)) {
			t.Fatalf("P8.8: Prefix(%v, %d, %d) and %v", f, n, m, h)
		}
		lo, hi := r.IntN(field.Max(f)+1), r.IntN(field.Max(f)+1)
		if r.IntN(3) == 0 {
			lo = x
		}
		count := 0
		for _, p := range field.Range(f, lo, hi) {
			if bits.Match(p, h) {
				count++
			}
		}
		if (count == 1) != (lo <= x && x <= hi) || count > 1 {
			t.Fatalf("P8.8: Range(%v, %d, %d) and %v: %d patterns match", f, lo, hi, h, count)
		}
		mod := field.Mod(f, n)
		if !bits.RightMod(mod) || bits.Apply(mod, h) != field.Set(f, h, n) {
			t.Fatalf("P8.8: Mod(%v, %d) makes %v of %v", f, n, bits.Apply(mod, h), h)
		}
	}
}

// TestExamples has the examples of the chapter.
func TestExamples(t *testing.T) {
	l, h := given(), api.Head{5, 0x1234, 0x7000}
	kind := l[2]
	if key, ok := field.Key(l, []string{"dst", "src", "kind", "port"}, h); !ok || !slices.Equal(key, []int{18, 52, 7, 5}) {
		t.Error("P8.4: Key is", key, ok)
	}
	for i, want := range []int{18, 52, 7, 5} {
		if n := field.Get(append(given(), port)[i], h); n != want {
			t.Errorf("P8.2: Get is %d instead of %d", n, want)
		}
	}
	if got := field.Set(kind, h, 2); got != (api.Head{5, 0x1234, 0x2000}) {
		t.Error("P8.2: Set is", got)
	}
	if p := field.Equal(l[1], 52); p != (api.Pattern{Mask: api.Head{1: 255}, Bits: api.Head{1: 52}}) {
		t.Error("P8.3: Equal is", p)
	}
	if p := field.Prefix(l[0], 18, 3); p != (api.Pattern{Mask: api.Head{1: 57344}}) {
		t.Error("P8.3: Prefix is", p)
	}
	if s := field.Text(h); s != "0005.1234.7000.0000.0000.0000.0000.0000.0000.0000" {
		t.Error("P8.5: Text is", s)
	}
	if s := field.Show(l, h); s != "port=5 dst=18 src=52 kind=7" {
		t.Error("P8.6: Show is", s)
	}
	if key, ok := field.Key(l, []string{"kind", "port"}, h); !ok || !slices.Equal(key, []int{7, 5}) {
		t.Error("P8.4: Key is", key, ok)
	}
}

// TestNewMemory changes results, and asks again.
func TestNewMemory(t *testing.T) {
	l, names, h := given(), []string{"src", "dst"}, api.Head{5, 0x1234}
	key, _ := field.Key(l, names, h)
	again, _ := field.Key(l, names, h)
	key[0] = 99
	if !slices.Equal(again, []int{52, 18}) {
		t.Error("P8.4: Key becomes", again)
	}
	a, b := field.Range(l[0], 1, 6), field.Range(l[0], 1, 6)
	clear(a)
	if !slices.Equal(b, field.Range(l[0], 1, 6)) || len(b) != 4 {
		t.Error("P8.3: Range becomes", b)
	}
}

// TestWrongArguments has arguments for which results are not specified: the functions have to return all the same.
func TestWrongArguments(t *testing.T) {
	r := source(12)
	values := []int{0, 1, -1, 15, 16, 17, 63, 64, 65, -16, 159, 160, 65535, 65536, 1 << 40, math.MaxInt, math.MinInt, 12345}
	value := func() int { return values[r.IntN(len(values))] }
	for range 20000 {
		var h api.Head
		for w := range h {
			h[w] = value()
		}
		f := api.Field{Name: []string{"", "a", "port", "\xff"}[r.IntN(4)], At: value(), Width: value()}
		l := []api.Field{{Name: "b", At: 16, Width: value()}, f}
		field.Check(l)
		field.Find(l, "\xff")
		field.Max(f)
		field.Get(f, h)
		field.Set(f, h, value())
		field.Equal(f, value())
		field.Mod(f, value())
		field.Prefix(f, value(), value())
		field.Prefix(port, value(), value())
		field.Range(f, value(), value())
		field.Range(port, value(), value())
		field.Key(l, []string{"a", "b", ""}, h)
		field.Parse(field.Text(h))
		field.Show(l, h)
	}
}
