package bits_test

import (
	"fmt"
	"math"
	"math/big"
	"math/rand/v2"
	"slices"
	"strings"
	"testing"

	"interlace/api"
	"interlace/bits"
)

// A second form of sets: a text of 160 characters, x for a free bit. What is expected is calculated with it.
type line = string

const free = line("xxxxxxxxxxxxxxxxxxxxxxxxxxxxxxxxxxxxxxxxxxxxxxxxxxxxxxxxxxxxxxxxxxxxxxxxxxxxxxxx" +
	"xxxxxxxxxxxxxxxxxxxxxxxxxxxxxxxxxxxxxxxxxxxxxxxxxxxxxxxxxxxxxxxxxxxxxxxxxxxxxxxx")

// digitsOf returns the bits of a head as 160 characters.
func digitsOf(h api.Head) line {
	var b strings.Builder
	for _, x := range h {
		fmt.Fprintf(&b, "%016b", x)
	}
	return b.String()
}

func headOf(s line) api.Head {
	var h api.Head
	for i := range h {
		for _, c := range s[16*i : 16*i+16] {
			h[i] = 2*h[i] + int(c-'0')
		}
	}
	return h
}

func lineOf(mask, set api.Head) line {
	m, b := digitsOf(mask), []byte(digitsOf(set))
	for i := range b {
		if m[i] == '0' {
			b[i] = 'x'
		}
	}
	return string(b)
}

func maskOf(s line) api.Head { return headOf(strings.NewReplacer("0", "1", "x", "0").Replace(s)) }
func bitsOf(s line) api.Head { return headOf(strings.ReplaceAll(s, "x", "0")) }

// fixed returns the pattern with a line; what the line leaves out at its end is free.
func fixed(s line) api.Pattern {
	s += free[len(s):]
	return api.Pattern{Mask: maskOf(s), Bits: bitsOf(s)}
}

func mod(s line) api.Mod { return api.Mod(fixed(s)) }

func show(p api.Pattern) line {
	if !bits.Right(p) {
		return "wrong: " + fmt.Sprint(p)
	}
	return lineOf(p.Mask, p.Bits)
}

func showAll(l []api.Pattern) []line {
	var r []line
	for _, p := range l {
		r = append(r, show(p))
	}
	return r
}

func patterns(l []line) []api.Pattern {
	var r []api.Pattern
	for _, s := range l {
		r = append(r, fixed(s))
	}
	return r
}

// zip makes a line of two lines, character by character; false if there is none for two characters.
func zip(a, b line, f func(x, y byte) (byte, bool)) (line, bool) {
	r := make([]byte, len(a))
	for i := range r {
		var ok bool
		if r[i], ok = f(a[i], b[i]); !ok {
			return "", false
		}
	}
	return string(r), true
}

func both(x, y byte) (byte, bool) {
	switch {
	case x == 'x':
		return y, true
	case y == 'x' || x == y:
		return x, true
	}
	return 0, false
}

// meet is the second way to And.
func meet(a, b line) (line, bool) { return zip(a, b, both) }

func meets(a, b line) bool {
	for i := range len(a) {
		if a[i] != b[i] && a[i] != 'x' && b[i] != 'x' {
			return false
		}
	}
	return true
}

// over is the second way to Image, and to Then: the bits of m go over those of p.
func over(p, m line) line {
	r, _ := zip(p, m, func(x, y byte) (byte, bool) {
		if y == 'x' {
			return x, true
		}
		return y, true
	})
	return r
}

// minus is the second way to Minus.
func minus(p, q line) []line {
	if !meets(p, q) {
		return []line{p}
	}
	var l []line
	for i := range p {
		if p[i] == 'x' && q[i] != 'x' {
			l = append(l, p[:i]+string('0'+'1'-q[i])+p[i+1:])
			p = p[:i] + q[i:i+1] + p[i+1:]
		}
	}
	return l
}

// minusAll is the second way to MinusAll, with some other patterns that count, too.
func minusAll(p line, l []line, others int) ([]line, bool) {
	left := []line{p}
	for k := -1; k < len(l); k++ {
		if k >= 0 {
			var next []line
			for _, s := range left {
				next = append(next, minus(s, l[k])...)
			}
			left = next
		}
		if len(left)+others > 4000 {
			return nil, false
		}
	}
	return left, true
}

func sum(l []line) ([]line, bool) {
	var r []line
	for k, s := range l {
		left, ok := minusAll(s, l[:k], len(r))
		if !ok {
			return nil, false
		}
		r = append(r, left...)
	}
	return r, true
}

// least is the second way to Outside, by way of the parts that are left.
func least(p line, l []line) (line, bool) {
	left, ok := minusAll(p, l, -1<<30)
	best := ""
	for _, s := range left {
		if s = strings.ReplaceAll(s, "x", "0"); best == "" || s < best {
			best = s
		}
	}
	return best, ok && best != ""
}

// same is the second way to SameSet.
func same(a, b []line) (line, bool) {
	best := ""
	for _, x := range [][2][]line{{a, b}, {b, a}} {
		for _, p := range x[0] {
			if s, ok := least(p, x[1]); ok && (best == "" || s < best) {
				best = s
			}
		}
	}
	return best, best == ""
}

func source(seed uint64) *rand.Rand { return rand.New(rand.NewPCG(seed, 6)) }

// scatter returns a line in which each of some places is fixed with a probability.
func scatter(r *rand.Rand, places []int, chance float64) line {
	b := []byte(free)
	for _, i := range places {
		if r.Float64() < chance {
			b[i] = '0' + byte(r.IntN(2))
		}
	}
	return string(b)
}

func everywhere() []int {
	var l []int
	for i := range bits.Bits {
		l = append(l, i)
	}
	return l
}

// fill replaces all x of a line.
func fill(r *rand.Rand, s line) line {
	b := []byte(s)
	for i := range b {
		if b[i] == 'x' {
			b[i] = '0' + byte(r.IntN(2))
		}
	}
	return string(b)
}

// near returns a line like s, with some characters changed.
func near(r *rand.Rand, s line, changes int) line {
	b := []byte(s)
	for range changes {
		b[r.IntN(len(b))] = "01x"[r.IntN(3)]
	}
	return string(b)
}

// pairs visits pairs of lines that overlap, cover each other, or do not meet, and ones with all or no bits fixed.
func pairs(f func(a, b line)) {
	r := source(1)
	for range 3000 {
		a := scatter(r, everywhere(), []float64{0, 0.05, 0.5, 0.95, 1}[r.IntN(5)])
		b := a
		switch r.IntN(4) {
		case 0:
			b = scatter(r, everywhere(), []float64{0, 0.02, 0.1, 0.9, 1}[r.IntN(5)])
		case 1:
			b = near(r, a, r.IntN(4))
		case 2:
			b, _ = meet(a, scatter(r, everywhere(), 0.05))
			if b == "" {
				b = near(r, a, 1)
			}
		}
		if r.IntN(2) == 0 {
			a, b = b, a
		}
		f(a, b)
	}
}

func TestRight(t *testing.T) {
	var zero api.Head
	if !bits.RightHead(zero) || !bits.Right(api.Pattern{}) || !bits.RightMod(api.Mod{}) {
		t.Error("P6.1: zero is not right")
	}
	for w := range zero {
		for x, want := range map[int]bool{0: true, 1: true, 65535: true, -1: false, 65536: false, 65537: false, math.MaxInt: false, math.MinInt: false} {
			h := zero
			h[w] = x
			if bits.RightHead(h) != want {
				t.Errorf("P6.1: RightHead of %d in the word %d is %v", x, w, !want)
			}
			for _, y := range []int{0, 1, x} {
				b := zero
				b[w] = y
				p := api.Pattern{Mask: h, Bits: b}
				if ok := want && x&y == y; bits.Right(p) != ok || bits.RightMod(api.Mod(p)) != ok {
					t.Errorf("P6.1: Right or RightMod of the Mask %d and the Bits %d in the word %d is not %v", x, y, w, ok)
				}
			}
		}
		p := fixed("")
		p.Bits[w] = 32768
		if bits.Right(p) || bits.RightMod(api.Mod(p)) {
			t.Errorf("P6.1: bits without a mask are right in the word %d", w)
		}
		p.Mask[w] = 32768 + 1
		if !bits.Right(p) || !bits.RightMod(api.Mod(p)) {
			t.Errorf("P6.1: bits with a mask are not right in the word %d", w)
		}
		p.Mask[w], p.Bits[w] = 65536, 65536
		if bits.Right(p) || bits.RightMod(api.Mod(p)) {
			t.Errorf("P6.1: a mask of 17 bits is right in the word %d", w)
		}
		p.Mask[w], p.Bits[w] = -1, -1
		if bits.Right(p) || bits.RightMod(api.Mod(p)) {
			t.Errorf("P6.1: a negative mask is right in the word %d", w)
		}
	}
}

func TestBit(t *testing.T) {
	if bits.Bits != 160 || bits.MaxPatterns != 4000 {
		t.Error("P6.1: the constants are", bits.Bits, bits.MaxPatterns)
	}
	r := source(2)
	for range 100 {
		s := fill(r, free)
		h := headOf(s)
		for i := range bits.Bits {
			if b := bits.Bit(h, i); b != int(s[i]-'0') {
				t.Fatalf("P6.1: Bit(%v, %d) is %d", h, i, b)
			}
		}
	}
	h := api.Head{0, 0, 1 << 13}
	if bits.Bit(h, 34) != 1 || bits.Bit(h, 33) != 0 || bits.Bit(h, 35) != 0 {
		t.Error("P6.1: the bit 34 has the value 8192 in the word 2")
	}
}

func number(h api.Head) *big.Int {
	n, _ := new(big.Int).SetString(digitsOf(h), 2)
	return n
}

func TestCompare(t *testing.T) {
	pairs(func(a, b line) {
		p, q := fixed(a), fixed(b)
		for _, x := range [][2]api.Head{{p.Mask, q.Mask}, {p.Bits, q.Bits}, {p.Mask, q.Bits}, {p.Bits, p.Bits}} {
			if c := bits.CompareHeads(x[0], x[1]); c != number(x[0]).Cmp(number(x[1])) {
				t.Fatalf("P6.1: CompareHeads(%v, %v) is %d", x[0], x[1], c)
			}
		}
		want := number(p.Mask).Cmp(number(q.Mask))
		if want == 0 {
			want = number(p.Bits).Cmp(number(q.Bits))
		}
		if c := bits.Compare(p, q); c != want {
			t.Fatalf("P6.1: Compare is %d for\n%s\n%s", c, a, b)
		}
		q.Mask = p.Mask
		if c := bits.Compare(p, q); c != number(p.Bits).Cmp(number(q.Bits)) {
			t.Fatalf("P6.1: Compare is %d for one Mask and the Bits %v, %v", c, p.Bits, q.Bits)
		}
	})
}

func TestMatch(t *testing.T) {
	r := source(3)
	pairs(func(a, b line) {
		p := fixed(a)
		s := fill(r, b)
		h := headOf(s)
		if e := bits.Exact(h); show(e) != s || !bits.Match(e, h) {
			t.Fatalf("P6.2: Exact of %s is %s", s, show(e))
		}
		if bits.Match(p, h) != meets(a, s) {
			t.Fatalf("P6.2: Match is not %v for\n%s\n%s", meets(a, s), a, s)
		}
		inside := fill(r, a)
		if !bits.Match(p, headOf(inside)) {
			t.Fatalf("P6.2: Match is false for\n%s\n%s", a, inside)
		}
		for i := range a {
			other := inside[:i] + string('0'+'1'-inside[i]) + inside[i+1:]
			if bits.Match(p, headOf(other)) != (a[i] == 'x') {
				t.Fatalf("P6.2: Match is wrong with another bit %d for\n%s\n%s", i, a, other)
			}
		}
		if h := bits.Least(p); h != bitsOf(a) || !bits.Match(p, h) {
			t.Fatalf("P6.2: Least of %s is %v", a, h)
		}
		if n := bits.Free(p); n != strings.Count(a, "x") {
			t.Fatalf("P6.2: Free of %s is %d", a, n)
		}
	})
	if bits.Free(api.Pattern{}) != 160 || bits.Free(bits.Exact(api.Head{})) != 0 {
		t.Error("P6.2: Free of all heads, or of one head")
	}
}

func TestAnd(t *testing.T) {
	pairs(func(a, b line) {
		p, q := fixed(a), fixed(b)
		want, ok := meet(a, b)
		got, found := bits.And(p, q)
		if found != ok || ok && show(got) != want || !ok && got != (api.Pattern{}) {
			t.Fatalf("P6.3: And gives %v and\n%s\nfor\n%s\n%s", found, show(got), a, b)
		}
		if bits.Overlap(p, q) != ok {
			t.Fatalf("P6.3: Overlap is not %v for\n%s\n%s", ok, a, b)
		}
		if c := bits.Covers(p, q); c != (ok && want == b) || c != (found && got == q) {
			t.Fatalf("P6.3, P6.11: Covers is %v for\n%s\n%s", c, a, b)
		}
		back, foundBack := bits.And(q, p)
		if back != got || foundBack != found {
			t.Fatalf("P6.11: And is not commutative for\n%s\n%s", a, b)
		}
	})
}

func TestAndIsAssociative(t *testing.T) {
	r := source(4)
	places := []int{0, 15, 16, 17, 80, 159}
	and := func(p, q api.Pattern, ok bool) (api.Pattern, bool) {
		if !ok {
			return api.Pattern{}, false
		}
		return bits.And(p, q)
	}
	for range 2000 {
		p, q, s := fixed(scatter(r, places, 0.5)), fixed(scatter(r, places, 0.5)), fixed(scatter(r, places, 0.5))
		left, ok := bits.And(p, q)
		left, ok = and(left, s, ok)
		right, found := bits.And(q, s)
		right, found = and(p, right, found)
		if left != right || ok != found {
			t.Fatalf("P6.11: And is not associative for\n%s\n%s\n%s", show(p), show(q), show(s))
		}
	}
}

// joined is the second way to Join.
func joined(a, b line) (line, bool) {
	odd := -1
	for i := range a {
		if a[i] == b[i] {
			continue
		}
		if a[i] == 'x' || b[i] == 'x' || odd >= 0 {
			return "", false
		}
		odd = i
	}
	if odd < 0 {
		return "", false
	}
	return a[:odd] + "x" + a[odd+1:], true
}

func TestJoin(t *testing.T) {
	check := func(a, b line) {
		want, ok := joined(a, b)
		got, found := bits.Join(fixed(a), fixed(b))
		if found != ok || ok && show(got) != want || !ok && got != (api.Pattern{}) {
			t.Fatalf("P6.3: Join gives %v and\n%s\nfor\n%s\n%s", found, show(got), a, b)
		}
	}
	pairs(check)
	r := source(5)
	for i := range bits.Bits {
		a := scatter(r, everywhere(), 0.7)
		x, y := a[:i]+"0"+a[i+1:], a[:i]+"1"+a[i+1:]
		check(x, y)
		check(y, x)
		check(x, x)
		check(x, a[:i]+"x"+a[i+1:])
		j := (i + 1 + r.IntN(159)) % 160
		check(x[:j]+"0"+x[j+1:], y[:j]+"1"+y[j+1:])
		check(x[:j]+"x"+x[j+1:], y[:j]+"1"+y[j+1:])
		check(x[:j]+"0"+x[j+1:], y[:j]+"x"+y[j+1:])
	}
}

// checkParts tests that a head of a set is in exactly one part, and another one in none.
func checkParts(t *testing.T, promise string, r *rand.Rand, parts []api.Pattern, inside func(api.Head) bool, start line) {
	t.Helper()
	h := headOf(fill(r, start))
	n := 0
	for _, p := range parts {
		if bits.Match(p, h) {
			n++
		}
	}
	want := 0
	if inside(h) {
		want = 1
	}
	if n != want {
		t.Fatalf("%s: %d patterns instead of %d match %v", promise, n, want, h)
	}
}

func TestMinus(t *testing.T) {
	r := source(6)
	pairs(func(a, b line) {
		p, q := fixed(a), fixed(b)
		got := bits.Minus(p, q)
		if !slices.Equal(showAll(got), minus(a, b)) {
			t.Fatalf("P6.4: Minus is %v for\n%s\n%s", showAll(got), a, b)
		}
		if n := len(b) - strings.Count(b, "x"); len(got) > max(n, 1) || bits.Covers(q, p) != (len(got) == 0) {
			t.Fatalf("P6.9: Minus has %d patterns for\n%s\n%s", len(got), a, b)
		}
		inside := func(h api.Head) bool { return bits.Match(p, h) && !bits.Match(q, h) }
		for _, s := range []line{a, b, near(r, a, 1), near(r, b, 1)} {
			checkParts(t, "P6.9", r, got, inside, s)
		}
	})
}

// places are bits at the ends of words and within them.
func places() []int { return []int{0, 1, 15, 16, 31, 40, 79, 80, 100, 143, 144, 159} }

func lines(r *rand.Rand, n int, at []int, chance float64) []line {
	var l []line
	for range n {
		l = append(l, scatter(r, at, chance))
	}
	return l
}

func TestMinusAll(t *testing.T) {
	r := source(7)
	for range 400 {
		at := places()
		if r.IntN(3) == 0 {
			at = everywhere()
		}
		p := scatter(r, at, r.Float64()*0.5)
		l := lines(r, r.IntN(8), at, []float64{0.05, 0.3, 0.6}[r.IntN(3)])
		want, ok := minusAll(p, l, 0)
		given := patterns(l)
		got, e := bits.MinusAll(fixed(p), given)
		if !slices.Equal(showAll(got), want) || (e == api.OK) != ok || !ok && e != api.ErrLimit {
			t.Fatalf("P6.4: MinusAll has %d patterns instead of %d, error %d, for\n%s\n%v", len(got), len(want), e, p, l)
		}
		if !slices.Equal(showAll(given), l) {
			t.Fatal("P6.4: MinusAll changes its argument")
		}
		if e != api.OK {
			continue
		}
		inside := func(h api.Head) bool {
			return bits.Match(fixed(p), h) && !slices.ContainsFunc(given, func(q api.Pattern) bool { return bits.Match(q, h) })
		}
		for _, s := range append(l, p, free) {
			checkParts(t, "P6.9", r, got, inside, s)
		}
	}
}

func TestMinusAllOfNothing(t *testing.T) {
	p := fixed("01x")
	for _, l := range [][]api.Pattern{nil, {}, {fixed("1")}} {
		if got, e := bits.MinusAll(p, l); e != api.OK || !slices.Equal(got, []api.Pattern{p}) {
			t.Error("P6.4: MinusAll takes something away with", showAll(l))
		}
	}
	if got, e := bits.MinusAll(p, []api.Pattern{fixed("1"), fixed("0"), fixed("01")}); e != api.OK || len(got) != 0 {
		t.Error("P6.4: MinusAll leaves", showAll(got), e)
	}
	if got, e := bits.Sum(nil); e != api.OK || len(got) != 0 {
		t.Error("P6.4: Sum of nothing is", showAll(got), e)
	}
}

func TestSum(t *testing.T) {
	r := source(8)
	failed := 0
	for range 400 {
		at, n, chance := places(), r.IntN(12), []float64{0.05, 0.3, 0.6}[r.IntN(3)]
		if r.IntN(4) == 0 {
			at, n, chance = everywhere(), r.IntN(9), 0.05
		}
		l := lines(r, n, at, chance)
		if n > 0 && r.IntN(2) == 0 {
			l = append(l, l[r.IntN(n)], near(r, l[r.IntN(n)], 2))
		}
		want, ok := sum(l)
		given := patterns(l)
		got, e := bits.Sum(given)
		if !slices.Equal(showAll(got), want) || (e == api.OK) != ok || !ok && e != api.ErrLimit {
			t.Fatalf("P6.4: Sum has %d patterns instead of %d, error %d, for\n%v", len(got), len(want), e, l)
		}
		if !slices.Equal(showAll(given), l) {
			t.Fatal("P6.4: Sum changes its argument")
		}
		if e != api.OK {
			failed++
			continue
		}
		inside := func(h api.Head) bool {
			return slices.ContainsFunc(given, func(q api.Pattern) bool { return bits.Match(q, h) })
		}
		for _, s := range append(l, free) {
			checkParts(t, "P6.9", r, got, inside, s)
		}
		for i := range got {
			got[i] = api.Pattern{}
		}
		if !slices.Equal(showAll(given), l) {
			t.Fatal("P6.4: the result of Sum is not new memory")
		}
	}
	if failed == 0 || failed > 200 {
		t.Errorf("P6.4: %d of 400 courses come to the limit", failed)
	}
}

// enough returns heads without which there are exactly n patterns: each one that is taken out of a pattern with f free
// bits leaves f patterns in its place.
func enough(n int) []line {
	left := []line{free}
	var l []line
	for len(left) < n {
		best, at := 0, 0
		for i, s := range left {
			if f := strings.Count(s, "x"); f > best && len(left)+f-1 <= n {
				best, at = f, i
			}
		}
		h := strings.ReplaceAll(left[at], "x", "0")
		l = append(l, h)
		left = slices.Replace(left, at, at+1, minus(left[at], h)...)
	}
	return l
}

func TestLimitOfMinusAll(t *testing.T) {
	r := source(9)
	l := enough(4000)
	given := patterns(l)
	left, ok := minusAll(free, l, 0)
	if got, e := bits.MinusAll(api.Pattern{}, given); e != api.OK || len(got) != 4000 || !ok || !slices.Equal(showAll(got), left) {
		t.Fatalf("P6.4: MinusAll has %d patterns, error %d", len(got), e)
	}
	for f, want := range map[int]api.Errno{0: api.OK, 1: api.OK, 2: api.ErrLimit, 3: api.ErrLimit} {
		k := slices.IndexFunc(left, func(s line) bool { return strings.Count(s, "x") == f })
		if k < 0 {
			t.Fatalf("P6.4: no pattern has %d free bits", f)
		}
		one := fixed(fill(r, left[k]))
		got, e := bits.MinusAll(api.Pattern{}, append(slices.Clone(given), one))
		if e != want || want == api.OK && len(got) != 3999+f || want != api.OK && len(got) != 0 {
			t.Errorf("P6.4: MinusAll has %d patterns, error %d, where it begins with 4000, and one with %d free bits is hit", len(got), e, f)
		}
		got, e = bits.MinusAll(api.Pattern{}, append(slices.Clone(given), one, api.Pattern{}))
		if e != want || len(got) != 0 {
			t.Errorf("P6.4: MinusAll has %d patterns, error %d, where all are taken away in the end", len(got), e)
		}
	}
}

func TestLimitOfSum(t *testing.T) {
	var l []api.Pattern
	for i := range 4001 {
		l = append(l, bits.Exact(api.Head{3: 7 * i}))
	}
	again := func(n, k int) []api.Pattern { return append(slices.Clone(l[:n]), l[k]) }
	for _, x := range []struct {
		name string
		l    []api.Pattern
		n    int
		e    api.Errno
	}{
		{"4000 heads", l[:4000], 4000, api.OK},
		{"4001 heads", l, 0, api.ErrLimit},
		{"3999 heads and one of them", again(3999, 5), 3999, api.OK},
		{"4000 heads and one of them", again(4000, 5), 0, api.ErrLimit},
		{"3999 heads, one of them, another one", append(again(3999, 0), l[4000]), 4000, api.OK},
	} {
		got, e := bits.Sum(x.l)
		if e != x.e || len(got) != x.n {
			t.Errorf("P6.4: Sum has %d patterns instead of %d, error %d, for %s", len(got), x.n, e, x.name)
		}
	}
}

// TestLimitWithinSum has an element that fixes no bits behind heads: 160 patterns are left of it without the first one,
// and fewer in the end.
func TestLimitWithinSum(t *testing.T) {
	for n, want := range map[int]api.Errno{4000 - 160: api.OK, 4001 - 160: api.ErrLimit} {
		var l []line
		for i := range n {
			l = append(l, digitsOf(api.Head{9: i}))
		}
		left, ok := minusAll(free, l, n)
		if ok != (want == api.OK) || ok && len(left) >= 160 {
			t.Fatalf("P6.4: %d patterns should be left, %v", len(left), ok)
		}
		got, e := bits.Sum(patterns(append(l, free)))
		if e != want || !slices.Equal(showAll(got[min(n, len(got)):]), left) {
			t.Errorf("P6.4: Sum has %d patterns, error %d, for %d heads and all", len(got), e, n)
		}
	}
}

// count visits all lines that fix some places, in increasing order, and leaves the other bits as they are.
func count(base line, at []int, f func(line) bool) {
	b := []byte(base)
	for n := range 1 << len(at) {
		for k, i := range at {
			b[i] = '0' + byte(n>>(len(at)-1-k)&1)
		}
		if !f(string(b)) {
			return
		}
	}
}

// first is a third way to Outside, for elements that fix no bits but some places: it tries their values in order.
func first(p line, l []line, at []int) (line, bool) {
	found := ""
	count(strings.ReplaceAll(p, "x", "0"), at, func(s line) bool {
		if meets(p, s) && !slices.ContainsFunc(l, func(q line) bool { return meets(q, s) }) {
			found = s
		}
		return found == ""
	})
	return found, found != ""
}

func checkOutside(t *testing.T, p line, l []line, want line, ok bool) {
	t.Helper()
	given := patterns(l)
	h, found := bits.Outside(fixed(p), given)
	if found != ok || ok && digitsOf(h) != want || !ok && h != (api.Head{}) {
		t.Fatalf("P6.5: Outside is %v, %v instead of %v\n%s, for\n%s\n%v", h, found, ok, want, p, l)
	}
	if !slices.Equal(showAll(given), l) {
		t.Fatal("P6.5: Outside changes its argument")
	}
}

func TestOutside(t *testing.T) {
	r := source(10)
	at := places()
	none := 0
	for range 1500 {
		p := scatter(r, at, 0.2)
		if r.IntN(3) == 0 {
			p = scatter(r, everywhere(), 0.2)
		}
		l := lines(r, r.IntN(40), at, []float64{0.1, 0.2, 0.3, 0.5}[r.IntN(4)])
		want, ok := first(p, l, at)
		checkOutside(t, p, l, want, ok)
		if !ok {
			none++
		}
	}
	if none < 200 || none > 1300 {
		t.Errorf("P6.5: there is no head in %d of 1500 courses", none)
	}
	for range 300 {
		p := scatter(r, everywhere(), r.Float64())
		var l []line
		for range r.IntN(4) {
			l = append(l, scatter(r, everywhere(), 0.02), near(r, p, 2))
		}
		left, _ := minusAll(p, l, -1<<30)
		if len(left) > 0 { // most of what is left is matched as well
			l = append(l, left[:r.IntN(len(left))]...)
		}
		r.Shuffle(len(l), func(i, j int) { l[i], l[j] = l[j], l[i] })
		want, ok := least(p, l)
		checkOutside(t, p, l, want, ok)
	}
}

// TestGroups has elements that fix bits of one group of places, or of two: the search finds reasons that belong to a part
// of the bits alone.
func TestGroups(t *testing.T) {
	r := source(20)
	at := places()
	none := 0
	for range 2000 {
		r.Shuffle(len(at), func(i, j int) { at[i], at[j] = at[j], at[i] })
		var l []line
		for range 20 + r.IntN(30) {
			k := 4 * r.IntN(3)
			group := at[k : k+4]
			if r.IntN(4) == 0 {
				group = append(slices.Clone(group), at[r.IntN(12)])
			}
			l = append(l, scatter(r, group, 0.7))
		}
		l = slices.DeleteFunc(l, func(s line) bool { return len(s)-strings.Count(s, "x") < 2 })
		want, ok := first(free, l, places())
		checkOutside(t, free, l, want, ok)
		if !ok {
			none++
		}
	}
	if none < 200 || none > 1800 {
		t.Errorf("P6.5: there is no head in %d of 2000 courses", none)
	}
}

func TestOutsideOfNothing(t *testing.T) {
	full := strings.Repeat("1", 160)
	p := "01x1" + free[4:]
	for _, x := range []struct {
		p    line
		l    []line
		want line
		ok   bool
	}{
		{p, nil, strings.ReplaceAll(p, "x", "0"), true},
		{p, []line{p}, "", false},
		{p, []line{free}, "", false},
		{full, nil, full, true},
		{full, []line{full}, "", false},
		{full, []line{full[1:] + "0", "0" + full[1:]}, full, true},
		{free, minus(free, full), full, true},
		{free, append(minus(free, full), full), "", false},
	} {
		checkOutside(t, x.p, x.l, x.want, x.ok)
	}
}

// ranges returns the lines of the numbers from lo to hi in a word.
func ranges(w, lo, hi int) []line {
	l, _ := bits.Range(16*w, 16, lo, hi)
	return showAll(l)
}

// TestManyWords has lists in which each word excludes some heads: all combinations of what is left would be too many.
func TestManyWords(t *testing.T) {
	r := source(11)
	for _, all := range []int{-1, 0, 4, 9} {
		var l []line
		var want api.Head
		for w := range api.Words {
			lo, hi := 1+r.IntN(30000), 30001+r.IntN(30000)
			want[w] = lo
			l = append(l, ranges(w, 0, lo-1)...)
			l = append(l, ranges(w, hi+1, 65535)...)
			if w == all {
				l = append(l, ranges(w, lo, hi)...)
			}
		}
		r.Shuffle(len(l), func(i, j int) { l[i], l[j] = l[j], l[i] })
		checkOutside(t, free, l, digitsOf(want), all < 0)
	}
	for _, hole := range []int{-1, 0, 100, 255} { // the last word needs the longest search
		var l []line
		var want api.Head
		for w := range 9 {
			want[w] = 21845
			l = append(l, ranges(w, 0, 21844)...)
			l = append(l, ranges(w, 43691, 65535)...)
		}
		for i := range 256 {
			if i != hole {
				l = append(l, free[:144]+fmt.Sprintf("%08b", i)+free[152:])
			}
		}
		want[9] = max(hole, 0) << 8
		checkOutside(t, free, l, digitsOf(want), hole >= 0)
	}
}

func TestLongLists(t *testing.T) {
	var l []line
	for i := range 4000 {
		l = append(l, free[:48]+fmt.Sprintf("xxxx%012b", i*3%4000)+free[64:])
	}
	checkOutside(t, free, l, digitsOf(api.Head{3: 4000}), true)
	l = l[:0]
	for i := range 80 { // the halves are equal; no bit is 0 if the next one of the other half is
		l = append(l, free[:i]+"0"+free[i+1:i+80]+"1"+free[i+81:], free[:i]+"1"+free[i+1:i+80]+"0"+free[i+81:])
		q := []byte(free)
		q[i], q[(i+1)%80+80] = '0', '0'
		l = append(l, string(q))
	}
	checkOutside(t, free, l, strings.Repeat("01", 80), true)
}

func checkSame(t *testing.T, a, b []line, want line, ok bool) {
	t.Helper()
	p, q := patterns(a), patterns(b)
	for _, x := range [][2][]api.Pattern{{p, q}, {q, p}} {
		h, equal := bits.SameSet(x[0], x[1])
		if equal != ok || !ok && digitsOf(h) != want || ok && h != (api.Head{}) {
			t.Fatalf("P6.5: SameSet is %v, %v instead of %v\n%s, for\n%v\n%v", h, equal, ok, want, a, b)
		}
	}
	if !slices.Equal(showAll(p), a) || !slices.Equal(showAll(q), b) {
		t.Fatal("P6.5: SameSet changes its arguments")
	}
}

func TestSameSet(t *testing.T) {
	r := source(12)
	at := places()[:8]
	equal := 0
	for range 800 {
		a := lines(r, r.IntN(12), at, 0.5)
		b := lines(r, r.IntN(12), at, 0.5)
		if r.IntN(2) == 0 {
			b, _ = sum(a)
			r.Shuffle(len(b), func(i, j int) { b[i], b[j] = b[j], b[i] })
			if len(b) > 0 && r.IntN(2) == 0 {
				b = b[1:]
			}
		}
		inA := func(s line) bool { return slices.ContainsFunc(a, func(q line) bool { return meets(q, s) }) }
		inB := func(s line) bool { return slices.ContainsFunc(b, func(q line) bool { return meets(q, s) }) }
		found := ""
		count(strings.ReplaceAll(free, "x", "0"), at, func(s line) bool {
			if inA(s) != inB(s) {
				found = s
			}
			return found == ""
		})
		checkSame(t, a, b, found, found == "")
		if found == "" {
			equal++
		}
	}
	if equal < 100 || equal > 700 {
		t.Errorf("P6.11: %d of 800 pairs are equal", equal)
	}
	for range 100 {
		a := lines(r, 3, everywhere(), 0.01)
		b := append(lines(r, 2, everywhere(), 0.01), a[1], near(r, a[0], 2))
		want, ok := same(a, b)
		checkSame(t, a, b, want, ok)
	}
	checkSame(t, nil, nil, "", true)
	checkSame(t, nil, []line{free}, digitsOf(api.Head{}), false)
	full := strings.Repeat("1", 160)
	checkSame(t, nil, []line{full}, full, false)
	checkSame(t, []line{full}, []line{full, full}, "", true)
	checkSame(t, []line{free}, minus(free, full), full, false)
}

func TestManyPatternsAreTheSame(t *testing.T) {
	r := source(13)
	var a, b []line
	for range 2000 {
		s := scatter(r, everywhere(), 0.7)
		i := strings.IndexByte(s, 'x')
		a = append(a, s)
		b = append(b, s[:i]+"1"+s[i+1:], s[:i]+"0"+s[i+1:])
	}
	r.Shuffle(len(b), func(i, j int) { b[i], b[j] = b[j], b[i] })
	checkSame(t, a, b, "", true)
	checkSame(t, a, b[1:], strings.ReplaceAll(b[0], "x", "0"), false)
}

func TestMods(t *testing.T) {
	r := source(14)
	pairs(func(a, b line) {
		m, n := mod(a), mod(b)
		s := fill(r, free)
		h := headOf(s)
		if got := bits.Apply(m, h); digitsOf(got) != over(s, a) {
			t.Fatalf("P6.6: Apply gives\n%s\nfor\n%s\n%s", digitsOf(got), a, s)
		}
		then := bits.Then(m, n)
		if show(api.Pattern(then)) != over(a, b) || !bits.RightMod(then) {
			t.Fatalf("P6.6: Then gives\n%s\nfor\n%s\n%s", show(api.Pattern(then)), a, b)
		}
		if bits.Apply(then, h) != bits.Apply(n, bits.Apply(m, h)) {
			t.Fatalf("P6.10: Apply of Then for\n%s\n%s\n%s", a, b, s)
		}
		p := fixed(a)
		image := bits.Image(p, n)
		if show(image) != over(a, b) || !bits.Right(image) {
			t.Fatalf("P6.6: Image is\n%s\nfor\n%s\n%s", show(image), a, b)
		}
		if !bits.Match(image, bits.Apply(n, headOf(fill(r, a)))) {
			t.Fatalf("P6.10: Image does not match a head that Apply makes for\n%s\n%s", a, b)
		}
		checkBack(t, r, a, b)
	})
}

// checkBack compares Back with what is left of a pattern if the bits of a mod are right.
func checkBack(t *testing.T, r *rand.Rand, a, b line) {
	t.Helper()
	p, n := fixed(a), mod(b)
	back, ok := bits.Back(p, n)
	if ok != meets(a, b) {
		t.Fatalf("P6.6: Back is %v for\n%s\n%s", ok, a, b)
	}
	if !ok && back != (api.Pattern{}) {
		t.Fatalf("P6.6: Back is not zero for\n%s\n%s", a, b)
	}
	want, _ := zip(a, b, func(x, y byte) (byte, bool) {
		if y != 'x' {
			return 'x', true
		}
		return x, true
	})
	if ok && (show(back) != want || !bits.Right(back)) {
		t.Fatalf("P6.6: Back is\n%s\nfor\n%s\n%s", show(back), a, b)
	}
	for _, s := range []line{a, want, near(r, want, 1), free} {
		h := headOf(fill(r, s))
		if (ok && bits.Match(back, h)) != bits.Match(p, bits.Apply(n, h)) {
			t.Fatalf("P6.10: Back and Apply differ for %v and\n%s\n%s", h, a, b)
		}
	}
}

func TestImageIsNotGreater(t *testing.T) {
	r := source(15)
	at := places()[:7]
	for range 200 {
		p, m := scatter(r, at, 0.4), scatter(r, at, 0.4)
		image := show(bits.Image(fixed(p), mod(m)))
		count(strings.ReplaceAll(free, "x", "0"), at, func(s line) bool {
			made := false
			count(s, at, func(h line) bool {
				made = meets(p, h) && over(h, m) == s
				return !made
			})
			if meets(image, s) != made {
				t.Fatalf("P6.10: Image is not right for\n%s\n%s\n%s", p, m, s)
			}
			return true
		})
	}
}

// blocks is the second way to Range: a block of numbers is halved until it is in the range, or outside.
func blocks(prefix string, width, from, lo, hi int) []string {
	size := 1 << (width - len(prefix))
	switch {
	case from > hi || from+size <= lo:
		return nil
	case from >= lo && from+size-1 <= hi:
		return []string{prefix}
	}
	l := blocks(prefix+"0", width, from, lo, hi)
	return append(l, blocks(prefix+"1", width, from+size/2, lo, hi)...)
}

func checkRange(t *testing.T, at, width, lo, hi int) {
	t.Helper()
	var want []line
	for _, s := range blocks("", width, 0, lo, hi) {
		want = append(want, free[:at]+s+free[at+len(s):])
	}
	got, e := bits.Range(at, width, lo, hi)
	if e != api.OK || !slices.Equal(showAll(got), want) {
		t.Fatalf("P6.7: Range(%d, %d, %d, %d) is error %d, %v", at, width, lo, hi, e, showAll(got))
	}
	if len(got) > max(2*width-2, 1) {
		t.Fatalf("P6.12: Range(%d, %d, %d, %d) has %d patterns", at, width, lo, hi, len(got))
	}
	for i, p := range got {
		if !bits.Right(p) {
			t.Fatalf("P6.7: Range(%d, %d, %d, %d) has a wrong pattern", at, width, lo, hi)
		}
		for _, q := range got[i+1:] {
			if _, ok := bits.Join(p, q); ok {
				t.Fatalf("P6.12: patterns of Range(%d, %d, %d, %d) can be joined", at, width, lo, hi)
			}
			if bits.Overlap(p, q) || bits.CompareHeads(bits.Least(p), bits.Least(q)) >= 0 {
				t.Fatalf("P6.7: patterns of Range(%d, %d, %d, %d) overlap, or are not in order", at, width, lo, hi)
			}
		}
	}
}

func TestRange(t *testing.T) {
	for width := 1; width <= 5; width++ {
		for _, word := range []int{0, 16, 144} {
			for at := word; at+width <= word+16; at++ {
				for hi := range 1 << width {
					for lo := range hi + 1 {
						checkRange(t, at, width, lo, hi)
					}
				}
			}
		}
	}
	r := source(16)
	for range 3000 {
		width := 6 + r.IntN(11)
		lo, hi := r.IntN(1<<width), r.IntN(1<<width)
		checkRange(t, 16*r.IntN(10)+r.IntN(17-width), width, min(lo, hi), max(lo, hi))
	}
	for _, x := range [][2]int{{0, 65535}, {1, 65534}, {0, 0}, {65535, 65535}, {0, 65534}, {1, 65535}, {32767, 32768}} {
		checkRange(t, 48, 16, x[0], x[1])
	}
	if l, _ := bits.Range(16, 16, 1, 65534); len(l) != 30 {
		t.Errorf("P6.12: %d patterns are as many as there can be", len(l))
	}
}

func TestRangeIsBySets(t *testing.T) {
	l, e := bits.Range(35, 4, 3, 12)
	if e != api.OK {
		t.Fatal("P6.7: error", e)
	}
	for n := range 16 {
		for _, others := range []int{0, 65535 &^ (15 << 9)} {
			h := api.Head{1, 2, n<<9 | others, 3}
			if slices.ContainsFunc(l, func(p api.Pattern) bool { return bits.Match(p, h) }) != (n >= 3 && n <= 12) {
				t.Errorf("P6.7: Range matches %d wrongly", n)
			}
		}
	}
}

func TestRangeErrors(t *testing.T) {
	for _, x := range [][4]int{
		{0, 0, 0, 0}, {0, 17, 0, 0}, {0, -1, 0, 0}, {-1, 1, 0, 0}, {-16, 16, 0, 0}, {160, 1, 0, 0}, {159, 2, 0, 0}, {15, 2, 0, 0},
		{1, 16, 0, 0}, {8, 9, 0, 0}, {14, 4, 0, 0}, {0, 3, -1, 0}, {0, 3, 2, 1}, {0, 3, 0, 8}, {0, 3, 8, 8}, {0, 16, 0, 65536}, {0, 1, 0, 2},
		{math.MaxInt, 1, 0, 0}, {math.MinInt, 1, 0, 0}, {math.MaxInt, math.MaxInt, 0, 0}, {0, math.MaxInt, 0, 0}, {0, math.MinInt, 0, 0},
		{0, 16, math.MinInt, math.MaxInt}, {0, 16, 0, math.MaxInt}, {0, 16, math.MaxInt, math.MinInt}, {0, 64, 0, 0}, {0, 63, 0, 0},
	} {
		if l, e := bits.Range(x[0], x[1], x[2], x[3]); e != api.ErrArg || len(l) != 0 {
			t.Errorf("P6.7: Range%v has %d patterns, error %d", x, len(l), e)
		}
	}
	for _, x := range [][4]int{{159, 1, 0, 0}, {144, 16, 65535, 65535}, {15, 1, 1, 1}, {14, 2, 0, 3}, {0, 16, 0, 65535}} {
		if l, e := bits.Range(x[0], x[1], x[2], x[3]); e != api.OK || len(l) != 1 {
			t.Errorf("P6.7: Range%v has %d patterns, error %d", x, len(l), e)
		}
	}
}

// textOf is the second way to Text.
func textOf(p api.Pattern) string {
	var l []string
	for w := range p.Mask {
		s := fmt.Sprintf("%04x/%04x", p.Bits[w], p.Mask[w])
		s = strings.TrimSuffix(s, "/ffff")
		if strings.HasSuffix(s, "/0000") {
			s = "*"
		}
		l = append(l, s)
	}
	return strings.Join(l, " ")
}

// words returns a line whose words are free, fixed, and something in between.
func words(r *rand.Rand) line {
	var b strings.Builder
	for range api.Words {
		b.WriteString(scatter(r, everywhere(), []float64{0, 0.1, 0.5, 1}[r.IntN(4)])[:16])
	}
	return b.String()
}

func TestText(t *testing.T) {
	r := source(17)
	for range 2000 {
		p := fixed(words(r))
		s := bits.Text(p)
		if s != textOf(p) {
			t.Fatalf("P6.8: Text is %q instead of %q", s, textOf(p))
		}
		if q, e := bits.Parse(s); q != p || e != api.OK {
			t.Fatalf("P6.8: Parse(%q) is error %d, %v", s, e, q)
		}
	}
}

// patternOf is the second way to Parse: it reads any numbers, and asks whether their text is the same.
func patternOf(s string) (api.Pattern, bool) {
	var p api.Pattern
	l := strings.Split(s, " ")
	if len(l) != 10 {
		return p, false
	}
	for w, x := range l {
		if n, _ := fmt.Sscanf(x, "%x/%x", &p.Bits[w], &p.Mask[w]); n == 1 {
			p.Mask[w] = 65535
		}
	}
	return p, bits.Right(p) && textOf(p) == s
}

func checkParse(t *testing.T, s string) bool {
	t.Helper()
	want, ok := patternOf(s)
	got, e := bits.Parse(s)
	if ok && (e != api.OK || got != want) || !ok && (e != api.ErrSyntax || got != api.Pattern{}) {
		t.Fatalf("P6.8: Parse(%q) is error %d, %v, instead of %v, %v", s, e, got, ok, want)
	}
	return ok
}

func TestParse(t *testing.T) {
	r := source(18)
	good := 0
	for range 40 {
		s := textOf(fixed(words(r)))
		for i := range len(s) {
			for _, c := range []string{"", "0", "1", "9", "a", "f", "g", "A", "F", "*", "/", " ", ".", "\x00", "\t", "\xff", "-", "+", "x", "  "} {
				for _, x := range []string{s[:i] + c + s[i+1:], s[:i] + c + s[i:]} {
					if checkParse(t, x) {
						good++
					}
				}
			}
			checkParse(t, s[:i])
			checkParse(t, s[i:])
		}
		checkParse(t, s+" ")
		checkParse(t, s+" *")
		checkParse(t, s+"0")
		checkParse(t, s+s)
	}
	if good == 0 {
		t.Error("P6.8: no changed text is a text")
	}
	rest := strings.Repeat(" *", 9)
	for _, x := range []string{"0000/0000", "0001/ffff", "ffff/ffff", "0001/0002", "0003/0001", "0001/000F", "001/0001", "00001/00001", "0001/", "/0001", "0001//0001", "0001/0001/0001", "**", "*/*", "*/0001", "0001/*", "0x01", "0X01", "+001", "-001", "1_00", "", " "} {
		if q, e := bits.Parse(x + rest); e != api.ErrSyntax || q != (api.Pattern{}) {
			t.Errorf("P6.8: Parse(%q) is error %d, %v", x+rest, e, q)
		}
	}
	for _, x := range []string{"", "*", strings.Repeat("*", 10), strings.Repeat(" ", 9), strings.Repeat(" ", 1000000)} {
		if q, e := bits.Parse(x); e != api.ErrSyntax || q != (api.Pattern{}) {
			t.Errorf("P6.8: Parse(%.20q) is error %d, %v", x, e, q)
		}
	}
}

// TestExamples has the examples of the chapter.
func TestExamples(t *testing.T) {
	if p, ok := bits.And(fixed("0x"), fixed("x1")); !ok || p != fixed("01") {
		t.Error("P6.3: And is", show(p), ok)
	}
	if p, ok := bits.And(fixed("0x"), fixed("1x")); ok || p != (api.Pattern{}) {
		t.Error("P6.3: And is", show(p), ok)
	}
	if l := bits.Minus(fixed("xx"), fixed("01")); !slices.Equal(l, []api.Pattern{fixed("1x"), fixed("00")}) {
		t.Error("P6.4: Minus is", showAll(l))
	}
	if p, ok := bits.Join(fixed("00"), fixed("01")); !ok || p != fixed("0x") {
		t.Error("P6.3: Join is", show(p), ok)
	}
	if p, ok := bits.Join(fixed("00"), fixed("11")); ok || p != (api.Pattern{}) {
		t.Error("P6.3: Join is", show(p), ok)
	}
	if h, ok := bits.Outside(fixed("xx"), []api.Pattern{fixed("0x"), fixed("10")}); !ok || h != (api.Head{49152}) {
		t.Error("P6.5: Outside is", h, ok)
	}
	if l, e := bits.Range(0, 3, 1, 6); e != api.OK || !slices.Equal(l, []api.Pattern{fixed("001"), fixed("01x"), fixed("10x"), fixed("110")}) {
		t.Error("P6.7: Range is", showAll(l), e)
	}
	if m := bits.Then(mod("1"), mod("01")); m != mod("01") {
		t.Error("P6.6: Then is", m)
	}
	if p, ok := bits.Back(fixed("01"), mod("1")); ok || p != (api.Pattern{}) {
		t.Error("P6.6: Back is", show(p), ok)
	}
	var tag api.Pattern
	tag.Mask[api.WordTag], tag.Bits[api.WordTag] = 65535, 7
	if s := bits.Text(tag); s != "* * * * * * * * * 0007" {
		t.Error("P6.8: Text is", s)
	}
}

// TestWrongArguments has arguments for which results are not specified: the functions have to return all the same.
func TestWrongArguments(t *testing.T) {
	r := source(19)
	values := []int{0, 1, -1, 65535, 65536, 1 << 40, math.MaxInt, math.MinInt, 32768, 12345}
	wrong := func() (h api.Head) {
		for w := range h {
			h[w] = values[r.IntN(len(values))]
		}
		return h
	}
	for range 300 {
		p, q := api.Pattern{Mask: wrong(), Bits: wrong()}, api.Pattern{Mask: wrong(), Bits: wrong()}
		h, l := wrong(), []api.Pattern{{Mask: wrong(), Bits: wrong()}, fixed("1"), {Mask: wrong()}, q}
		for _, i := range append(values, -160, 159, 160) {
			bits.Bit(h, i)
		}
		bits.CompareHeads(h, p.Mask)
		bits.Compare(p, q)
		bits.Match(bits.Exact(h), wrong())
		bits.Match(p, bits.Least(q))
		bits.Free(p)
		bits.And(p, q)
		bits.Overlap(p, q)
		bits.Covers(p, q)
		bits.Join(p, q)
		bits.Join(p, api.Pattern{Mask: p.Mask, Bits: q.Bits})
		bits.Minus(p, q)
		bits.MinusAll(p, l)
		bits.Sum(l)
		bits.Outside(p, l)
		bits.SameSet(l, []api.Pattern{p})
		bits.Apply(api.Mod(p), h)
		bits.Then(api.Mod(p), api.Mod(q))
		bits.Image(p, api.Mod(q))
		bits.Back(p, api.Mod(q))
		bits.Text(p)
		bits.Right(p)
		bits.RightMod(api.Mod(p))
	}
}
