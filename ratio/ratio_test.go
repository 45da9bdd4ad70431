package ratio_test

import (
	"fmt"
	"math"
	"math/big"
	"math/rand/v2"
	"regexp"
	"slices"
	"strings"
	"testing"

	"interlace/api"
	"interlace/ratio"
)

const most = 1 << 30

// value is a number without bounds: the second way to calculate, with package math/big.
type value = *big.Rat

func valueOf(r api.Ratio) value { return big.NewRat(int64(r.N), int64(r.D)) }

func fits(v value) bool {
	limit := big.NewInt(most)
	return v.Num().CmpAbs(limit) <= 0 && v.Denom().Cmp(limit) <= 0
}

// normal returns the normal ratio of a number, or ErrRange.
func normal(v value) (api.Ratio, api.Errno) {
	if !fits(v) {
		return api.Ratio{}, api.ErrRange
	}
	return api.Ratio{N: int(v.Num().Int64()), D: int(v.Denom().Int64())}, api.OK
}

// of returns the ratio n / d, whose parts are small and have no common divisor.
func of(n, d int) api.Ratio { return api.Ratio{N: n, D: d} }

// read returns the ratios of a text, which are separated by spaces.
func read(s string) []api.Ratio {
	var l []api.Ratio
	for _, w := range strings.Fields(s) {
		v, ok := new(big.Rat).SetString(w)
		r, e := normal(v)
		if !ok || e != api.OK {
			panic(w)
		}
		l = append(l, r)
	}
	return l
}

func one(s string) api.Ratio { return read(s)[0] }

// show writes ratios as they are.
func show(l []api.Ratio) string {
	var b strings.Builder
	for _, r := range l {
		fmt.Fprintf(&b, " %d/%d", r.N, r.D)
	}
	return b.String()
}

func source(seed uint64) *rand.Rand { return rand.New(rand.NewPCG(seed, 7)) }

// draw returns a normal ratio: a small one, one with great parts, an integer, or one at the bounds.
func draw(r *rand.Rand) api.Ratio {
	part := func() int64 {
		switch r.IntN(4) {
		case 0:
			return r.Int64N(6)
		case 1:
			return r.Int64N(1 << 16)
		case 2:
			return most - r.Int64N(3)
		}
		return r.Int64N(most + 1)
	}
	n, d := part(), max(part(), 1)
	if r.IntN(3) == 0 {
		d = 1
	}
	if r.IntN(2) == 0 {
		n = -n
	}
	x, _ := normal(big.NewRat(n, d))
	return x
}

// small returns all ratios whose parts are not greater than n.
func small(n int) []api.Ratio {
	var l []api.Ratio
	for d := 1; d <= n; d++ {
		for k := -n; k <= n; k++ {
			if r, _ := normal(big.NewRat(int64(k), int64(d))); r.D == d {
				l = append(l, r)
			}
		}
	}
	return l
}

// extremes returns ratios at the bounds.
func extremes() []api.Ratio {
	var l []api.Ratio
	for _, n := range []int64{0, 1, 2, 3, most - 1, most} {
		for _, d := range []int64{1, 2, 3, most - 2, most - 1, most} {
			a, _ := normal(big.NewRat(n, d))
			b, _ := normal(big.NewRat(-n, d))
			l = append(l, a, b)
		}
	}
	return l
}

// pairs visits pairs of normal ratios.
func pairs(f func(a, b api.Ratio)) {
	for _, l := range [][]api.Ratio{small(6), extremes()} {
		for _, a := range l {
			for _, b := range l {
				f(a, b)
			}
		}
	}
	r := source(1)
	for range 20000 {
		f(draw(r), draw(r))
	}
}

// numbers visits ratios.
func numbers(f func(r api.Ratio)) {
	for _, r := range slices.Concat(small(12), extremes()) {
		f(r)
	}
	s := source(2)
	for range 20000 {
		f(draw(s))
	}
}

func TestCheck(t *testing.T) {
	if ratio.Max != most || ratio.MaxPart != 1<<61 || ratio.MaxRows != 20 {
		t.Error("P7.1: the constants are", ratio.Max, ratio.MaxPart, ratio.MaxRows)
	}
	for n := -30; n <= 30; n++ {
		for d := -30; d <= 30; d++ {
			want := d > 0
			for k := 2; k <= 30; k++ {
				if n%k == 0 && d%k == 0 {
					want = false
				}
			}
			if ratio.Check(of(n, d)) != want {
				t.Errorf("P7.1: Check(%d/%d) is %v", n, d, !want)
			}
		}
	}
	for _, x := range []struct {
		n, d int
		want bool
	}{
		{most, 1, true}, {-most, 1, true}, {1, most, true}, {-1, most, true}, {most, most - 1, true}, {most - 1, most, true}, {-most, most - 1, true},
		{0, most, false}, {most, most, false}, {most - 1, most - 1, false}, {-most, 2, false}, {2, most, false}, {3 * 3571, 3 * 3581, false},
		{most + 1, 1, false}, {-most - 1, 1, false}, {1, most + 1, false}, {0, 0, false}, {1, 0, false}, {0, -1, false}, {1, -1, false}, {-1, -2, false},
		{math.MaxInt, 1, false}, {math.MinInt, 1, false}, {1, math.MaxInt, false}, {1, math.MinInt, false}, {math.MinInt, math.MinInt, false}, {math.MinInt, -1, false},
	} {
		if ratio.Check(of(x.n, x.d)) != x.want {
			t.Errorf("P7.1: Check(%d/%d) is %v", x.n, x.d, !x.want)
		}
	}
	numbers(func(r api.Ratio) {
		if !ratio.Check(r) {
			t.Fatalf("P7.1: Check(%d/%d) is false", r.N, r.D)
		}
	})
}

func checkOf(t *testing.T, n, d int) {
	t.Helper()
	const part = 1 << 61
	var want api.Ratio
	e := api.ErrArg
	switch {
	case d == 0:
	case n < -part || n > part || d < -part || d > part:
		e = api.ErrRange
	default:
		want, e = normal(big.NewRat(int64(n), int64(d)))
	}
	if got, f := ratio.Of(n, d); got != want || f != e {
		t.Fatalf("P7.1: Of(%d, %d) is %v, error %d, instead of %v, error %d", n, d, got, f, want, e)
	}
}

func TestOf(t *testing.T) {
	const part = 1 << 61
	edges := []int{0, 1, 2, 3, 4, 5, 6, 1 << 20, most - 1, most, most + 1, 2 * most, 3 * most, 1 << 31, part / 2, part/2 + 1, part - 1, part, part + 1, 2 * part, math.MaxInt, math.MinInt}
	for _, a := range edges {
		for _, b := range edges {
			checkOf(t, a, b)
			checkOf(t, -a, b)
			checkOf(t, a, -b)
			checkOf(t, -a, -b)
		}
	}
	for n := -20; n <= 20; n++ {
		for d := -20; d <= 20; d++ {
			checkOf(t, n, d)
		}
	}
	r := source(3)
	for range 20000 {
		x, by := draw(r), 1+r.IntN(1<<30)
		checkOf(t, x.N*by, x.D*by)
		checkOf(t, x.N*by, -x.D*by)
		checkOf(t, x.N*by+1, x.D*by)
		checkOf(t, r.IntN(part), r.IntN(part))
		checkOf(t, int(r.Uint64()), int(r.Uint64()))
	}
}

func TestExamplesOfNumbers(t *testing.T) {
	for _, x := range []struct {
		n, d int
		want api.Ratio
		e    api.Errno
	}{
		{6, -4, of(-3, 2), api.OK}, {0, 5, of(0, 1), api.OK}, {1, 0, api.Ratio{}, api.ErrArg}, {1 << 31, 1, api.Ratio{}, api.ErrRange},
		{0, -1 << 61, of(0, 1), api.OK}, {1 << 61, 1 << 61, of(1, 1), api.OK}, {-1 << 61, 1 << 31, of(-most, 1), api.OK},
		{1<<61 + 1, 0, api.Ratio{}, api.ErrArg}, {0, 1<<61 + 1, api.Ratio{}, api.ErrRange}, {1 << 62, 1 << 62, api.Ratio{}, api.ErrRange}, {0, 0, api.Ratio{}, api.ErrArg},
	} {
		if got, e := ratio.Of(x.n, x.d); got != x.want || e != x.e {
			t.Errorf("P7.1: Of(%d, %d) is %v, error %d", x.n, x.d, got, e)
		}
	}
	if r, e := ratio.Add(of(1, 2), of(1, 3)); r != of(5, 6) || e != api.OK {
		t.Error("P7.2: 1/2 + 1/3 is", r, e)
	}
	if r, e := ratio.Mul(of(2, 3), of(3, 2)); r != of(1, 1) || e != api.OK {
		t.Error("P7.2: 2/3 times 3/2 is", r, e)
	}
	if r, e := ratio.Div(of(1, 1), of(0, 1)); r != (api.Ratio{}) || e != api.ErrArg {
		t.Error("P7.2: 1 by 0 is", r, e)
	}
	if ratio.Floor(of(-3, 2)) != -2 || ratio.Ceil(of(-3, 2)) != -1 || ratio.Cmp(of(1, 3), of(2, 7)) != 1 {
		t.Error("P7.3: Floor, Ceil or Cmp")
	}
}

// operation is an operation and its second way.
type operation struct {
	name string
	f    func(a, b api.Ratio) (api.Ratio, api.Errno)
	g    func(a, b value) value
}

func operations() []operation {
	return []operation{
		{"Add", ratio.Add, func(a, b value) value { return new(big.Rat).Add(a, b) }},
		{"Sub", ratio.Sub, func(a, b value) value { return new(big.Rat).Sub(a, b) }},
		{"Mul", ratio.Mul, func(a, b value) value { return new(big.Rat).Mul(a, b) }},
		{"Div", ratio.Div, func(a, b value) value { return new(big.Rat).Quo(a, b) }},
	}
}

func TestOperations(t *testing.T) {
	fit := 0
	pairs(func(a, b api.Ratio) {
		for _, o := range operations() {
			var want api.Ratio
			e := api.ErrArg
			if o.name != "Div" || b.N != 0 {
				want, e = normal(o.g(valueOf(a), valueOf(b)))
			}
			if got, f := o.f(a, b); got != want || f != e {
				t.Fatalf("P7.2: %s(%v, %v) is %v, error %d, instead of %v, error %d", o.name, a, b, got, f, want, e)
			}
			if e == api.OK {
				fit++
			}
		}
	})
	if fit < 20000 {
		t.Errorf("P7.2: only %d results were not too large", fit)
	}
}

func TestOrder(t *testing.T) {
	pairs(func(a, b api.Ratio) {
		if c := ratio.Cmp(a, b); c != valueOf(a).Cmp(valueOf(b)) {
			t.Fatalf("P7.3: Cmp(%v, %v) is %d", a, b, c)
		}
	})
	numbers(func(r api.Ratio) {
		n, d := big.NewInt(int64(r.N)), big.NewInt(int64(r.D))
		low := int(new(big.Int).Div(n, d).Int64())
		high := -int(new(big.Int).Div(n.Neg(n), d).Int64())
		if ratio.Floor(r) != low || ratio.Ceil(r) != high {
			t.Fatalf("P7.3: Floor(%v) is %d, Ceil is %d", r, ratio.Floor(r), ratio.Ceil(r))
		}
		if low > high || high-low > 1 || (high == low) != (r.D == 1) {
			t.Fatalf("P7.3: %v is not between %d and %d", r, low, high)
		}
	})
}

func TestText(t *testing.T) {
	for s, r := range map[string]api.Ratio{
		"0": of(0, 1), "7": of(7, 1), "-7": of(-7, 1), "1/2": of(1, 2), "-3/2": of(-3, 2), "10/7": of(10, 7),
		"1073741824": of(most, 1), "-1073741824": of(-most, 1), "1/1073741824": of(1, most), "-1073741823/1073741824": of(1-most, most),
	} {
		if ratio.Text(r) != s {
			t.Errorf("P7.4: the text of %v is %q", r, ratio.Text(r))
		}
	}
	numbers(func(r api.Ratio) {
		s := ratio.Text(r)
		if s != valueOf(r).RatString() {
			t.Fatalf("P7.4: the text of %v is %q", r, s)
		}
		if x, ok := ratio.Parse(s); x != r || !ok {
			t.Fatalf("P7.4: Parse(%q) is %v, %v", s, x, ok)
		}
	})
}

func TestWrongTexts(t *testing.T) {
	wrong := []string{
		"", " ", "/", "-", "+", "-/", "x", "1x", "x1", "1 ", " 1", "1/ 2", "1 /2", "\n1", "1\x00",
		"+1", "-0", "+0", "00", "01", "-01", "1/02", "01/2", "--1", "1_0", "0x1", "1e3", "1.0", ".5", "½", "١", "１",
		"1/1", "0/1", "0/2", "-0/3", "5/10", "4/2", "2/4", "-2/4", "1/0", "0/0", "1/", "/2", "-/2", "1/-2", "-1/-2", "1/+2", "1//2", "1/2/", "1/2/3", "1/2/x", "/1/2", "1/x", "x/2",
		"1073741825", "-1073741825", "1/1073741825", "3/1073741826", "9223372036854775807", "9223372036854775808", "-9223372036854775808", "18446744073709551617", "1/18446744073709551617", "18446744073709551617/2",
		strings.Repeat("0", 1000) + "1", strings.Repeat("9", 100000), "1/" + strings.Repeat("9", 100000),
	}
	for _, s := range wrong {
		if r, ok := ratio.Parse(s); ok || r != (api.Ratio{}) {
			t.Errorf("P7.4: Parse(%q) is %v, %v", s, r, ok)
		}
	}
	for _, x := range []struct {
		s  string
		r  api.Ratio
		ok bool
	}{{"5/10", api.Ratio{}, false}, {"-0", api.Ratio{}, false}, {"1/2", of(1, 2), true}} {
		if r, ok := ratio.Parse(x.s); r != x.r || ok != x.ok {
			t.Errorf("P7.4: Parse(%q) is %v, %v", x.s, r, ok)
		}
	}
}

// form is what texts look like; those of ratios are also in lowest terms, not too large, and without a denominator 1.
var form = regexp.MustCompile(`^(0|-?[1-9][0-9]*)(/[1-9][0-9]*)?$`)

// parse is the second way to Parse.
func parse(s string) (api.Ratio, bool) {
	if !form.MatchString(s) {
		return api.Ratio{}, false
	}
	v, _ := new(big.Rat).SetString(s)
	r, e := normal(v)
	return r, e == api.OK && v.RatString() == s
}

func checkParse(t *testing.T, s string) bool {
	t.Helper()
	want, ok := parse(s)
	if !ok {
		want = api.Ratio{}
	}
	if r, is := ratio.Parse(s); r != want || is != ok {
		t.Fatalf("P7.4: Parse(%q) is %v, %v instead of %v, %v", s, r, is, want, ok)
	}
	return ok
}

func TestAllShortTexts(t *testing.T) {
	found := 0
	last := []string{""}
	for range 6 {
		var next []string
		for _, s := range last {
			for _, c := range "0126-/+" {
				next = append(next, s+string(c))
				if checkParse(t, s+string(c)) {
					found++
				}
			}
		}
		last = next
	}
	if found < 1000 {
		t.Errorf("P7.4: only %d texts are those of ratios", found)
	}
}

func TestTextsThatChange(t *testing.T) {
	r := source(4)
	for range 50000 {
		b := []byte(ratio.Text(draw(r)))
		for range 1 + r.IntN(2) {
			i, c := r.IntN(len(b)+1), "0123456789-/+ "[r.IntN(14)]
			if r.IntN(2) == 0 && i < len(b) {
				b[i] = c
			} else {
				b = slices.Insert(b, i, c)
			}
		}
		checkParse(t, string(b))
	}
}

// total is the second way to Sum and Dot: the sum of a list of terms, each of which is calculated when its turn comes.
func total(terms []func() value) (api.Ratio, api.Errno) {
	sum := new(big.Rat)
	for _, f := range terms {
		term := f()
		if !fits(term) {
			return api.Ratio{}, api.ErrRange
		}
		if sum.Add(sum, term); !fits(sum) {
			return api.Ratio{}, api.ErrRange
		}
	}
	return normal(sum)
}

func sum(l []api.Ratio) (api.Ratio, api.Errno) {
	var terms []func() value
	for _, r := range l {
		terms = append(terms, func() value { return valueOf(r) })
	}
	return total(terms)
}

func dot(a, b []api.Ratio) (api.Ratio, api.Errno) {
	if len(a) != len(b) {
		return api.Ratio{}, api.ErrArg
	}
	var terms []func() value
	for i := range a {
		terms = append(terms, func() value { return new(big.Rat).Mul(valueOf(a[i]), valueOf(b[i])) })
	}
	return total(terms)
}

func TestSumAndDotByHand(t *testing.T) {
	for _, x := range []struct {
		a, b, want string
		e          api.Errno
	}{
		{"", "", "0", api.OK},
		{"1/2 1/3 -5/6", "1 1 1", "0", api.OK},
		{"1 2 3", "4 5 6", "32", api.OK},
		{"1/2 -2/3", "2/3 1/2", "0", api.OK},
		{"1073741824 1 -1", "1 1 1", "", api.ErrRange},
		{"1073741824 -1 1", "1 1 1", "1073741824", api.OK},
		{"1/1073741824 1/1073741823 -1/1073741823", "1 1 1", "", api.ErrRange},
		{"1073741824 -1073741824", "2 2", "", api.ErrRange},
		{"1/1073741824 -1/1073741824", "1/2 1/2", "", api.ErrRange},
		{"1073741824 1/1073741824", "1/1073741824 1073741824", "2", api.OK},
		{"0 0", "1073741824 -1073741824", "0", api.OK},
		{"1", "", "", api.ErrArg}, {"", "0", "", api.ErrArg}, {"1 2", "1 2 3", "", api.ErrArg},
		{"1073741824 2", "2", "", api.ErrArg}, {"1073741824", "2 0", "", api.ErrArg},
	} {
		a, b := read(x.a), read(x.b)
		var want api.Ratio
		if x.e == api.OK {
			want = one(x.want)
		}
		if r, e := ratio.Dot(a, b); r != want || e != x.e {
			t.Errorf("P7.5: Dot of %q and %q is %v, error %d", x.a, x.b, r, e)
		}
		if slices.ContainsFunc(b, func(r api.Ratio) bool { return r != of(1, 1) }) || len(a) != len(b) {
			continue
		}
		if r, e := ratio.Sum(a); r != want || e != x.e {
			t.Errorf("P7.5: Sum of %q is %v, error %d", x.a, r, e)
		}
	}
	if r, e := ratio.Sum(nil); r != of(0, 1) || e != api.OK {
		t.Error("P7.5: Sum of nothing is", r, e)
	}
}

// tame returns a ratio of which some can be added or multiplied.
func tame(r *rand.Rand, most int64) api.Ratio {
	x, _ := normal(big.NewRat(r.Int64N(2*most+1)-most, 1+r.Int64N(most)))
	return x
}

func TestSumAndDot(t *testing.T) {
	r := source(5)
	count := map[api.Errno]int{}
	list := func(n int) []api.Ratio {
		var l []api.Ratio
		for range n {
			if r.IntN(20) == 0 {
				l = append(l, draw(r))
			} else {
				l = append(l, tame(r, []int64{2, 5, 20, 200}[r.IntN(4)]))
			}
		}
		return l
	}
	for range 20000 {
		n := r.IntN(7)
		a, b := list(n), list(n)
		if r.IntN(10) == 0 {
			b = list(r.IntN(7))
		}
		x, y := slices.Clone(a), slices.Clone(b)
		want, e := sum(a)
		if got, f := ratio.Sum(a); got != want || f != e {
			t.Fatalf("P7.5: Sum of %s is %v, error %d, instead of %v, error %d", show(a), got, f, want, e)
		}
		want, e = dot(a, b)
		if got, f := ratio.Dot(a, b); got != want || f != e {
			t.Fatalf("P7.5: Dot of %s and %s is %v, error %d, instead of %v, error %d", show(a), show(b), got, f, want, e)
		}
		if !slices.Equal(a, x) || !slices.Equal(b, y) {
			t.Fatal("P7.5: Sum or Dot changes its arguments")
		}
		count[e]++
	}
	if count[api.OK] < 5000 || count[api.ErrRange] < 1000 || count[api.ErrArg] < 500 {
		t.Error("P7.5: the results of Dot are", count)
	}
}

// laws checks what the numbers a, b and c promise, as far as no result is too large.
func laws(t *testing.T, a, b, c api.Ratio) {
	t.Helper()
	do := func(f func(x, y api.Ratio) (api.Ratio, api.Errno)) func(x, y *api.Ratio) *api.Ratio {
		return func(x, y *api.Ratio) *api.Ratio {
			if x == nil || y == nil {
				return nil
			}
			r, e := f(*x, *y)
			if e != api.OK {
				return nil
			}
			return &r
		}
	}
	add, sub, mul, div := do(ratio.Add), do(ratio.Sub), do(ratio.Mul), do(ratio.Div)
	same := func(name string, x, y *api.Ratio) {
		if x != nil && y != nil && *x != *y {
			t.Fatalf("P7.8: %s: %v is not %v, for %v, %v, %v", name, *x, *y, a, b, c)
		}
	}
	x, y, z := &a, &b, &c
	same("a + b", add(x, y), add(y, x))
	same("a * b", mul(x, y), mul(y, x))
	same("a + b + c", add(add(x, y), z), add(x, add(y, z)))
	same("a * b * c", mul(mul(x, y), z), mul(x, mul(y, z)))
	same("a * (b + c)", mul(x, add(y, z)), add(mul(x, y), mul(x, z)))
	same("a + b - b", sub(add(x, y), y), x)
	same("a - b + b", add(sub(x, y), y), x)
	same("a * b / b", div(mul(x, y), y), x)
	same("a / b * b", mul(div(x, y), y), x)
	order := ratio.Cmp(a, b)
	switch {
	case order != -ratio.Cmp(b, a) || (order == 0) != (a == b) || order < -1 || order > 1:
		t.Fatalf("P7.8: the order of %v, %v is not total", a, b)
	case order <= 0 && ratio.Cmp(b, c) <= 0 && ratio.Cmp(a, c) > 0:
		t.Fatalf("P7.8: the order of %v, %v, %v is none", a, b, c)
	}
	agree := func(name string, x, y *api.Ratio, want int) {
		if x != nil && y != nil && ratio.Cmp(*x, *y) != want {
			t.Fatalf("P7.8: the order does not agree with %s, for %v, %v, %v", name, a, b, c)
		}
	}
	agree("sums", add(x, z), add(y, z), order)
	agree("differences", sub(z, y), sub(z, x), order)
	agree("products", mul(x, z), mul(y, z), order*ratio.Cmp(c, of(0, 1)))
}

func TestLaws(t *testing.T) {
	l := small(5)
	for _, a := range l {
		for _, b := range l {
			for _, c := range l {
				laws(t, a, b, c)
			}
		}
	}
	r := source(6)
	for range 20000 {
		laws(t, draw(r), draw(r), draw(r))
		laws(t, tame(r, 1000), tame(r, 1000), tame(r, 1000))
	}
}
