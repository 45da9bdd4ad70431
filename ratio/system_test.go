package ratio_test

import (
	"fmt"
	"math"
	"math/big"
	"math/rand/v2"
	"slices"
	"strings"
	"testing"

	"interlace/api"
	"interlace/ratio"
)

// system is a system, with the texts of its rows for failures.
type system struct {
	a [][]api.Ratio
	b []api.Ratio
}

func (s system) String() string {
	var b strings.Builder
	for i, r := range s.a {
		fmt.Fprintf(&b, "\n%s =", show(r))
		if i < len(s.b) {
			b.WriteString(show(s.b[i : i+1]))
		}
	}
	return b.String() + "\nwith b" + show(s.b)
}

func (s system) columns() int {
	if len(s.a) == 0 {
		return 0
	}
	return len(s.a[0])
}

// equations returns the system of a text: "1 2 = 3; 0 1 = 4".
func equations(text string) system {
	var s system
	for _, line := range strings.Split(text, ";") {
		if left, right, ok := strings.Cut(line, "="); ok {
			s.a = append(s.a, read(left))
			s.b = append(s.b, one(right))
		}
	}
	return s
}

// reference is the second way to Solve: numbers without bounds, of which each one that is formed must fit.
type reference struct {
	table   [][]value
	tooMuch bool
}

func (r *reference) set(i, k int, v value) {
	r.tooMuch = r.tooMuch || !fits(v)
	r.table[i][k] = v
}

// step uses the row at the place used for the column c; false if there is none.
func (r *reference) step(used, c int) bool {
	found := -1
	for i := len(r.table) - 1; i >= used; i-- {
		if r.table[i][c].Sign() != 0 {
			found = i
		}
	}
	if found < 0 {
		return false
	}
	r.table[found], r.table[used] = r.table[used], r.table[found]
	by := r.table[used][c]
	for k, v := range r.table[used] {
		r.set(used, k, new(big.Rat).Quo(v, by))
	}
	for i := range r.table {
		times := r.table[i][c]
		if i == used || times.Sign() == 0 {
			continue
		}
		for k, v := range r.table[i] {
			product := new(big.Rat).Mul(times, r.table[used][k])
			r.tooMuch = r.tooMuch || !fits(product)
			r.set(i, k, new(big.Rat).Sub(v, product))
		}
	}
	return true
}

func solve(s system) (x, y []api.Ratio, e api.Errno) {
	n, m := s.columns(), len(s.a)
	var r reference
	for i, l := range s.a {
		line := []value{}
		for _, v := range l {
			line = append(line, valueOf(v))
		}
		line = append(line, valueOf(s.b[i]))
		for range m {
			line = append(line, new(big.Rat))
		}
		line[n+1+i] = big.NewRat(1, 1)
		r.table = append(r.table, line)
	}
	used := 0
	at := map[int]int{}
	for c := range n {
		if r.step(used, c) {
			at[c] = used
			used++
		}
	}
	left := slices.IndexFunc(r.table[used:], func(l []value) bool { return l[n].Sign() != 0 })
	result := make([]value, n)
	for c := range n {
		result[c] = new(big.Rat)
		if i, ok := at[c]; ok {
			result[c] = r.table[i][n]
		}
	}
	if left >= 0 {
		line := r.table[used+left]
		result = nil
		for _, v := range line[n+1:] {
			v = new(big.Rat).Quo(v, line[n])
			r.tooMuch = r.tooMuch || !fits(v)
			result = append(result, v)
		}
	}
	if r.tooMuch {
		return nil, nil, api.ErrRange
	}
	var l []api.Ratio
	for _, v := range result {
		u, _ := normal(v)
		l = append(l, u)
	}
	if left >= 0 {
		return nil, l, api.ErrInfeasible
	}
	return l, nil, api.OK
}

func (s system) clone() system {
	var c system
	for _, r := range s.a {
		c.a = append(c.a, slices.Clone(r))
	}
	c.b = slices.Clone(s.b)
	return c
}

func (s system) equal(o system) bool {
	return slices.EqualFunc(s.a, o.a, func(x, y []api.Ratio) bool { return slices.Equal(x, y) }) && slices.Equal(s.b, o.b)
}

// exact returns the sum of products without bounds.
func exact(a, b []api.Ratio) value {
	sum := new(big.Rat)
	for i := range a {
		sum.Add(sum, new(big.Rat).Mul(valueOf(a[i]), valueOf(b[i])))
	}
	return sum
}

func (s system) column(c int) []api.Ratio {
	var l []api.Ratio
	for _, r := range s.a {
		l = append(l, r[c])
	}
	return l
}

func (s system) isSolution(x []api.Ratio) bool {
	for i, r := range s.a {
		if exact(r, x).Cmp(valueOf(s.b[i])) != 0 {
			return false
		}
	}
	return true
}

func (s system) isRefuted(y []api.Ratio) bool {
	for c := range s.columns() {
		if exact(s.column(c), y).Sign() != 0 {
			return false
		}
	}
	return exact(s.b, y).Cmp(big.NewRat(1, 1)) == 0
}

// checkSolve compares Solve with its second way, and with what its results promise.
func checkSolve(t *testing.T, s system) api.Errno {
	t.Helper()
	before := s.clone()
	x, y, e := ratio.Solve(s.a, s.b)
	u, v, f := solve(s)
	if e != f || !slices.Equal(x, u) || !slices.Equal(y, v) {
		t.Fatalf("P7.6: Solve is\nx%s\ny%s\nerror %d, instead of\nx%s\ny%s\nerror %d, for%v", show(x), show(y), e, show(u), show(v), f, s)
	}
	if !s.equal(before) {
		t.Fatalf("P7.6: Solve changes its arguments%v", before)
	}
	if e == api.OK {
		if g := ratio.Holds(s.a, s.b, x); !s.isSolution(x) || g != api.OK && g != api.ErrRange {
			t.Fatalf("P7.9: x is%s, for which Holds is %d, for%v", show(x), g, s)
		}
	}
	if e == api.ErrInfeasible {
		if g := ratio.Refutes(s.a, s.b, y); !s.isRefuted(y) || g != api.OK && g != api.ErrRange {
			t.Fatalf("P7.9: y is%s, for which Refutes is %d, for%v", show(y), g, s)
		}
	}
	return e
}

func TestSolveByHand(t *testing.T) {
	for _, w := range []struct {
		system, x, y string
		e            api.Errno
	}{
		{"1 1 = 3; 1 -1 = 1", "2 1", "", api.OK},
		{"1 1 = 3; 2 2 = 6", "3 0", "", api.OK},
		{"1 1 = 3; 1 1 = 5", "", "-1/2 1/2", api.ErrInfeasible},
		{"", "", "", api.OK},
		{"= 0; = 0", "", "", api.OK},
		{"= 0; = 2", "", "0 1/2", api.ErrInfeasible},
		{"= -3; = 2", "", "-1/3 0", api.ErrInfeasible},
		{"0 0 0 = 0", "0 0 0", "", api.OK},
		{"0 0 = 0; 0 0 = -4/3", "", "0 -3/4", api.ErrInfeasible},
		{"0 2 = 6; 0 0 = 0", "0 3", "", api.OK},
		{"0 0 5 = 1", "0 0 1/5", "", api.OK},
		{"0 1 = 5; 1 0 = 7", "7 5", "", api.OK},
		// The first row is exchanged with the one that is used: behind it in one case, behind another row that contradicts in the other.
		{"0 = 4; 2 = 1; 0 = 3", "", "1/4 0 0", api.ErrInfeasible},
		{"0 = 4; 0 = 3; 2 = 1", "", "0 1/3 0", api.ErrInfeasible},
		{"1 2 3 = 1; 4 5 6 = 2; 7 8 9 = 3", "-1/3 2/3 0", "", api.OK},
		{"1 2 3 = 1; 4 5 6 = 2; 7 8 9 = 4", "", "1 -2 1", api.ErrInfeasible},
		// Each of these stops at an operation whose result is too large.
		{"1073741824 = 1/2", "", "", api.ErrRange},
		{"1/1073741824 = 2", "", "", api.ErrRange},
		{"3 1/1073741824 = 0", "", "", api.ErrRange},
		{"1 1048576 = 0; 1048576 0 = 0", "", "", api.ErrRange},
		{"1 = 1048576; 1048576 = 0", "", "", api.ErrRange},
		{"1/1073741824 = 0; 2 = 0", "", "", api.ErrRange},
		{"1 536870913 = 0; 2 1073741824 = 0", "", "", api.ErrRange}, // a product is too large, the difference is not
		{"1 1073741824 = 0; 1 -1 = 0", "", "", api.ErrRange},        // a difference is too large, the product is not
		{"1 = 0; 3 = 1/1073741824", "", "", api.ErrRange},           // y is too large
		{"1 1 0 = 0; 1 1 0 = 1; 0 0 1073741824 = 1/3", "", "", api.ErrRange},
		// What is exchanged, or 0, is not changed.
		{"1073741824 = 0", "0", "", api.OK},
		{"1073741824 1073741824 = 1073741824; 0 1/1073741824 = 1/1073741824", "0 1", "", api.OK},
		{"0 1073741824 = 0; 1/1073741824 0 = 0", "0 0", "", api.OK},
	} {
		s := equations(w.system)
		checkSolve(t, s)
		x, y, e := ratio.Solve(s.a, s.b)
		if e != w.e || !slices.Equal(x, read(w.x)) || !slices.Equal(y, read(w.y)) {
			t.Errorf("P7.6: Solve(%q) is\nx%s\ny%s\nerror %d", w.system, show(x), show(y), e)
		}
	}
}

// randomSystem returns a system, which is often without a solution, or with many.
func randomSystem(r *rand.Rand, most int) system {
	m, n := r.IntN(most+1), r.IntN(most+1)
	if m == 0 {
		n = 0
	}
	size := []int64{1, 2, 4, 9, 40}[r.IntN(5)]
	whole := r.IntN(2) == 0
	zeros := r.IntN(4)
	number := func() api.Ratio {
		switch {
		case r.IntN(4) < zeros:
			return of(0, 1)
		case r.IntN(200) == 0:
			return draw(r)
		case whole:
			return of(int(r.Int64N(2*size+1)-size), 1)
		}
		return tame(r, size)
	}
	var s system
	for range m {
		var l []api.Ratio
		for range n + 1 {
			l = append(l, number())
		}
		s.a, s.b = append(s.a, l[:n:n]), append(s.b, l[n])
	}
	for i := range m {
		if j := r.IntN(m); r.IntN(3) == 0 && i != j { // a multiple of another row, with the same b or another one
			times := of(r.IntN(5)-2, 1)
			for k := range n {
				s.a[i][k], _ = normal(new(big.Rat).Mul(valueOf(times), valueOf(s.a[j][k])))
				s.a[i][k].D = max(1, s.a[i][k].D)
			}
			if r.IntN(2) == 0 {
				s.b[i], _ = normal(new(big.Rat).Mul(valueOf(times), valueOf(s.b[j])))
				s.b[i].D = max(1, s.b[i].D)
			}
		}
	}
	return s
}

func TestSolve(t *testing.T) {
	r := source(7)
	count := map[api.Errno]int{}
	for range 20000 {
		count[checkSolve(t, randomSystem(r, 6))]++
	}
	for range 300 {
		count[checkSolve(t, randomSystem(r, 20))]++
	}
	if count[api.OK] < 2000 || count[api.ErrInfeasible] < 2000 || count[api.ErrRange] < 100 {
		t.Error("P7.6: the results are", count)
	}
}

// TestGreatSystems solves systems with 20 rows and columns.
func TestGreatSystems(t *testing.T) {
	r := source(8)
	for turn := range 10 {
		var s system
		for i := range ratio.MaxRows {
			l := slices.Repeat(read("0"), ratio.MaxRows)
			l[i], l[(i+7)%ratio.MaxRows] = of(1+turn%2, 1), of(r.IntN(3)-1, 1)
			s.a, s.b = append(s.a, l), append(s.b, of(i, 1))
		}
		r.Shuffle(len(s.a), func(i, j int) { s.a[i], s.a[j] = s.a[j], s.a[i] })
		if e := checkSolve(t, s); e == api.ErrArg {
			t.Error("P7.6: 20 rows and columns are ErrArg")
		}
	}
}

// shape returns a system of zeros with rows of some lengths.
func shape(b int, lengths ...int) system {
	s := system{b: slices.Repeat(read("0"), b)}
	for _, n := range lengths {
		s.a = append(s.a, slices.Repeat(read("0"), n))
	}
	return s
}

func TestSystemsThatAreNotFormed(t *testing.T) {
	twenty := slices.Repeat([]int{20}, 20)
	for i, w := range []struct {
		s    system
		want bool
	}{
		{shape(0), true}, {shape(1, 0), true}, {shape(2, 0, 0), true}, {shape(1, 20), true}, {shape(20, slices.Repeat([]int{0}, 20)...), true}, {shape(20, slices.Repeat([]int{1}, 20)...), true}, {shape(20, twenty...), true},
		{shape(1), false}, {shape(0, 1), false}, {shape(2, 1), false}, {shape(1, 1, 1), false}, {shape(0, 0), false}, {shape(20), false},
		{shape(2, 1, 2), false}, {shape(2, 2, 1), false}, {shape(3, 2, 2, 0), false}, {shape(2, 0, 1), false}, {shape(2, 1, 0), false},
		{shape(1, 21), false}, {shape(2, 21, 21), false}, {shape(21, slices.Repeat([]int{0}, 21)...), false}, {shape(21, slices.Repeat([]int{1}, 21)...), false}, {shape(20, append(slices.Clone(twenty[1:]), 21)...), false},
		{shape(20, append(slices.Clone(twenty), 20)...), false}, {shape(21, twenty...), false}, {shape(19, twenty...), false},
	} {
		want := api.ErrArg
		if w.want {
			want = api.OK
		}
		x, y, e := ratio.Solve(w.s.a, w.s.b)
		n, m := w.s.columns(), len(w.s.a)
		if e != want || len(y) != 0 || w.want && len(x) != n || !w.want && len(x) != 0 {
			t.Errorf("P7.6: Solve of the shape %d is%s, error %d", i, show(x), e)
		}
		if e := ratio.Holds(w.s.a, w.s.b, slices.Repeat(read("0"), n)); e != want {
			t.Errorf("P7.7: Holds of the shape %d is %d", i, e)
		}
		if w.want {
			want = api.ErrCorrupt
		}
		if e := ratio.Refutes(w.s.a, w.s.b, slices.Repeat(read("0"), m)); e != want {
			t.Errorf("P7.7: Refutes of the shape %d is %d", i, e)
		}
	}
	s := equations("1073741824 = 1/2; 1 = 1")
	if _, _, e := ratio.Solve(s.a, s.b[:1]); e != api.ErrArg {
		t.Error("P7.6: ErrArg comes first, and not", e)
	}
}

func TestHoldsAndRefutesByHand(t *testing.T) {
	for _, w := range []struct {
		system, l      string
		holds, refutes api.Errno
	}{
		{"1 1 = 3; 1 -1 = 1", "2 1", api.OK, api.ErrCorrupt},
		{"1 1 = 3; 1 -1 = 1", "2 2", api.ErrCorrupt, api.ErrCorrupt},
		{"1 1 = 3; 1 -1 = 1", "3 0", api.ErrCorrupt, api.ErrCorrupt},
		{"1 1 = 3; 1 1 = 5", "-1/2 1/2", api.ErrCorrupt, api.OK},
		{"1 1 = 3; 1 1 = 5", "1/2 -1/2", api.ErrCorrupt, api.ErrCorrupt},
		{"1 1 = 3; 1 1 = 5", "-1 1", api.ErrCorrupt, api.ErrCorrupt},
		{"1 2 = 3; 1 1 = 5", "-1/2 1/2", api.ErrCorrupt, api.ErrCorrupt},
		{"2 1 = 3; 1 1 = 5", "-1/2 1/2", api.ErrCorrupt, api.ErrCorrupt},
		{"1 1 = 3; 1 1 = 5", "1", api.ErrArg, api.ErrArg},
		{"1 1 = 3; 1 1 = 5", "1 2 3", api.ErrArg, api.ErrArg},
		{"1 1 = 3; 1 1 = 5", "", api.ErrArg, api.ErrArg},
		{"1 1 1 = 3; 1 1 1 = 5", "-1/2 1/2", api.ErrArg, api.OK},
		{"1 1 1 = 3; 1 1 1 = 5", "1 1 1", api.ErrCorrupt, api.ErrArg},
		{"1 1 1 = 3; 1 1 1 = 3", "1 1 1", api.OK, api.ErrArg},
		{"", "", api.OK, api.ErrCorrupt},
		{"", "1", api.ErrArg, api.ErrArg},
		{"= 0; = 2", "", api.ErrCorrupt, api.ErrArg},
		{"= 0; = 0", "", api.OK, api.ErrArg},
		{"= 0; = 2", "0 1/2", api.ErrArg, api.OK},
		{"= 0; = 2", "7 1/2", api.ErrArg, api.OK},
		{"= 0; = 2", "1/2 0", api.ErrArg, api.ErrCorrupt},
		// For each row, or column, in turn: that of Dot, then ErrCorrupt; at last b.
		{"1073741824 0 = 0; 1 1 = 9", "2 0", api.ErrRange, api.ErrRange},
		{"1 1 = 9; 1073741824 0 = 0", "2 0", api.ErrCorrupt, api.ErrCorrupt},
		{"1 1073741824 = 2; 0 0 = 0", "2 0", api.OK, api.ErrCorrupt},
		{"0 1073741824 = 2; 0 0 = 0", "2 0", api.ErrCorrupt, api.ErrRange},
		{"1073741824 1 = 1; 0 0 = 0", "2 0", api.ErrRange, api.ErrRange},
		{"0 0 = 1073741824; 0 0 = 0", "2 0", api.ErrCorrupt, api.ErrRange},
		{"0 1 = 1073741824; 0 0 = 0", "2 0", api.ErrCorrupt, api.ErrCorrupt},
		{"0 0 = 1073741824; 0 0 = 0", "1/1073741824 0", api.ErrCorrupt, api.OK},
		{"1073741824 -1073741824 = 0; 0 0 = 1", "2 2", api.ErrRange, api.ErrRange},
		{"1073741824 1 = 1073741824; 0 0 = 0", "1 1", api.ErrRange, api.ErrCorrupt},
		{"1073741824 0 = 1073741824; 1 0 = 1", "1 1", api.OK, api.ErrRange},
	} {
		s, l := equations(w.system), read(w.l)
		if e := ratio.Holds(s.a, s.b, l); e != w.holds {
			t.Errorf("P7.7: Holds(%q, %q) is %d", w.system, w.l, e)
		}
		if e := ratio.Refutes(s.a, s.b, l); e != w.refutes {
			t.Errorf("P7.7: Refutes(%q, %q) is %d", w.system, w.l, e)
		}
	}
}

// holds is the second way to Holds, refutes to Refutes.
func holds(s system, x []api.Ratio) api.Errno {
	for i, r := range s.a {
		v, e := dot(r, x)
		if e != api.OK {
			return e
		}
		if v != s.b[i] {
			return api.ErrCorrupt
		}
	}
	return api.OK
}

func refutes(s system, y []api.Ratio) api.Errno {
	want := slices.Repeat(read("0"), s.columns())
	var lists [][]api.Ratio
	for c := range s.columns() {
		lists = append(lists, s.column(c))
	}
	return holds(system{append(lists, s.b), append(want, of(1, 1))}, y)
}

// checkBoth compares Holds and Refutes for lists with their second ways.
func checkBoth(t *testing.T, s system, x, y []api.Ratio) (api.Errno, api.Errno) {
	t.Helper()
	before, u, v := s.clone(), slices.Clone(x), slices.Clone(y)
	e, f := ratio.Holds(s.a, s.b, x), ratio.Refutes(s.a, s.b, y)
	if want := holds(s, x); e != want {
		t.Fatalf("P7.7: Holds is %d instead of %d for%s and%v", e, want, show(x), s)
	}
	if want := refutes(s, y); f != want {
		t.Fatalf("P7.7: Refutes is %d instead of %d for%s and%v", f, want, show(y), s)
	}
	if e == api.OK && !s.isSolution(x) || f == api.OK && !s.isRefuted(y) {
		t.Fatalf("P7.7: Holds is %d for%s, Refutes is %d for%s, for%v", e, show(x), f, show(y), s)
	}
	if !s.equal(before) || !slices.Equal(x, u) || !slices.Equal(y, v) {
		t.Fatalf("P7.7: Holds or Refutes changes its arguments%v", before)
	}
	return e, f
}

func TestHoldsAndRefutes(t *testing.T) {
	r := source(9)
	count, counted := map[api.Errno]int{}, map[api.Errno]int{}
	random := func(n int) []api.Ratio {
		var l []api.Ratio
		for range n {
			if r.IntN(30) == 0 {
				l = append(l, draw(r))
			} else {
				l = append(l, tame(r, 3))
			}
		}
		return l
	}
	for range 10000 {
		s := randomSystem(r, 5)
		n, m := s.columns(), len(s.a)
		x, y, _ := ratio.Solve(s.a, s.b)
		lists := [][2][]api.Ratio{{random(n), random(m)}, {slices.Repeat(read("0"), n), slices.Repeat(read("0"), m)}}
		if x != nil && len(x) == n {
			lists = append(lists, [2][]api.Ratio{x, random(m)})
		}
		if y != nil {
			lists = append(lists, [2][]api.Ratio{random(n), y})
		}
		is := [2]bool{}
		for _, l := range lists {
			e, f := checkBoth(t, s, l[0], l[1])
			count[e]++
			counted[f]++
			is[0], is[1] = is[0] || e == api.OK, is[1] || f == api.OK
		}
		if is[0] && is[1] {
			t.Fatalf("P7.9: a system has a solution and none%v", s)
		}
	}
	for _, e := range []api.Errno{api.OK, api.ErrCorrupt, api.ErrRange} {
		if count[e] < 100 || counted[e] < 100 {
			t.Errorf("P7.7: the error %d is %d and %d times a result", e, count[e], counted[e])
		}
	}
}

// TestNothingIsBoth tries all short lists of small ratios as solutions and as refutations of small systems.
func TestNothingIsBoth(t *testing.T) {
	r := source(10)
	l := small(2)
	solved, refuted := 0, 0
	for range 2000 {
		s := shape(2, 2, 2)
		for i := range s.b {
			s.a[i][0], s.a[i][1], s.b[i] = tame(r, 1), tame(r, 1), tame(r, 2)
		}
		a, b := false, false
		for _, x := range l {
			for _, y := range l {
				a = a || ratio.Holds(s.a, s.b, []api.Ratio{x, y}) == api.OK
				b = b || ratio.Refutes(s.a, s.b, []api.Ratio{x, y}) == api.OK
			}
		}
		_, _, e := ratio.Solve(s.a, s.b)
		if a && e != api.OK || b && e != api.ErrInfeasible {
			t.Fatalf("P7.9: Solve is %d, Holds %v, Refutes %v, for%v", e, a, b, s)
		}
		if a {
			solved++
		}
		if b {
			refuted++
		}
	}
	if solved < 100 || refuted < 100 {
		t.Error("P7.9: there are", solved, "systems with solutions, and without", refuted)
	}
}

// TestResultsAreNewMemory changes results, and looks at arguments and later results.
func TestResultsAreNewMemory(t *testing.T) {
	for _, text := range []string{"1 0 = 3; 0 1 = 4", "1 0 = 3; 1 0 = 4", "= 1"} {
		s := equations(text)
		before := s.clone()
		for range 2 {
			checkSolve(t, s)
			x, y, _ := ratio.Solve(s.a, s.b)
			for _, l := range [][]api.Ratio{x, y} {
				for i := range l {
					l[i] = of(99, 1)
				}
			}
			if !s.equal(before) {
				t.Fatalf("P7.6: results share memory with arguments: %s", text)
			}
		}
	}
}

// TestMemoryBehindRows solves a system whose rows are cut out of one list, and have room behind them.
func TestMemoryBehindRows(t *testing.T) {
	all := slices.Repeat(read("1 2 3 4 5 7 6 8 9 1/2"), 30)
	before := slices.Clone(all)
	for n := range 5 {
		s := system{b: all[50:53]}
		for i := range 3 {
			s.a = append(s.a, all[10*i:10*i+n])
		}
		checkSolve(t, s)
		checkBoth(t, s, all[60:60+n], all[60:63])
		if !slices.Equal(all, before) {
			t.Fatal("P7.6: memory behind a row is changed")
		}
	}
}

// TestAnyArguments calls all functions for numbers that are no normal ratios.
func TestAnyArguments(t *testing.T) {
	r := source(11)
	parts := []int{0, 1, -1, 2, -2, most, -most, most + 1, 1 << 61, -1 << 61, math.MaxInt, math.MinInt, math.MinInt + 1, 1 << 32, 1 << 31}
	wild := func() api.Ratio {
		return of(parts[r.IntN(len(parts))], parts[r.IntN(len(parts))])
	}
	list := func(n int) []api.Ratio {
		var l []api.Ratio
		for range n {
			l = append(l, wild())
		}
		return l
	}
	try := func(name string, f func()) {
		defer func() {
			if p := recover(); p != nil {
				t.Fatal("P1:", name, "panics:", p)
			}
		}()
		f()
	}
	for _, n := range parts {
		for _, d := range parts {
			x := of(n, d)
			try("Check", func() { ratio.Check(x) })
			try("Of", func() { checkOf(t, n, d) })
			try("Floor", func() { ratio.Floor(x) })
			try("Ceil", func() { ratio.Ceil(x) })
			try("Text", func() { ratio.Parse(ratio.Text(x)) })
			for _, m := range parts {
				for _, o := range operations() {
					try(o.name, func() { o.f(x, of(m, d)) })
				}
				try("Cmp", func() { ratio.Cmp(x, of(m, d)) })
			}
		}
	}
	for range 20000 {
		n, m := r.IntN(4), r.IntN(4)
		var s system
		for range m {
			s.a = append(s.a, list(n))
		}
		s.b = list(m)
		try("Sum", func() { ratio.Sum(s.b) })
		try("Dot", func() { ratio.Dot(s.b, list(m)) })
		try("Solve", func() { ratio.Solve(s.a, s.b) })
		try("Holds", func() { ratio.Holds(s.a, s.b, list(n)) })
		try("Refutes", func() { ratio.Refutes(s.a, s.b, list(m)) })
	}
}
