package path_test

import (
	"math"
	"slices"
	"strconv"
	"testing"

	"interlace/api"
	"interlace/path"
	"interlace/syntax"
)

func TestMatch(t *testing.T) {
	for _, x := range []struct {
		source string
		names  []string
		want   bool
	}{
		{"a; any*; c; any*", []string{"a", "c"}, true},
		{"a; any*; c; any*", []string{"a", "b", "d"}, false},
		{"a; any*; c; any*", []string{"c"}, false},
		{"()", nil, true},
		{"()", []string{""}, false},
		{"any", []string{""}, true},
		{"any", []string{"\xff no name"}, true},
		{"any", nil, false},
		{"any", []string{"a", "a"}, false},
		{"a", []string{"a"}, true},
		{"a", []string{"A"}, false},
		{"a", []string{"a", "a"}, false},
		{"a*", nil, true},
		{"a*", []string{"a", "a", "a"}, true},
		{"a*", []string{"a", "b", "a"}, false},
		{"(a; b)*", []string{"a", "b", "a", "b"}, true},
		{"(a; b)*", []string{"a", "b", "a"}, false},
		{"a | b; c", []string{"a"}, true},
		{"a | b; c", []string{"a", "c"}, false},
		{"a | b; c", []string{"b", "c"}, true},
		{"()*; ()", nil, true},
		{"(()| a)*; b", []string{"a", "a", "b"}, true},
		{"other", []string{"other"}, true},
		{"other", []string{"other1"}, false},
	} {
		if got := path.Match(parsed(t, x.source), x.names); got != x.want {
			t.Errorf("P16.1: Match of %s and %q is %v", x.source, x.names, got)
		}
	}
	r := random(1)
	for range 3000 {
		x := some(r, 16, "a", "b", "ab")
		for range 20 {
			l := someList(r, 6, "a", "b", "ab", "", "z z")
			if got := path.Match(x, l); got != matches(x, l) {
				t.Fatalf("P16.1: Match of %s and %q is %v", syntax.PrintRegex(x), l, got)
			}
		}
	}
}

// checkMachine compares what a machine accepts with an expression: for all lists, since it follows what is left of it.
func checkMachine(t *testing.T, x api.Regex, m api.Machine) {
	t.Helper()
	source := syntax.PrintRegex(x)
	if !slices.Equal(m.Names, namesOf(x)) || !path.Check(m) {
		t.Fatalf("P16.1: Build of %s is %v", source, m)
	}
	type place struct {
		state int
		left  rest
	}
	queue, seen := []place{{0, restOf(x)}}, map[string]bool{}
	for at := 0; at < len(queue); at++ {
		p := queue[at]
		if p.left.accepts() != m.Accept[p.state] {
			t.Fatalf("P16.7: the state %d of the machine %v of %s", p.state, m, source)
		}
		for i, name := range append(slices.Clone(m.Names), stranger()) {
			next := place{m.Next[p.state][i], p.left.after(name)}
			if k := strconv.Itoa(next.state) + " " + next.left.key(); !seen[k] {
				seen[k] = true
				queue = append(queue, next)
			}
		}
	}
}

// checkLeast checks that states are numbered as they are found, and that for each two of them some list tells them apart.
func checkLeast(t *testing.T, m api.Machine) {
	t.Helper()
	found := 1
	for _, row := range m.Next {
		for _, next := range row {
			if next > found {
				t.Fatalf("P16.1: the states of %v are in disorder", m)
			}
			found = max(found, next+1)
		}
	}
	if found != len(m.Next) {
		t.Fatalf("P16.1: not all states of %v are found", m)
	}
	apart := map[[2]int]bool{}
	for changed := true; changed; {
		changed = false
		for a := range m.Next {
			for b := range m.Next {
				differ := m.Accept[a] != m.Accept[b]
				for i := range m.Next[a] {
					differ = differ || apart[[2]int{m.Next[a][i], m.Next[b][i]}]
				}
				if differ && !apart[[2]int{a, b}] {
					apart[[2]int{a, b}] = true
					changed = true
				}
			}
		}
	}
	if n := len(m.Next); len(apart) != n*(n-1) {
		t.Fatalf("P16.1: states of %v can be joined", m)
	}
}

func TestBuild(t *testing.T) {
	for source, want := range map[string]api.Machine{
		"()":               {Next: [][]int{{1}, {1}}, Accept: []bool{true, false}},
		"any":              {Next: [][]int{{1}, {2}, {2}}, Accept: []bool{false, true, false}},
		"any*":             {Next: [][]int{{0}}, Accept: []bool{true}},
		"any* | a":         {Names: []string{"a"}, Next: [][]int{{0, 0}}, Accept: []bool{true}},
		"b; a":             {Names: []string{"a", "b"}, Next: [][]int{{1, 2, 1}, {1, 1, 1}, {3, 1, 1}, {1, 1, 1}}, Accept: []bool{false, false, false, true}},
		"a; any*; c; any*": {Names: []string{"a", "c"}, Next: [][]int{{1, 2, 2}, {1, 3, 1}, {2, 2, 2}, {3, 3, 3}}, Accept: []bool{false, false, false, true}},
		"(a; a)*":          {Names: []string{"a"}, Next: [][]int{{1, 2}, {0, 2}, {2, 2}}, Accept: []bool{true, false, false}},
	} {
		if m, e := path.Build(parsed(t, source)); !sameMachine(m, want) || e != api.OK {
			t.Errorf("P16.1: Build of %s is %v and %d, want %v", source, m, e, want)
		}
	}
	r := random(2)
	for range 1500 {
		x := some(r, 20, "a", "b", "c")
		m, e := path.Build(x)
		if e != api.OK {
			t.Fatalf("P16.1: Build of %s is error %d", syntax.PrintRegex(x), e)
		}
		checkMachine(t, x, m)
		checkLeast(t, m)
	}
}

// cycle returns an expression that matches a list of any number of a that a number divides.
func cycle(length int) api.Regex { return star(repeated(length, node("a"))) }

// cycles returns an expression that has as many sets after lists of a as the least number that all these numbers divide.
func cycles(lengths ...int) api.Regex {
	x := cycle(lengths[0])
	for _, length := range lengths[1:] {
		x = or(x, cycle(length))
	}
	return x
}

// late returns an expression that matches lists of a and b with an a before so many last names. After lists of a and b
// stand 2^(last + 1) sets, and after others half as many.
func late(last int) api.Regex {
	return seq(star(or(node("a"), node("b"))), seq(node("a"), repeated(last, anyone())))
}

// Sets are counted up to this number.
const most = 215

// checkLimit compares the sets of an expression with the error of Build, and returns how many there are.
func checkLimit(t *testing.T, x api.Regex) int {
	t.Helper()
	sets := setsOf(x, most)
	m, e := path.Build(x)
	switch {
	case sets <= 200:
		if e != api.OK || len(m.Next) > sets {
			t.Errorf("P16.1: Build of %s with %d sets is error %d, %d states", syntax.PrintRegex(x), sets, e, len(m.Next))
		}
		checkLeast(t, m)
	case e != api.ErrLimit || !sameMachine(m, api.Machine{}):
		t.Errorf("P16.1: Build of %s with %d sets is error %d, %v", syntax.PrintRegex(x), sets, e, m)
	}
	return sets
}

func TestBuildLimit(t *testing.T) {
	for i, x := range []struct {
		x    api.Regex
		sets int
	}{
		{cycles(2, 9, 11), 200}, // with that of -1, and the empty one
		{cycles(9, 22), 200},
		{cycles(1, 9, 22), 200},
		{or(cycles(2, 9, 11), empty()), 200},
		{seq(node("b"), cycles(2, 9, 11)), 201},
		{seq(cycles(2, 9, 11), node("b")), 201},
		{or(cycles(2, 9, 11), node("b")), 201},
		{or(cycles(2, 9, 11), node("a")), 201},
		{or(star(anyone()), cycles(2, 9, 12)), 38},
		{or(star(anyone()), cycles(2, 9, 11)), 200}, // though one state is enough
		{or(star(anyone()), or(cycles(2, 9, 11), node("a"))), 201},
		{or(star(anyone()), cycles(9, 23)), 209},
		{or(cycles(9, 22), seq(star(anyone()), seq(node("b"), node("b")))), 202},
		{late(5), 97},
		{late(6), 193},
		{late(7), most + 1}, // or more
		{late(80), most + 1},
		{repeated(100, node("a")), 102},
		{repeated(100, anyone()), 102},
		{empty(), 2},
		{star(anyone()), 2},
	} {
		if syntax.CheckRegex(x.x) != api.OK {
			t.Fatalf("the example %d is too large", i)
		}
		if got := checkLimit(t, x.x); got != x.sets {
			t.Errorf("P16.1: the example %d has %d sets", i, got)
		}
	}
	r := random(3)
	below, above := 0, 0
	for range 300 {
		x := star(or(some(r, 5, "a", "b"), node("b")))
		for range 5 + r.IntN(8) {
			x = seq(x, pick(r, anyone(), anyone(), anyone(), node("a"), or(node("a"), anyone()), some(r, 6, "a", "b")))
		}
		switch sets := checkLimit(t, x); {
		case sets > 200:
			above++
		case sets > 50:
			below++
		}
	}
	if above < 30 || below < 30 {
		t.Errorf("P16.1: %d expressions have many sets, and %d too many", below, above)
	}
}

func TestCheck(t *testing.T) {
	for _, x := range []struct {
		what   string
		change func(m *api.Machine)
		want   bool
	}{
		{"the example", func(m *api.Machine) {}, true},
		{"zero", func(m *api.Machine) { *m = api.Machine{} }, false},
		{"no names", func(m *api.Machine) { *m = api.Machine{Next: [][]int{{0}}, Accept: []bool{false}} }, true},
		{"no states", func(m *api.Machine) { m.Next, m.Accept = nil, nil }, false},
		{"strange names", func(m *api.Machine) { m.Names = []string{"", "\xff"} }, true},
		{"the same name twice", func(m *api.Machine) { m.Names = []string{"a", "a"} }, false},
		{"names in disorder", func(m *api.Machine) { m.Names = []string{"c", "a"} }, false},
		{"a name more", func(m *api.Machine) { m.Names = []string{"a", "b", "c"} }, false},
		{"a name less", func(m *api.Machine) { m.Names = []string{"a"} }, false},
		{"states that are not found", func(m *api.Machine) { m.Next[0] = []int{0, 0, 0} }, true},
		{"states that can be joined", func(m *api.Machine) { m.Accept[3] = false }, true},
		{"an Accept more", func(m *api.Machine) { m.Accept = append(m.Accept, true) }, false},
		{"an Accept less", func(m *api.Machine) { m.Accept = m.Accept[:3] }, false},
		{"a row more", func(m *api.Machine) { m.Next = append(m.Next, []int{0, 0, 0}) }, false},
		{"a row less", func(m *api.Machine) { m.Next = m.Next[:3] }, false},
		{"a long row", func(m *api.Machine) { m.Next[3] = []int{0, 0, 0, 0} }, false},
		{"a short row", func(m *api.Machine) { m.Next[0] = []int{0, 0} }, false},
		{"no row", func(m *api.Machine) { m.Next[2] = nil }, false},
		{"the state 4", func(m *api.Machine) { m.Next[3][2] = 4 }, false},
		{"the state -1", func(m *api.Machine) { m.Next[0][0] = -1 }, false},
		{"the greatest state", func(m *api.Machine) { m.Next[1][1] = math.MaxInt }, false},
		{"the least state", func(m *api.Machine) { m.Next[1][1] = math.MinInt }, false},
		{"200 states", func(m *api.Machine) { *m = circle(200) }, true},
		{"201 states", func(m *api.Machine) { *m = circle(201) }, false},
		{"the state 200", func(m *api.Machine) { *m = circle(200); m.Next[7][1] = 200 }, false},
	} {
		m, _ := path.Build(parsed(t, "a; any*; c; any*"))
		x.change(&m)
		before := copyOf(m)
		if got := path.Check(m); got != x.want {
			t.Errorf("P16.2: Check of %s is %v", x.what, got)
		}
		if !sameMachine(m, before) {
			t.Errorf("P16.2: Check of %s changes it", x.what)
		}
	}
}

// circle returns a machine that goes to the next state after each name x.
func circle(states int) api.Machine {
	m := api.Machine{Names: []string{"x"}}
	for i := range states {
		m.Next = append(m.Next, []int{(i + 1) % states, i})
		m.Accept = append(m.Accept, i == states-1)
	}
	return m
}

func TestRun(t *testing.T) {
	m := api.Machine{Names: []string{"", "b", "c"}, Next: [][]int{{1, 2, 0, 1}, {0, 0, 2, 1}, {2, 1, 1, 0}}, Accept: make([]bool, 3)}
	for _, x := range []struct {
		names []string
		want  int
	}{
		{nil, 0},
		{[]string{""}, 1},
		{[]string{"b"}, 2},
		{[]string{"c"}, 0},
		{[]string{"a"}, 1},
		{[]string{"bb"}, 1},
		{[]string{"\xff"}, 1},
		{[]string{"b", "", "c", "b", "other", "c"}, 2},
	} {
		if got := path.Run(m, x.names); got != x.want {
			t.Errorf("P16.2: Run of %q is %d", x.names, got)
		}
	}
	if got := path.Run(circle(200), slices.Repeat([]string{"x", "y"}, 100000+199)); got != 199 {
		t.Errorf("P16.2: Run of a long list is %d", got)
	}
	r := random(4)
	for range 1000 {
		x := some(r, 20, "a", "b", "c")
		m, _ := path.Build(x)
		for range 10 {
			l := someList(r, 8, "a", "b", "c", "", "d", "other")
			state := 0
			for _, name := range l {
				i := slices.Index(m.Names, name)
				if i < 0 {
					i = len(m.Names)
				}
				state = m.Next[state][i]
			}
			if got := path.Run(m, l); got != state {
				t.Fatalf("P16.2: Run of %v and %q is %d, want %d", m, l, got, state)
			}
			if m.Accept[state] != path.Match(x, l) {
				t.Fatalf("P16.7: Build and Match of %s differ for %q", syntax.PrintRegex(x), l)
			}
		}
	}
}

// apart returns the first one of the shortest lists, of those given, that one of two expressions alone matches.
func apart(x, y api.Regex, all [][]string) ([]string, bool) {
	for _, l := range all {
		if matches(x, l) != matches(y, l) {
			return l, true
		}
	}
	return nil, false
}

// alike reports whether two expressions match the same lists: whether what is left of both always accepts alike.
func alike(x, y api.Regex, letters []string) bool {
	type both struct{ x, y rest }
	queue, seen := []both{{restOf(x), restOf(y)}}, map[string]bool{}
	for at := 0; at < len(queue); at++ {
		if queue[at].x.accepts() != queue[at].y.accepts() {
			return false
		}
		for _, name := range letters {
			next := both{queue[at].x.after(name), queue[at].y.after(name)}
			if k := next.x.key() + " and " + next.y.key(); !seen[k] {
				seen[k] = true
				queue = append(queue, next)
			}
		}
	}
	return true
}

// checkEqual compares Equal with all lists of up to so many letters, and with what is left of both expressions.
func checkEqual(t *testing.T, x, y api.Regex, length int) bool {
	t.Helper()
	names := namesOf(or(x, y))
	letters := append(names, path.Other(names))
	what := syntax.PrintRegex(x) + " and " + syntax.PrintRegex(y)
	l, same, e := path.Equal(x, y)
	if e != api.OK || same && len(l) > 0 || same != alike(x, y, letters) {
		t.Fatalf("P16.3: Equal of %s is %q, %v and error %d", what, l, same, e)
	}
	if !same && matches(x, l) == matches(y, l) {
		t.Fatalf("P16.7: Equal of %s is %q", what, l)
	}
	want, differ := apart(x, y, lists(length, letters...))
	if differ && !slices.Equal(l, want) || !differ && !same && len(l) <= length {
		t.Fatalf("P16.3: Equal of %s is %q, want %q", what, l, want)
	}
	return same
}

func TestEqual(t *testing.T) {
	for _, x := range []struct {
		a, b string
		want []string
		same bool
	}{
		{"(a | b)*", "(a*; b*)*", nil, true},
		{"a; any", "any; a", []string{"a", "other"}, false},
		{"any; a", "a; any", []string{"a", "other"}, false},
		{"()", "any*", []string{"other"}, false},
		{"()", "any", nil, false},
		{"any", "any*", nil, false},
		{"a", "b", []string{"a"}, false},
		{"any; b", "any; c", []string{"b", "b"}, false},
		{"zz*", "any*", []string{"other"}, false},
		{"a | other", "any", []string{"other1"}, false},
		{"a | other | other1", "any", []string{"other2"}, false},
		{"a | z | other | other2", "any", []string{"other1"}, false},
		{"other | z", "any | z", []string{"other1"}, false}, // not z, though z is greater
		{"any; other | z; z", "any; other | any; z", []string{"other", "z"}, false},
		{"a | any", "any", nil, true},
		{"a*; a; a*", "a; a*", nil, true},
		{"(a; a)* | (a; a; a)*", "a*", []string{"a"}, false},
		{"(a; a)* | (a; a; a)* | a", "a*", []string{"a", "a", "a", "a", "a"}, false},
		{"any*; a; any; any", "any*; a; any", []string{"a", "a"}, false},
		{"(a; b)*; a", "a; (b; a)*", nil, true},
		{"()* | any", "() | any", nil, true},
	} {
		l, same, e := path.Equal(parsed(t, x.a), parsed(t, x.b))
		if !slices.Equal(l, x.want) || same != x.same || e != api.OK {
			t.Errorf("P16.3: Equal of %s and %s is %q, %v and error %d", x.a, x.b, l, same, e)
		}
		checkEqual(t, parsed(t, x.a), parsed(t, x.b), 3)
	}
	r := random(5)
	same := 0
	for range 1500 {
		x := some(r, 8, "a", "z", "other")
		y := some(r, 8, "a", "z", "other")
		if r.IntN(3) == 0 { // less different
			y = pick(r, or(x, y), seq(x, star(y)), or(y, seq(empty(), x)), star(or(x, y)), seq(y, x))
		}
		if checkEqual(t, x, y, 4) {
			same++
		}
	}
	if same < 100 {
		t.Errorf("P16.3: only %d expressions are equal", same)
	}
}

// A list that tells two expressions apart can have nearly as many names as there are sets: one of these matches all lists
// of a whose length is not divided by both numbers.
func TestEqualFar(t *testing.T) {
	short := func(length int) api.Regex { // from 1 to so many names
		return seq(node("a"), repeated(length-1, or(empty(), node("a"))))
	}
	x := or(seq(cycle(9), short(8)), seq(cycle(22), short(21)))
	y := seq(node("a"), star(node("a")))
	if l, same, e := path.Equal(x, y); !slices.Equal(l, slices.Repeat([]string{"a"}, 198)) || same || e != api.OK {
		t.Errorf("P16.3: Equal is %q, %v and error %d", l, same, e)
	}
}

func TestEqualLimit(t *testing.T) {
	large, fitting := seq(node("b"), cycles(2, 9, 11)), cycles(2, 9, 11)
	for i, x := range []struct {
		a, b api.Regex
		want api.Errno
	}{
		{large, node("a"), api.ErrLimit},
		{node("a"), large, api.ErrLimit},
		{large, large, api.ErrLimit},
		{large, fitting, api.ErrLimit},
		{fitting, large, api.ErrLimit},
		{fitting, fitting, api.OK},
	} {
		l, same, e := path.Equal(x.a, x.b)
		if e != x.want || same != (e == api.OK) || len(l) > 0 {
			t.Errorf("P16.3: Equal of the example %d is %q, %v and error %d", i, l, same, e)
		}
	}
}

func TestOther(t *testing.T) {
	var many []string
	for i := range 100000 {
		many = append(many, "other"+strconv.Itoa(100000-i))
	}
	for _, x := range []struct {
		names []string
		want  string
	}{
		{nil, "other"},
		{[]string{"a", "b"}, "other"},
		{[]string{"other1", "Other"}, "other"},
		{[]string{"a", "other"}, "other1"},
		{[]string{"other2", "other", "other"}, "other1"},
		{[]string{"other1", "other"}, "other2"},
		{[]string{"other0", "other01", "other", "other1", "other3"}, "other2"},
		{many, "other"},
		{append(many, "other"), "other100001"},
	} {
		if got := path.Other(x.names); got != x.want {
			t.Errorf("P16.3: Other is %s, want %s", got, x.want)
		}
	}
}
