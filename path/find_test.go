package path_test

import (
	"cmp"
	"math"
	"math/rand/v2"
	"slices"
	"testing"

	"interlace/api"
	"interlace/graph"
	"interlace/path"
	"interlace/syntax"
)

// built returns the machine of an expression.
func built(t *testing.T, x api.Regex) api.Machine {
	t.Helper()
	m, e := path.Build(x)
	if e != api.OK {
		t.Fatalf("Build of %s is error %d", syntax.PrintRegex(x), e)
	}
	return m
}

// someMachine returns a random right machine: not all of its states need to be found, and some could be joined.
func someMachine(r *rand.Rand, states int, names ...string) api.Machine {
	var m api.Machine
	for _, name := range names {
		if r.IntN(2) == 0 {
			m.Names = append(m.Names, name)
		}
	}
	for range states {
		var row []int
		for range len(m.Names) + 1 {
			row = append(row, r.IntN(states))
		}
		m.Next = append(m.Next, row)
		m.Accept = append(m.Accept, r.IntN(4) == 0)
	}
	return m
}

// enter returns the place at a node after a state.
func enter(n api.Network, m api.Machine, state, node int) api.Place {
	i := slices.Index(m.Names, n.Nodes[node].Name)
	if i < 0 {
		i = len(m.Names)
	}
	return api.Place{Node: node, State: m.Next[state][i]}
}

// steps returns the links that are up from a node, in order.
func steps(n api.Network, f api.Failure, node int) []int {
	var l []int
	for i, x := range n.Links {
		if x.From == node && isUp(n, f, i) {
			l = append(l, i)
		}
	}
	return l
}

// far stands for no path.
const far = math.MaxInt

// lengths returns the lengths of the shortest paths from all places to a state that accepts at a node.
func lengths(n api.Network, f api.Failure, m api.Machine, to int) map[api.Place]int {
	l := map[api.Place]int{}
	for node := range n.Nodes {
		for state, accept := range m.Accept {
			p := api.Place{Node: node, State: state}
			if l[p] = far; node == to && accept {
				l[p] = 0
			}
		}
	}
	for changed := true; changed; {
		changed = false
		for p := range l {
			for _, link := range steps(n, f, p.Node) {
				if q := enter(n, m, p.State, n.Links[link].To); l[q] < l[p]-1 {
					l[p] = l[q] + 1
					changed = true
				}
			}
		}
	}
	return l
}

// find is the second way to Find: the first link that leads nearer, each time.
func find(n api.Network, f api.Failure, m api.Machine, from, to int) ([]int, api.Errno) {
	l := lengths(n, f, m, to)
	p := enter(n, m, 0, from)
	if from == f.Node || l[p] == far {
		return nil, api.ErrPath
	}
	var way []int
	for l[p] > 0 {
		for _, link := range steps(n, f, p.Node) {
			if q := enter(n, m, p.State, n.Links[link].To); l[q] == l[p]-1 {
				way = append(way, link)
				p = q
				break
			}
		}
	}
	return way, api.OK
}

// closure returns the places that some places lead to, and themselves, in increasing order.
func closure(n api.Network, f api.Failure, m api.Machine, l ...api.Place) []api.Place {
	for at := 0; at < len(l); at++ {
		for _, link := range steps(n, f, l[at].Node) {
			if q := enter(n, m, l[at].State, n.Links[link].To); !slices.Contains(l, q) {
				l = append(l, q)
			}
		}
	}
	slices.SortFunc(l, comparePlaces)
	return slices.Compact(l)
}

func comparePlaces(p, q api.Place) int {
	return cmp.Or(cmp.Compare(p.Node, q.Node), cmp.Compare(p.State, q.State))
}

// refutes is the second way to Refutes.
func refutes(n api.Network, f api.Failure, m api.Machine, from, to int, l []api.Place) bool {
	for i, p := range l {
		if p.Node < 0 || p.Node >= len(n.Nodes) || p.State < 0 || p.State >= len(m.Next) {
			return false
		}
		if i > 0 && (p.Node < l[i-1].Node || p.Node == l[i-1].Node && p.State <= l[i-1].State) {
			return false
		}
		if p.Node == to && m.Accept[p.State] {
			return false
		}
		for _, link := range steps(n, f, p.Node) {
			if !slices.Contains(l, enter(n, m, p.State, n.Links[link].To)) {
				return false
			}
		}
	}
	return from == f.Node || slices.Contains(l, enter(n, m, 0, from))
}

func TestFind(t *testing.T) {
	const x = "a; any*; c; any*"
	for _, y := range []struct {
		source   string
		f        api.Failure
		from, to int
		want     []int
		e        api.Errno
	}{
		{x, whole(), 0, 3, []int{2, 3}, api.OK},
		{x, down(2), 0, 3, []int{0, 4, 3}, api.OK},
		{x, whole(), 1, 3, nil, api.ErrPath},
		{x, api.Failure{Node: 2}, 0, 3, nil, api.ErrPath},
		{x, down(2, 4), 0, 3, nil, api.ErrPath},
		{"any*", whole(), 0, 3, []int{0, 1}, api.OK},
		{"any*", down(0), 0, 3, []int{2, 3}, api.OK},
		{"any*", whole(), 2, 2, nil, api.OK},
		{"any*", api.Failure{Node: 2}, 2, 2, nil, api.ErrPath},
		{"any*", api.Failure{Node: 2}, 2, 3, nil, api.ErrPath},
		{"any*", api.Failure{Node: 2}, 0, 2, nil, api.ErrPath},
		{"()", whole(), 2, 2, nil, api.ErrPath},
		{"c", whole(), 2, 2, nil, api.OK},
		{"c", whole(), 0, 2, nil, api.ErrPath},
		{"any", whole(), 2, 3, nil, api.ErrPath},
		{"any; any", whole(), 2, 2, nil, api.ErrPath},
		{"any; any; any*", whole(), 2, 2, []int{3, 5, 2}, api.OK},
		{"any; any; any; any; any; any*", whole(), 2, 2, []int{3, 5, 0, 4}, api.OK},
		{"any*; b; any*; d; any*; b; any*", whole(), 2, 2, []int{3, 5, 0, 1, 5, 0, 4}, api.OK},
		{"(a; b; d)*; a", whole(), 0, 0, nil, api.OK},
		{"(a; b; d)*; (a; b; d)*; a; c", whole(), 0, 2, []int{2}, api.OK},
		{"a; b; d; a; b; d; a; c", whole(), 0, 2, []int{0, 1, 5, 0, 1, 5, 2}, api.OK},
		{"zz; any* | any*; zz", whole(), 0, 3, nil, api.ErrPath},
	} {
		got, e := path.Find(given(), y.f, built(t, parsed(t, y.source)), y.from, y.to)
		if !slices.Equal(got, y.want) || e != y.e {
			t.Errorf("P16.4: Find for %s from %d to %d is %v and error %d", y.source, y.from, y.to, got, e)
		}
		if h := path.Holds(given(), y.f, parsed(t, y.source), y.from, y.to, y.want); h != (e == api.OK) {
			t.Errorf("P16.5: Holds for %s from %d to %d and %v is %v", y.source, y.from, y.to, y.want, h)
		}
	}
	// Links count by their numbers, not by where they lead.
	n := network([]string{"a", "b", "c"}, [2]int{1, 2}, [2]int{0, 1}, [2]int{0, 2}, [2]int{2, 1}, [2]int{0, 1}, [2]int{1, 2})
	for _, y := range []struct {
		source string
		f      api.Failure
		to     int
		want   []int
	}{
		{"any; any; any", whole(), 2, []int{1, 0}},
		{"any; any; any", down(1), 2, []int{4, 0}},
		{"any; any; any", down(0, 1), 2, []int{4, 5}},
		{"any; any; any", whole(), 1, []int{2, 3}},
		{"any; any", whole(), 1, []int{1}},
		{"any; any", down(1), 1, []int{4}},
		{"any; (b; c | c; b)*; (b | c)", whole(), 2, []int{2}},
		{"any; (b; c | c; b); (b | c)", whole(), 2, []int{2, 3, 0}},
	} {
		if got, e := path.Find(n, y.f, built(t, parsed(t, y.source)), 0, y.to); !slices.Equal(got, y.want) || e != api.OK {
			t.Errorf("P16.4: Find for %s and %v to %d is %v and error %d, want %v", y.source, y.f, y.to, got, e, y.want)
		}
	}
}

// TestFindAll compares Find with all paths up to a length, in order.
func TestFindAll(t *testing.T) {
	const longest = 7
	r := random(10)
	found, missing := map[int]int{}, 0
	for range 10000 {
		n := small(r)
		f := someFailure(r, n)
		x := some(r, 12, "a", "b", "c", "d", "zz")
		if r.IntN(4) > 0 {
			x = seq(star(anyone()), seq(x, pick(r, x, anyone(), star(anyone()))))
		}
		from, to := r.IntN(len(n.Nodes)), r.IntN(len(n.Nodes))
		var want []int
		known := false
		for length := 0; length <= longest && !known; length++ {
			walks(n, f, from, length, func(way []int, names []string, end int) bool {
				if known = end == to && matches(x, names); known {
					want = slices.Clone(way)
				}
				return !known
			})
		}
		got, e := path.Find(n, f, built(t, x), from, to)
		switch {
		case known && (e != api.OK || !slices.Equal(got, want)):
			t.Fatalf("P16.4: Find for %s and %v from %d to %d in %v is %v and error %d, want %v", syntax.PrintRegex(x), f, from, to, n, got, e, want)
		case !known && e == api.OK && (len(got) <= longest || !path.Holds(n, f, x, from, to, got)):
			t.Fatalf("P16.4: Find for %s and %v from %d to %d in %v is %v", syntax.PrintRegex(x), f, from, to, n, got)
		case e != api.OK && (e != api.ErrPath || len(got) > 0):
			t.Fatalf("P16.4: Find is error %d with %v", e, got)
		}
		if known {
			found[len(want)]++
		} else {
			missing++
		}
	}
	if found[0] < 50 || found[1] < 50 || found[2] < 50 || found[3] < 20 || found[4] < 10 || missing < 100 {
		t.Errorf("P16.4: paths of the lengths %v, and %d times none", found, missing)
	}
}

// TestFindFar compares Find with distances to the end, for paths of any length, of machines of any kind.
func TestFindFar(t *testing.T) {
	r := random(11)
	long, missing := 0, 0
	for range 1500 {
		nodes := 2 + r.IntN(7)
		n := someNetwork(r, nodes, nodes+r.IntN(2*nodes))
		f := someFailure(r, n)
		m := someMachine(r, 1+r.IntN(12), "a", "b", "c", "d", "e", "f", "zz")
		from, to := r.IntN(nodes), r.IntN(nodes)
		want, wrong := find(n, f, m, from, to)
		got, e := path.Find(n, f, m, from, to)
		if !slices.Equal(got, want) || e != wrong {
			t.Fatalf("P16.4: Find for %v and %v from %d to %d in %v is %v and error %d, want %v and %d", m, f, from, to, n, got, e, want, wrong)
		}
		l := path.Reached(n, f, m, from)
		if path.Refutes(n, f, m, from, to, l) != (e == api.ErrPath) {
			t.Fatalf("P16.8: Find for %v and %v from %d to %d in %v is error %d, but Reached is %v", m, f, from, to, n, e, l)
		}
		if len(want) > nodes {
			long++
		}
		if wrong != api.OK {
			missing++
		}
	}
	if long < 20 || missing < 100 {
		t.Errorf("P16.4: %d paths are long, and %d are missing", long, missing)
	}
}

func TestHolds(t *testing.T) {
	const x = "a; any*; c; any*"
	for _, y := range []struct {
		source   string
		f        api.Failure
		from, to int
		links    []int
		want     bool
	}{
		{x, whole(), 0, 3, []int{2, 3}, true},
		{x, whole(), 0, 3, []int{0, 4, 3}, true},
		{x, whole(), 0, 3, []int{0, 1}, false},
		{x, whole(), 0, 2, []int{2, 3}, false},
		{x, whole(), 1, 3, []int{2, 3}, false},
		{x, whole(), 1, 3, []int{4, 3}, false},
		{x, whole(), 0, 3, []int{3, 2}, false},
		{x, whole(), 0, 3, []int{2, 3, 5, 0, 1}, true},
		{x, down(0), 0, 3, []int{2, 3}, true},
		{x, down(3), 0, 3, []int{2, 3}, false},
		{x, down(2), 0, 3, []int{2, 3}, false},
		{x, down(0, 1, 2), 0, 3, []int{2, 3}, false},
		{x, api.Failure{Node: 1}, 0, 3, []int{2, 3}, true},
		{x, api.Failure{Node: 0}, 0, 3, []int{2, 3}, false},
		{x, api.Failure{Node: 2}, 0, 3, []int{2, 3}, false},
		{x, api.Failure{Node: 3}, 0, 3, []int{2, 3}, false},
		{x, whole(), 0, 3, []int{2, 3, 6}, false},
		{x, whole(), 0, 3, []int{2, -1, 3}, false},
		{x, whole(), 0, 3, []int{math.MaxInt, math.MinInt}, false},
		{x, whole(), 0, 3, nil, false},
		{"a", whole(), 0, 0, nil, true},
		{"a", whole(), 0, 1, nil, false},
		{"b", whole(), 0, 0, nil, false},
		{"()", whole(), 0, 0, nil, false},
		{"a", api.Failure{Node: 0}, 0, 0, nil, false},
		{"a", api.Failure{Node: 1}, 0, 0, []int{}, true},
		{"any*", down(0, 1, 2, 3, 4, 5), 0, 0, nil, true},
	} {
		if got := path.Holds(given(), y.f, parsed(t, y.source), y.from, y.to, y.links); got != y.want {
			t.Errorf("P16.5: Holds for %s and %v from %d to %d and %v is %v", y.source, y.f, y.from, y.to, y.links, got)
		}
	}
	// Expressions for which there is no machine have paths, too.
	if n := network([]string{"a", "b"}, [2]int{0, 1}, [2]int{1, 0}); !path.Holds(n, whole(), late(7), 0, 1, []int{0, 1, 0, 1, 0, 1, 0}) || path.Holds(n, whole(), late(7), 1, 0, []int{1, 0, 1, 0, 1, 0, 1}) {
		t.Error("P16.5: Holds for an expression with many sets")
	}
	r := random(12)
	held := 0
	for range 4000 {
		n := small(r)
		f := someFailure(r, n)
		x := some(r, 10, "a", "b", "c", "d")
		from, to := r.IntN(len(n.Nodes)), r.IntN(len(n.Nodes))
		var links []int
		want, at, names := from != f.Node, from, []string{n.Nodes[from].Name}
		for range r.IntN(4) {
			link := r.IntN(len(n.Links)+2) - 1
			if l := steps(n, whole(), at); len(l) > 0 && r.IntN(10) > 0 {
				link = pick(r, l...)
			}
			links = append(links, link)
			want = want && link >= 0 && link < len(n.Links) && isUp(n, f, link) && n.Links[link].From == at
			if want {
				at = n.Links[link].To
				names = append(names, n.Nodes[at].Name)
			}
		}
		if r.IntN(2) == 0 {
			to = at
		}
		want = want && at == to && matches(x, names)
		if got := path.Holds(n, f, x, from, to, links); got != want {
			t.Fatalf("P16.5: Holds for %s and %v from %d to %d in %v and %v is %v", syntax.PrintRegex(x), f, from, to, n, links, got)
		}
		if want {
			held++
		}
	}
	if held < 300 {
		t.Errorf("P16.5: only %d paths hold", held)
	}
}

func TestReached(t *testing.T) {
	x := built(t, parsed(t, "a; any*; c; any*"))
	for _, y := range []struct {
		m    api.Machine
		f    api.Failure
		from int
		want []api.Place
	}{
		{x, whole(), 1, []api.Place{{Node: 0, State: 2}, {Node: 1, State: 2}, {Node: 2, State: 2}, {Node: 3, State: 2}}},
		{x, whole(), 0, []api.Place{{Node: 0, State: 1}, {Node: 0, State: 3}, {Node: 1, State: 1}, {Node: 1, State: 3}, {Node: 2, State: 3}, {Node: 3, State: 1}, {Node: 3, State: 3}}},
		{x, down(2, 4), 0, []api.Place{{Node: 0, State: 1}, {Node: 1, State: 1}, {Node: 3, State: 1}}},
		{x, down(0, 2), 0, []api.Place{{Node: 0, State: 1}}},
		{x, api.Failure{Node: 0}, 0, nil},
		{x, api.Failure{Node: 0}, 3, []api.Place{{Node: 3, State: 2}}},
		{x, api.Failure{Node: 3}, 0, []api.Place{{Node: 0, State: 1}, {Node: 1, State: 1}, {Node: 2, State: 3}}},
	} {
		if got := path.Reached(given(), y.f, y.m, y.from); !slices.Equal(got, y.want) {
			t.Errorf("P16.6: Reached with %v from %d is %v", y.f, y.from, got)
		}
	}
	r := random(13)
	for range 1000 {
		nodes := 2 + r.IntN(5)
		n := someNetwork(r, nodes, nodes+r.IntN(2*nodes))
		f := someFailure(r, n)
		m := someMachine(r, 1+r.IntN(12), "a", "b", "c", "d")
		from := r.IntN(nodes)
		var want []api.Place
		if from != f.Node {
			want = closure(n, f, m, enter(n, m, 0, from))
		}
		l := path.Reached(n, f, m, from)
		if !slices.Equal(l, want) {
			t.Fatalf("P16.6: Reached for %v and %v from %d in %v is %v, want %v", m, f, from, n, l, want)
		}
		for length := range 4 {
			walks(n, f, from, length, func(_ []int, names []string, end int) bool {
				if p := (api.Place{Node: end, State: path.Run(m, names)}); !slices.Contains(l, p) {
					t.Fatalf("P16.6: Reached for %v and %v from %d in %v has not %v", m, f, from, n, p)
				}
				return true
			})
		}
	}
}

func TestRefutes(t *testing.T) {
	x := built(t, parsed(t, "a; any*; c; any*"))
	all := []api.Place{{Node: 0, State: 2}, {Node: 1, State: 2}, {Node: 2, State: 2}, {Node: 3, State: 2}}
	from0 := []api.Place{{Node: 0, State: 1}, {Node: 1, State: 1}, {Node: 3, State: 1}}
	for i, y := range []struct {
		f        api.Failure
		from, to int
		l        []api.Place
		want     bool
	}{
		{whole(), 1, 3, all, true},
		{whole(), 3, 3, all, true},
		{whole(), 0, 3, all, false},
		{whole(), 1, 3, all[:3], false},
		{whole(), 1, 3, all[1:], false},
		{whole(), 1, 3, nil, false},
		{api.Failure{Node: 1}, 1, 3, nil, true},
		{api.Failure{Node: 1}, 1, 3, all, true},
		{api.Failure{Node: 1}, 1, 3, all[1:2], true},
		{api.Failure{Node: 1}, 1, 3, all[3:], false}, // the link 5 is up
		{api.Failure{Node: 3}, 1, 3, all[1:3], true},
		{api.Failure{Node: 3}, 1, 3, []api.Place{{Node: 1, State: 2}, {Node: 2, State: 2}, {Node: 3, State: 3}}, false},
		{api.Failure{Node: 3}, 1, 2, []api.Place{{Node: 1, State: 2}, {Node: 2, State: 2}, {Node: 3, State: 3}}, true},
		{api.Failure{Node: 3}, 3, 3, []api.Place{{Node: 3, State: 3}}, false},
		{api.Failure{Node: 3}, 3, 2, []api.Place{{Node: 3, State: 3}}, true},
		{down(2, 4), 0, 3, from0, true},
		{down(2, 4), 0, 3, append(slices.Clone(from0), api.Place{Node: 3, State: 1}), false},
		{down(2, 4), 0, 3, append(slices.Clone(from0), api.Place{Node: 3, State: 0}), false},
		{down(2, 4), 0, 3, []api.Place{from0[1], from0[0], from0[2]}, false},
		{down(2, 4), 0, 3, []api.Place{from0[0], from0[1], from0[1], from0[2]}, false},
		{down(2, 4), 0, 3, append(slices.Clone(from0), api.Place{Node: 3, State: 4}), false},
		{down(2, 4), 0, 3, append(slices.Clone(from0), api.Place{Node: 4}), false},
		{down(2, 4), 0, 3, slices.Insert(slices.Clone(from0), 0, api.Place{Node: -1}), false},
		{down(2, 4), 0, 3, slices.Insert(slices.Clone(from0), 0, api.Place{Node: 0, State: -1}), false},
		{down(2, 4), 0, 3, append(slices.Clone(from0), api.Place{Node: math.MaxInt, State: math.MaxInt}), false},
		{down(2, 4), 0, 3, slices.Insert(slices.Clone(from0), 0, api.Place{Node: math.MinInt, State: math.MinInt}), false},
		{down(4), 0, 3, from0, false},
		{down(2), 0, 3, from0, false},
	} {
		if got := path.Refutes(given(), y.f, x, y.from, y.to, y.l); got != y.want {
			t.Errorf("P16.6: Refutes of the example %d is %v", i, got)
		}
		if refutes(given(), y.f, x, y.from, y.to, y.l) != y.want {
			t.Errorf("the second way to the example %d is not %v", i, y.want)
		}
	}
}

// TestRefutesSome compares both ways to Refutes for lists that are nearly right.
func TestRefutesSome(t *testing.T) {
	r := random(14)
	accepted, refused := 0, 0
	for range 6000 {
		nodes := 2 + r.IntN(4)
		n := someNetwork(r, nodes, r.IntN(2*nodes))
		f := someFailure(r, n)
		m := someMachine(r, 1+r.IntN(5), "a", "b", "c")
		from, to := r.IntN(nodes), r.IntN(nodes)
		place := func() api.Place { return api.Place{Node: r.IntN(nodes), State: r.IntN(len(m.Next))} }
		l := path.Reached(n, f, m, from)
		for range r.IntN(3) {
			l = append(l, place())
		}
		l = closure(n, f, m, l...)
		if len(l) > 0 {
			i := r.IntN(len(l))
			switch r.IntN(8) {
			case 0:
				l = slices.Delete(l, i, i+1)
			case 1:
				l = slices.Insert(l, i, l[i])
			case 2:
				l[0], l[i] = l[i], l[0]
			case 3:
				l[i] = place()
			case 4:
				l[i].Node = pick(r, -1, nodes, len(m.Next))
			case 5:
				l[i].State = pick(r, -1, nodes, len(m.Next))
			}
		}
		want := refutes(n, f, m, from, to, l)
		if got := path.Refutes(n, f, m, from, to, l); got != want {
			t.Fatalf("P16.6: Refutes for %v and %v from %d to %d in %v of %v is %v", m, f, from, to, n, l, got)
		}
		if want {
			accepted++
		} else {
			refused++
		}
		if _, e := path.Find(n, f, m, from, to); want && e != api.ErrPath {
			t.Fatalf("P16.8: Refutes for %v and %v from %d to %d in %v accepts %v, but Find is error %d", m, f, from, to, n, l, e)
		}
	}
	if accepted < 500 || refused < 500 {
		t.Errorf("P16.6: %d lists are accepted, and %d refused", accepted, refused)
	}
}

// The greatest networks, with as many states as a machine can have: it counts how often paths come to a node.
func TestLarge(t *testing.T) {
	const counted, from, to = 7, 5, 199
	n := someNetwork(random(15), 200, 2000)
	for i := range n.Nodes { // so that each node can be reached
		n.Links[i] = api.Link{From: i, To: (i + 1) % 200}
	}
	if e := graph.Check(n); e != api.OK {
		t.Fatalf("the network has the error %d", e)
	}
	m := circle(200)
	m.Names[0] = n.Nodes[counted].Name
	for _, f := range []api.Failure{whole(), down(300, 500, 999), {Links: []int{301}, Node: 100}, {Node: counted}} {
		way, e := path.Find(n, f, m, from, to)
		l := path.Reached(n, f, m, from)
		if refuted := path.Refutes(n, f, m, from, to, l); refuted != (f.Node == counted) || refuted != (e == api.ErrPath) {
			t.Errorf("P16.8: Find is error %d, and Refutes %v", e, refuted)
		}
		if e != api.OK {
			continue
		}
		if end, ok := graph.Walk(n, from, way); !ok || end != to || slices.ContainsFunc(way, func(i int) bool { return !isUp(n, f, i) }) {
			t.Fatalf("P16.4: Find is %v", way)
		}
		times := 0
		for _, link := range way {
			if n.Links[link].To == counted {
				times++
			}
		}
		if times != 199 {
			t.Errorf("P16.4: Find comes to a node %d times instead of 199", times)
		}
		nodes := 200
		if f.Node >= 0 {
			nodes--
		}
		if len(l) != nodes*200 {
			t.Errorf("P16.6: Reached are %d places of %d nodes", len(l), nodes)
		}
	}
}
