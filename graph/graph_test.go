package graph_test

import (
	"cmp"
	"math"
	"math/rand/v2"
	"reflect"
	"slices"
	"strconv"
	"strings"
	"testing"

	"interlace/api"
	"interlace/graph"
)

func source(seed uint64) *rand.Rand { return rand.New(rand.NewPCG(seed, 9)) }

// given is the network of the chapter's examples.
func given() api.Network {
	return api.Network{
		Nodes: []api.Node{{Name: "a"}, {Name: "b"}, {Name: "c"}, {Name: "d"}},
		Links: []api.Link{{From: 0, To: 1}, {From: 1, To: 3}, {From: 0, To: 2}, {From: 2, To: 3}, {From: 1, To: 2}, {From: 3, To: 0}},
		Edges: []api.Edge{{Name: "e", Node: 0}, {Name: "f", Node: 3}},
	}
}

func whole() api.Failure { return api.Failure{Node: -1} }

func down(links ...int) api.Failure { return api.Failure{Links: links, Node: -1} }

// sized returns a right network with so many nodes, links and edges, whose names and links are all alike.
func sized(nodes, links, edges int) api.Network {
	var n api.Network
	for i := range nodes {
		n.Nodes = append(n.Nodes, api.Node{Name: "n" + strconv.Itoa(i)})
	}
	for i := range links {
		n.Links = append(n.Links, api.Link{From: i % 2, To: 1 - i%2})
	}
	for i := range edges {
		n.Edges = append(n.Edges, api.Edge{Name: "n" + strconv.Itoa(i)})
	}
	return n
}

// someNetwork returns a right network with random links, several of which can lead from one node to the same other one.
func someNetwork(r *rand.Rand, nodes, links int) api.Network {
	n := sized(nodes, 0, r.IntN(4))
	for i := range n.Nodes {
		n.Nodes[i].Box, n.Nodes[i].Rules, n.Nodes[i].Entries = r.IntN(2) == 0, r.IntN(4001), r.IntN(100001)
	}
	for range links {
		from := r.IntN(nodes)
		n.Links = append(n.Links, api.Link{From: from, To: (from + 1 + r.IntN(nodes-1)) % nodes, Capacity: r.IntN(1<<20 + 1)})
	}
	for i := range n.Edges {
		n.Edges[i].Node = r.IntN(nodes)
	}
	return n
}

// small returns a right network in which all paths can be visited.
func small(r *rand.Rand) api.Network {
	nodes := 2 + r.IntN(6)
	return someNetwork(r, nodes, r.IntN(2*nodes+1))
}

// someFailure returns a right failure.
func someFailure(r *rand.Rand, n api.Network) api.Failure {
	f := whole()
	for i := range n.Links {
		if r.IntN(6) == 0 {
			f.Links = append(f.Links, i)
		}
	}
	if r.IntN(2) == 0 {
		f.Node = r.IntN(len(n.Nodes))
	}
	return f
}

// isUp is the second way to Up.
func isUp(n api.Network, f api.Failure, link int) bool {
	for _, x := range f.Links {
		if x == link {
			return false
		}
	}
	return f.Node != n.Links[link].From && f.Node != n.Links[link].To
}

// every returns all paths that are up and visit no node twice, by length, then number by number.
func every(n api.Network, f api.Failure, from, to int) [][]int {
	var found [][]int
	seen := make([]bool, len(n.Nodes))
	var visit func(node int, path []int)
	visit = func(node int, path []int) {
		if node == to {
			found = append(found, slices.Clone(path))
			return
		}
		seen[node] = true
		for i, l := range n.Links {
			if l.From == node && !seen[l.To] && isUp(n, f, i) {
				visit(l.To, append(path, i))
			}
		}
		seen[node] = false
	}
	if f.Node != from && f.Node != to {
		visit(from, nil)
	}
	slices.SortFunc(found, func(a, b []int) int { return cmp.Or(cmp.Compare(len(a), len(b)), slices.Compare(a, b)) })
	return found
}

// copyOf returns a network that shares no memory with another one.
func copyOf(n api.Network) api.Network {
	return api.Network{Nodes: slices.Clone(n.Nodes), Links: slices.Clone(n.Links), Edges: slices.Clone(n.Edges)}
}

func TestCheck(t *testing.T) {
	for _, x := range []struct {
		what   string
		change func(n *api.Network)
		want   api.Errno
	}{
		{"the example", func(n *api.Network) {}, api.OK},
		{"nothing", func(n *api.Network) { *n = api.Network{} }, api.OK},
		{"the greatest", func(n *api.Network) { *n = sized(200, 2000, 400) }, api.OK},
		{"201 nodes", func(n *api.Network) { *n = sized(201, 0, 0) }, api.ErrLimit},
		{"2001 links", func(n *api.Network) { *n = sized(2, 2001, 0) }, api.ErrLimit},
		{"401 edges", func(n *api.Network) { *n = sized(2, 0, 401) }, api.ErrLimit},
		{"201 wrong nodes", func(n *api.Network) { n.Nodes = make([]api.Node, 201) }, api.ErrLimit},
		{"2001 wrong links, a wrong name", func(n *api.Network) { n.Links, n.Nodes[0].Name = make([]api.Link, 2001), "" }, api.ErrLimit},
		{"401 wrong edges", func(n *api.Network) { n.Edges = make([]api.Edge, 401) }, api.ErrLimit},
		{"a node without a name", func(n *api.Network) { n.Nodes[1].Name = "" }, api.ErrName},
		{"a node with no name", func(n *api.Network) { n.Nodes[3].Name = "A" }, api.ErrName},
		{"a long name", func(n *api.Network) { n.Nodes[3].Name = strings.Repeat("a", 25) }, api.ErrName},
		{"a longest name", func(n *api.Network) { n.Nodes[3].Name = strings.Repeat("a", 24) }, api.OK},
		{"a node with an earlier name", func(n *api.Network) { n.Nodes[3].Name = "a" }, api.ErrName},
		{"an edge without a name", func(n *api.Network) { n.Edges[0].Name = "" }, api.ErrName},
		{"an edge with no name", func(n *api.Network) { n.Edges[1].Name = "f-1" }, api.ErrName},
		{"an edge with an earlier name", func(n *api.Network) { n.Edges[1].Name = "e" }, api.ErrName},
		{"an edge with the name of a node", func(n *api.Network) { n.Edges[1].Name = "a" }, api.OK},
		{"a node named port", func(n *api.Network) { n.Nodes[1].Name = "port" }, api.OK},
		{"a name of an edge, and a wrong link", func(n *api.Network) { n.Edges[1].Name, n.Links[0].To = "e", 0 }, api.ErrName},
		{"a name of an edge, and wrong rules", func(n *api.Network) { n.Edges[1].Name, n.Nodes[0].Rules = "", -1 }, api.ErrName},
		{"rules -1", func(n *api.Network) { n.Nodes[1].Rules = -1 }, api.ErrArg},
		{"rules 4000", func(n *api.Network) { n.Nodes[1].Rules = 4000 }, api.OK},
		{"rules 4001", func(n *api.Network) { n.Nodes[1].Rules = 4001 }, api.ErrArg},
		{"entries -1", func(n *api.Network) { n.Nodes[3].Entries = -1 }, api.ErrArg},
		{"entries 100000", func(n *api.Network) { n.Nodes[3].Entries = 100000 }, api.OK},
		{"entries 100001", func(n *api.Network) { n.Nodes[3].Entries = 100001 }, api.ErrArg},
		{"from 4", func(n *api.Network) { n.Links[5].From = 4 }, api.ErrArg},
		{"from -1", func(n *api.Network) { n.Links[5].From = -1 }, api.ErrArg},
		{"to 4", func(n *api.Network) { n.Links[0].To = 4 }, api.ErrArg},
		{"to -1", func(n *api.Network) { n.Links[0].To = -1 }, api.ErrArg},
		{"to the same", func(n *api.Network) { n.Links[2].To = n.Links[2].From }, api.ErrArg},
		{"the same link twice", func(n *api.Network) { n.Links[2] = n.Links[1] }, api.OK},
		{"capacity -1", func(n *api.Network) { n.Links[5].Capacity = -1 }, api.ErrArg},
		{"capacity 2^20", func(n *api.Network) { n.Links[5].Capacity = 1 << 20 }, api.OK},
		{"capacity 2^20 + 1", func(n *api.Network) { n.Links[5].Capacity = 1<<20 + 1 }, api.ErrArg},
		{"an edge at 4", func(n *api.Network) { n.Edges[1].Node = 4 }, api.ErrArg},
		{"an edge at -1", func(n *api.Network) { n.Edges[0].Node = -1 }, api.ErrArg},
		{"two edges at a node", func(n *api.Network) { n.Edges[0].Node = 3 }, api.OK},
		{"an edge without nodes", func(n *api.Network) { n.Nodes, n.Links = nil, nil }, api.ErrArg},
		{"greatest numbers", func(n *api.Network) { n.Links[0] = api.Link{From: math.MaxInt, To: math.MinInt, Capacity: math.MaxInt} }, api.ErrArg},
		{"least numbers", func(n *api.Network) { n.Nodes[0].Rules, n.Nodes[0].Entries = math.MinInt, math.MinInt }, api.ErrArg},
	} {
		n := given()
		x.change(&n)
		before := copyOf(n)
		if e := graph.Check(n); e != x.want {
			t.Errorf("P9.1: Check of %s is error %d instead of %d", x.what, e, x.want)
		}
		if !graph.Same(n, before) {
			t.Errorf("P9.1: Check of %s changes it", x.what)
		}
	}
	r := source(1)
	for range 300 {
		if n := small(r); graph.Check(n) != api.OK {
			t.Fatalf("P9.1: Check of %v is error %d", n, graph.Check(n))
		}
	}
}

func TestCheckFailure(t *testing.T) {
	for _, x := range []struct {
		f    api.Failure
		want api.Errno
	}{
		{whole(), api.OK},
		{api.Failure{Links: []int{}, Node: 0}, api.OK},
		{api.Failure{Node: 3}, api.OK},
		{api.Failure{Node: 4}, api.ErrArg},
		{api.Failure{Node: -2}, api.ErrArg},
		{api.Failure{Node: math.MaxInt}, api.ErrArg},
		{api.Failure{Node: math.MinInt}, api.ErrArg},
		{down(0), api.OK},
		{down(5), api.OK},
		{down(0, 1, 2, 3, 4, 5), api.OK},
		{down(0, 5), api.OK},
		{down(6), api.ErrArg},
		{down(-1), api.ErrArg},
		{down(0, 6), api.ErrArg},
		{down(-1, 0), api.ErrArg},
		{down(1, 1), api.ErrArg},
		{down(2, 1), api.ErrArg},
		{down(0, 2, 1), api.ErrArg},
		{down(0, 1, 1), api.ErrArg},
		{down(math.MaxInt), api.ErrArg},
		{down(math.MinInt), api.ErrArg},
		{api.Failure{Links: []int{1, 0}, Node: 1}, api.ErrArg},
		{api.Failure{Links: []int{0, 1}, Node: 1}, api.OK},
	} {
		if e := graph.CheckFailure(given(), x.f); e != x.want {
			t.Errorf("P9.1: CheckFailure of %v is error %d instead of %d", x.f, e, x.want)
		}
	}
	if graph.CheckFailure(api.Network{}, whole()) != api.OK || graph.CheckFailure(api.Network{}, api.Failure{}) != api.ErrArg {
		t.Error("P9.1: CheckFailure of a network without nodes")
	}
}

// placeOf is the second way to Where: by all ports that there are.
func placeOf(n api.Network) map[int]int {
	at := map[int]int{}
	for i, l := range n.Links {
		at[i] = l.To
	}
	for i, e := range n.Edges {
		at[10000+i] = e.Node
	}
	for i := range n.Nodes {
		at[20000+i] = i
	}
	return at
}

func TestWhere(t *testing.T) {
	r := source(2)
	for _, n := range []api.Network{{}, given(), small(r), someNetwork(r, 200, 2000), sized(200, 2000, 400)} {
		at := placeOf(n)
		for port := -10; port < 70000; port++ {
			want, known := at[port]
			if !known {
				want = -1
			}
			if got := graph.Where(n, port); got != want {
				t.Fatalf("P9.2: Where of %d is %d instead of %d", port, got, want)
			}
		}
		for _, port := range []int{math.MaxInt, math.MinInt, math.MinInt + 10000, math.MinInt + 20000, -10000, -20000, 1 << 32} {
			if got := graph.Where(n, port); got != -1 {
				t.Errorf("P9.2: Where of %d is %d", port, got)
			}
		}
	}
}

func TestLinks(t *testing.T) {
	r := source(3)
	for range 300 {
		n := small(r)
		f := someFailure(r, n)
		before, links := copyOf(n), slices.Clone(f.Links)
		out, in := make([][]int, len(n.Nodes)), make([][]int, len(n.Nodes))
		for i, l := range n.Links {
			out[l.From] = append(out[l.From], i)
			in[l.To] = append(in[l.To], i)
			if graph.Up(n, f, i) != isUp(n, f, i) {
				t.Fatalf("P9.2: Up of %d of %v is wrong for %v", i, n.Links, f)
			}
		}
		for node := range n.Nodes {
			if got := graph.Out(n, node); !slices.Equal(got, out[node]) {
				t.Fatalf("P9.2: Out of %d of %v is %v", node, n.Links, got)
			}
			if got := graph.In(n, node); !slices.Equal(got, in[node]) {
				t.Fatalf("P9.2: In of %d of %v is %v", node, n.Links, got)
			}
		}
		if !graph.Same(n, before) || !slices.Equal(f.Links, links) {
			t.Fatal("P9.2: arguments change")
		}
	}
	for i := range 6 {
		if !graph.Up(given(), whole(), i) {
			t.Errorf("P9.2: the link %d is not up", i)
		}
	}
}

func TestWalk(t *testing.T) {
	n := given()
	for _, x := range []struct {
		from int
		path []int
		want int
	}{
		{0, nil, 0},
		{3, []int{}, 3},
		{0, []int{0}, 1},
		{0, []int{0, 4, 3, 5, 2}, 2},
		{0, []int{0, 1, 5, 0, 1}, 3},
		{1, []int{0}, -1},
		{0, []int{0, 3}, -1},
		{0, []int{0, 0}, -1},
		{0, []int{6}, -1},
		{0, []int{-1}, -1},
		{0, []int{0, 6}, -1},
		{0, []int{0, -1, 1}, -1},
		{0, []int{math.MaxInt}, -1},
		{0, []int{math.MinInt}, -1},
	} {
		path := slices.Clone(x.path)
		if node, ok := graph.Walk(n, x.from, x.path); node != x.want || ok != (x.want != -1) {
			t.Errorf("P9.2: Walk from %d over %v leads to %d, %v", x.from, x.path, node, ok)
		}
		if !slices.Equal(path, x.path) {
			t.Errorf("P9.2: Walk changes %v", path)
		}
	}
	r := source(4)
	for range 2000 {
		n := someNetwork(r, 3, 6)
		from, at := r.IntN(3), 0
		path := make([]int, r.IntN(4))
		at = from
		for i := range path {
			path[i] = r.IntN(6)
			if at == n.Links[path[i]].From {
				at = n.Links[path[i]].To
			} else {
				at = -2
			}
		}
		if node, ok := graph.Walk(n, from, path); ok != (at >= 0) || ok && node != at || !ok && node != -1 {
			t.Fatalf("P9.2: Walk from %d over %v of %v leads to %d, %v", from, path, n.Links, node, ok)
		}
	}
}

// allFailures is the second way to Failures: all sets of links, as far as they have the size, sorted afterwards.
func allFailures(n api.Network, links int, nodes bool) []api.Failure {
	var l []api.Failure
	for set := range 1 << len(n.Links) {
		var f api.Failure
		for i := range n.Links {
			if set>>i&1 == 1 {
				f.Links = append(f.Links, i)
			}
		}
		if len(f.Links) > links {
			continue
		}
		for f.Node = -1; f.Node == -1 || nodes && f.Node < len(n.Nodes); f.Node++ {
			l = append(l, f)
		}
	}
	slices.SortFunc(l, func(a, b api.Failure) int {
		return cmp.Or(cmp.Compare(len(a.Links), len(b.Links)), slices.Compare(a.Links, b.Links), cmp.Compare(a.Node, b.Node))
	})
	return l
}

func sameFailures(a, b []api.Failure) bool {
	return slices.EqualFunc(a, b, func(f, g api.Failure) bool { return f.Node == g.Node && slices.Equal(f.Links, g.Links) })
}

func TestFailures(t *testing.T) {
	r := source(5)
	networks := []api.Network{{}, given(), sized(1, 0, 0), sized(2, 1, 0), sized(2, 2, 0)}
	for range 40 {
		networks = append(networks, someNetwork(r, 2+r.IntN(4), r.IntN(10)))
	}
	for _, n := range networks {
		for links := range 3 {
			for _, nodes := range []bool{false, true} {
				got, e := graph.Failures(n, links, nodes)
				if e != api.OK || !sameFailures(got, allFailures(n, links, nodes)) {
					t.Fatalf("P9.3: Failures of %d links, %v, of %d nodes and %d links: error %d, %v", links, nodes, len(n.Nodes), len(n.Links), e, got)
				}
			}
		}
	}
	for _, x := range []struct {
		nodes, size int
		links       int
		with        bool
		count       int
		want        api.Errno
	}{
		{4, 6, 2, false, 22, api.OK},
		{4, 6, 2, true, 110, api.OK},
		{4, 6, -1, false, 0, api.ErrArg},
		{4, 6, 3, true, 0, api.ErrArg},
		{4, 6, math.MaxInt, true, 0, api.ErrArg},
		{4, 6, math.MinInt, true, 0, api.ErrArg},
		{200, 2000, 3, true, 0, api.ErrArg},
		{200, 2000, 0, true, 201, api.OK},
		{200, 2000, 1, false, 2001, api.OK},
		{200, 2000, 1, true, 0, api.ErrLimit},
		{200, 2000, 2, false, 0, api.ErrLimit},
		{200, 2000, 2, true, 0, api.ErrLimit},
		{199, 99, 1, true, 20000, api.OK},
		{199, 100, 1, true, 0, api.ErrLimit},
		{112, 176, 1, true, 0, api.ErrLimit}, // 20001 of them
		{2, 199, 2, false, 19901, api.OK},
		{2, 200, 2, false, 0, api.ErrLimit},
	} {
		l, e := graph.Failures(sized(x.nodes, x.size, 0), x.links, x.with)
		if e != x.want || len(l) != x.count {
			t.Errorf("P9.3: Failures of %d links of %d nodes and %d links: error %d, %d of them", x.links, x.nodes, x.size, e, len(l))
		}
	}
}

// TestFailuresDiffer changes each failure: no other one may change with it.
func TestFailuresDiffer(t *testing.T) {
	n := given()
	l, _ := graph.Failures(n, 2, true)
	var texts []string
	for _, f := range l {
		if graph.CheckFailure(n, f) != api.OK {
			t.Fatalf("P9.10: %v is not right", f)
		}
		text := ""
		for _, link := range f.Links {
			text += strconv.Itoa(link) + " "
		}
		texts = append(texts, text+"at "+strconv.Itoa(f.Node))
		for i := range f.Links {
			f.Links[i] = 99
		}
	}
	slices.Sort(texts)
	if len(slices.Compact(texts)) != 110 {
		t.Errorf("P9.10: %d different failures", len(slices.Compact(texts)))
	}
}

func TestDist(t *testing.T) {
	r := source(6)
	for range 400 {
		n := small(r)
		f := someFailure(r, n)
		before, links := copyOf(n), slices.Clone(f.Links)
		for a := range n.Nodes {
			dist := graph.Dist(n, f, a)
			if len(dist) != len(n.Nodes) {
				t.Fatalf("P9.4: Dist has %d numbers", len(dist))
			}
			var reached []int
			for b := range n.Nodes {
				want := -1
				if l := every(n, f, b, a); len(l) > 0 {
					want = len(l[0])
				}
				if dist[b] != want {
					t.Fatalf("P9.4: Dist to %d of %v with %v is %v, not %d for %d", a, n.Links, f, dist, want, b)
				}
				if len(every(n, f, a, b)) > 0 {
					reached = append(reached, b)
				}
			}
			if got := graph.Reached(n, f, a); !slices.Equal(got, reached) {
				t.Fatalf("P9.4: Reached from %d of %v with %v is %v instead of %v", a, n.Links, f, got, reached)
			}
		}
		if !graph.Same(n, before) || !slices.Equal(f.Links, links) {
			t.Fatal("P9.4: arguments change")
		}
	}
	for _, f := range []api.Failure{{Node: 0}, {Links: []int{0, 2}, Node: 0}} {
		if d := graph.Dist(given(), f, 0); !slices.Equal(d, []int{-1, -1, -1, -1}) {
			t.Errorf("P9.4: Dist to a node that is down is %v", d)
		}
		if l := graph.Reached(given(), f, 0); len(l) != 0 {
			t.Errorf("P9.4: Reached from a node that is down is %v", l)
		}
	}
}

func TestShortest(t *testing.T) {
	r := source(7)
	paths := 0
	for range 500 {
		n := small(r)
		f := someFailure(r, n)
		if r.IntN(2) == 0 {
			f = whole()
		}
		before, links := copyOf(n), slices.Clone(f.Links)
		for a := range n.Nodes {
			for b := range n.Nodes {
				l := every(n, f, a, b)
				path, e := graph.Shortest(n, f, a, b)
				if len(l) == 0 && (e != api.ErrPath || len(path) != 0) {
					t.Fatalf("P9.5: Shortest from %d to %d of %v with %v: error %d, %v", a, b, n.Links, f, e, path)
				}
				if len(l) > 0 && (e != api.OK || !slices.Equal(path, l[0])) {
					t.Fatalf("P9.5: Shortest from %d to %d of %v with %v: error %d, %v instead of %v", a, b, n.Links, f, e, path, l[0])
				}
				if d := graph.Dist(n, f, b)[a]; e == api.OK && d != len(path) || e != api.OK && d != -1 {
					t.Fatalf("P9.8: Shortest has %d links, Dist is %d", len(path), d)
				}
				if slices.Contains(graph.Reached(n, f, a), b) != (graph.Dist(n, f, b)[a] != -1) {
					t.Fatalf("P9.8: Reached from %d, and Dist to %d", a, b)
				}
				if len(l) > 1 && len(l[0]) == len(l[1]) {
					paths++
				}
			}
		}
		if !graph.Same(n, before) || !slices.Equal(f.Links, links) {
			t.Fatal("P9.5: arguments change")
		}
	}
	if paths < 100 {
		t.Errorf("P9.5: only %d times there were several shortest paths", paths)
	}
}

func TestShortestErrors(t *testing.T) {
	n := given()
	for _, x := range []struct {
		f        api.Failure
		from, to int
		want     api.Errno
	}{
		{whole(), -1, 0, api.ErrArg},
		{whole(), 0, -1, api.ErrArg},
		{whole(), 4, 0, api.ErrArg},
		{whole(), 0, 4, api.ErrArg},
		{whole(), 4, 4, api.ErrArg},
		{whole(), math.MinInt, math.MaxInt, api.ErrArg},
		{api.Failure{Node: 0}, 0, 4, api.ErrArg},
		{api.Failure{Node: 0}, 0, 3, api.ErrPath},
		{api.Failure{Node: 3}, 0, 3, api.ErrPath},
		{api.Failure{Node: 0}, 0, 0, api.ErrPath},
		{api.Failure{Node: 1}, 0, 0, api.OK},
		{down(0, 1, 2, 3, 4, 5), 2, 2, api.OK},
		{down(5), 3, 2, api.ErrPath},
	} {
		path, e := graph.Shortest(n, x.f, x.from, x.to)
		if e != x.want || len(path) != 0 {
			t.Errorf("P9.5: Shortest from %d to %d with %v: error %d, %v", x.from, x.to, x.f, e, path)
		}
	}
	if _, e := graph.Shortest(api.Network{}, whole(), 0, 0); e != api.ErrArg {
		t.Errorf("P9.5: Shortest without nodes is error %d", e)
	}
}

// common returns the links that are in all paths.
func common(n api.Network, paths [][]int) []int {
	var l []int
	for i := range n.Links {
		if !slices.ContainsFunc(paths, func(p []int) bool { return !slices.Contains(p, i) }) {
			l = append(l, i)
		}
	}
	return l
}

// fewest returns how many links two paths without a common link have at least, and whether there are such.
func fewest(paths [][]int) (int, bool) {
	best := math.MaxInt
	for i, p := range paths {
		for _, q := range paths[:i] {
			if !slices.ContainsFunc(p, func(link int) bool { return slices.Contains(q, link) }) {
				best = min(best, len(p)+len(q))
			}
		}
	}
	return best, best != math.MaxInt
}

// checkDisjoint checks what Disjoint says of two different nodes.
func checkDisjoint(t *testing.T, n api.Network, a, b, want int, ok bool) {
	t.Helper()
	p, q, e := graph.Disjoint(n, a, b)
	if !ok {
		if e != api.ErrPath || len(p) != 0 || len(q) != 0 {
			t.Fatalf("P9.6: Disjoint from %d to %d of %v: error %d, %v, %v", a, b, n.Links, e, p, q)
		}
		return
	}
	if e != api.OK || len(p) > len(q) || len(p)+len(q) != want {
		t.Fatalf("P9.6: Disjoint from %d to %d of %v: error %d, %v, %v instead of %d links", a, b, n.Links, e, p, q, want)
	}
	both := slices.Concat(p, q)
	slices.Sort(both)
	for _, l := range [][]int{p, q} {
		if node, ok := graph.Walk(n, a, l); !ok || node != b || len(slices.Compact(both)) != want {
			t.Fatalf("P9.6: Disjoint from %d to %d of %v: %v, %v", a, b, n.Links, p, q)
		}
	}
}

func TestBridges(t *testing.T) {
	r := source(8)
	bridges, pairs, none := 0, 0, 0
	for range 600 {
		n := small(r)
		before := copyOf(n)
		for a := range n.Nodes {
			for b := range n.Nodes {
				paths := every(n, whole(), a, b)
				l, e := graph.Bridges(n, a, b)
				if len(paths) == 0 && (e != api.ErrPath || len(l) != 0) || len(paths) > 0 && (e != api.OK || !slices.Equal(l, common(n, paths))) {
					t.Fatalf("P9.6: Bridges from %d to %d of %v: error %d, %v", a, b, n.Links, e, l)
				}
				bridges += len(l)
				if a == b {
					if p, q, e := graph.Disjoint(n, a, b); e != api.ErrArg || len(p) != 0 || len(q) != 0 {
						t.Fatalf("P9.6: Disjoint from %d to itself: error %d, %v, %v", a, e, p, q)
					}
					continue
				}
				want, ok := fewest(paths)
				checkDisjoint(t, n, a, b, want, ok)
				if ok != (len(paths) > 0 && len(l) == 0) {
					t.Fatalf("P9.9: Disjoint and Bridges from %d to %d of %v", a, b, n.Links)
				}
				if ok {
					pairs++
				} else {
					none++
				}
				for i := range n.Links {
					_, f := graph.Shortest(n, down(i), a, b)
					if e == api.OK && (f == api.OK) == slices.Contains(l, i) {
						t.Fatalf("P9.9: the link %d from %d to %d of %v", i, a, b, n.Links)
					}
				}
			}
		}
		if !graph.Same(n, before) {
			t.Fatal("P9.6: arguments change")
		}
	}
	if bridges < 500 || pairs < 500 || none < 500 {
		t.Errorf("P9.6: %d bridges, %d pairs, %d times none", bridges, pairs, none)
	}
}

// TestDisjointBack has networks in which a shortest path has to be given up: only other paths have no common link.
func TestDisjointBack(t *testing.T) {
	link := func(from, to int) api.Link { return api.Link{From: from, To: to} }
	// The only shortest path is 0 1 2 5; without it one gets nowhere.
	n := sized(6, 0, 0)
	n.Links = []api.Link{link(0, 1), link(1, 2), link(2, 5), link(0, 3), link(3, 2), link(1, 4), link(4, 5)}
	checkDisjoint(t, n, 0, 5, 6, true)
	// Beside it there is a longer path without a common link, but both other ones together are shorter.
	n.Links = append(n.Links, link(0, 6), link(6, 7), link(7, 8), link(8, 9), link(9, 5))
	n.Nodes = sized(10, 0, 0).Nodes
	checkDisjoint(t, n, 0, 5, 6, true)
	n.Links = slices.Delete(n.Links, 3, 4)
	checkDisjoint(t, n, 0, 5, 8, true)
	n.Links = slices.Delete(n.Links, 6, 7)
	checkDisjoint(t, n, 0, 5, 0, false)
	// Going back over two links of the first path saves them: 8 links, and not 4 and 5 ones.
	n.Nodes, n.Links = sized(13, 0, 0).Nodes, nil
	for _, nodes := range [][]int{{0, 1, 2, 3, 4}, {0, 5, 6, 7, 8, 4}, {0, 9, 10, 3}, {1, 11, 12, 4}} {
		for i, to := range nodes[1:] {
			n.Links = append(n.Links, link(nodes[i], to))
		}
	}
	checkDisjoint(t, n, 0, 4, 8, true)
	// The same link twice is two links.
	n.Nodes, n.Links = sized(2, 0, 0).Nodes, []api.Link{link(0, 1), link(0, 1)}
	checkDisjoint(t, n, 0, 1, 2, true)
	if l, e := graph.Bridges(n, 0, 1); e != api.OK || len(l) != 0 {
		t.Errorf("P9.6: Bridges are %v, error %d", l, e)
	}
	// Bridges are in increasing order, not in that of the path.
	n.Nodes, n.Links = sized(4, 0, 0).Nodes, []api.Link{link(2, 3), link(0, 1), link(1, 2)}
	if l, e := graph.Bridges(n, 0, 3); e != api.OK || !slices.Equal(l, []int{0, 1, 2}) {
		t.Errorf("P9.6: Bridges are %v, error %d", l, e)
	}
}

func TestBridgesErrors(t *testing.T) {
	for _, x := range []struct {
		from, to      int
		first, second api.Errno
	}{
		{-1, 0, api.ErrArg, api.ErrArg},
		{0, -1, api.ErrArg, api.ErrArg},
		{4, 0, api.ErrArg, api.ErrArg},
		{0, 4, api.ErrArg, api.ErrArg},
		{4, 4, api.ErrArg, api.ErrArg},
		{-1, -1, api.ErrArg, api.ErrArg},
		{math.MaxInt, math.MinInt, api.ErrArg, api.ErrArg},
		{2, 2, api.OK, api.ErrArg},
		{3, 0, api.OK, api.ErrPath},
		{0, 3, api.OK, api.OK},
	} {
		if _, e := graph.Bridges(given(), x.from, x.to); e != x.first {
			t.Errorf("P9.6: Bridges from %d to %d is error %d", x.from, x.to, e)
		}
		if _, _, e := graph.Disjoint(given(), x.from, x.to); e != x.second {
			t.Errorf("P9.6: Disjoint from %d to %d is error %d", x.from, x.to, e)
		}
	}
	n := sized(2, 0, 0)
	if l, e := graph.Bridges(n, 0, 1); e != api.ErrPath || len(l) != 0 {
		t.Errorf("P9.6: Bridges without links are %v, error %d", l, e)
	}
	if l, e := graph.Bridges(n, 1, 1); e != api.OK || len(l) != 0 {
		t.Errorf("P9.6: Bridges from a node to itself are %v, error %d", l, e)
	}
}

// TestMoreDown compares distances with those when more is down.
func TestMoreDown(t *testing.T) {
	r := source(9)
	for range 100 {
		n := small(r)
		for to := range n.Nodes {
			f := whole()
			dist := graph.Dist(n, f, to)
			for i := range n.Links {
				if r.IntN(2) == 0 {
					continue
				}
				f.Links = append(f.Links, i)
				more := graph.Dist(n, f, to)
				for node := range n.Nodes {
					if more[node] != -1 && (dist[node] == -1 || more[node] < dist[node]) {
						t.Fatalf("P9.10: Dist to %d of %v with %v is %v, and before %v", to, n.Links, f, more, dist)
					}
				}
				dist = more
			}
		}
	}
}

// TestGreatest has networks of the greatest size.
func TestGreatest(t *testing.T) {
	line := sized(200, 0, 0) // with ten links from each node to the next one
	for i := range 199 {
		for range 10 {
			line.Links = append(line.Links, api.Link{From: i, To: i + 1})
		}
	}
	path, e := graph.Shortest(line, whole(), 0, 199)
	if e != api.OK || len(path) != 199 || path[0] != 0 || path[198] != 1980 {
		t.Errorf("P9.5: Shortest is error %d, %v", e, path)
	}
	checkDisjoint(t, line, 0, 199, 398, true)
	for i := range 9 {
		line.Links[1001+i].From, line.Links[1001+i].To = 5, 3
	}
	if l, e := graph.Bridges(line, 0, 199); e != api.OK || !slices.Equal(l, []int{1000}) {
		t.Errorf("P9.6: Bridges are error %d, %v", e, l)
	}
	checkDisjoint(t, line, 0, 199, 0, false)
	r := source(10)
	for range 5 {
		n := someNetwork(r, 200, 2000)
		d := second(n)
		for range 20 {
			a, b := r.IntN(200), r.IntN(200)
			if got := graph.Dist(n, whole(), b)[a]; got != d[a][b] {
				t.Fatalf("P9.4: Dist is %d instead of %d", got, d[a][b])
			}
			if l, e := graph.Shortest(n, whole(), a, b); d[a][b] != -1 && (e != api.OK || len(l) != d[a][b]) {
				t.Fatalf("P9.5: Shortest is error %d, %v", e, l)
			}
		}
	}
}

// second is a second way to Dist, for all pairs of nodes.
func second(n api.Network) [][]int {
	const far = 1 << 40
	d := make([][]int, len(n.Nodes))
	for a := range d {
		d[a] = slices.Repeat([]int{far}, len(n.Nodes))
		d[a][a] = 0
	}
	for _, l := range n.Links {
		d[l.From][l.To] = 1
	}
	for k := range d {
		for a := range d {
			for b := range d {
				d[a][b] = min(d[a][b], d[a][k]+d[k][b])
			}
		}
	}
	for a := range d {
		for b := range d {
			if d[a][b] >= far {
				d[a][b] = -1
			}
		}
	}
	return d
}

// TestExamples has the examples of the chapter.
func TestExamples(t *testing.T) {
	n := given()
	for port, want := range map[int]int{4: 2, 10001: 3, 20002: 2, 6: -1} {
		if got := graph.Where(n, port); got != want {
			t.Errorf("P9.2: Where of %d is %d", port, got)
		}
	}
	if d := graph.Dist(n, whole(), 3); !slices.Equal(d, []int{2, 1, 1, 0}) {
		t.Error("P9.4: Dist is", d)
	}
	if d := graph.Dist(n, down(1), 3); !slices.Equal(d, []int{2, 2, 1, 0}) {
		t.Error("P9.4: Dist is", d)
	}
	if l, e := graph.Shortest(n, whole(), 0, 3); e != api.OK || !slices.Equal(l, []int{0, 1}) {
		t.Error("P9.5: Shortest is", l, e)
	}
	if l, e := graph.Shortest(n, down(0), 0, 3); e != api.OK || !slices.Equal(l, []int{2, 3}) {
		t.Error("P9.5: Shortest is", l, e)
	}
	if l, e := graph.Shortest(n, whole(), 3, 2); e != api.OK || !slices.Equal(l, []int{5, 2}) {
		t.Error("P9.5: Shortest is", l, e)
	}
	if l, e := graph.Bridges(n, 3, 2); e != api.OK || !slices.Equal(l, []int{5}) {
		t.Error("P9.6: Bridges are", l, e)
	}
	if l, e := graph.Bridges(n, 0, 3); e != api.OK || len(l) != 0 {
		t.Error("P9.6: Bridges are", l, e)
	}
	p, q, e := graph.Disjoint(n, 0, 3)
	if p[0] > q[0] {
		p, q = q, p
	}
	if e != api.OK || !slices.Equal(p, []int{0, 1}) || !slices.Equal(q, []int{2, 3}) {
		t.Error("P9.6: Disjoint are", p, q, e)
	}
	if p, q, e := graph.Disjoint(n, 3, 2); e != api.ErrPath || len(p) != 0 || len(q) != 0 {
		t.Error("P9.6: Disjoint are", p, q, e)
	}
}

// TestNewMemory changes results, and asks again.
func TestNewMemory(t *testing.T) {
	n := given()
	f := down(1)
	ask := func() [][]int {
		shortest, _ := graph.Shortest(n, f, 0, 3)
		bridges, _ := graph.Bridges(n, 3, 2)
		first, second, _ := graph.Disjoint(n, 0, 3)
		l := [][]int{graph.Out(n, 0), graph.In(n, 3), graph.Dist(n, f, 3), graph.Reached(n, f, 1), shortest, bridges, first, second}
		failures, _ := graph.Failures(n, 1, true)
		for _, x := range failures {
			l = append(l, x.Links)
		}
		return l
	}
	before := ask()
	for _, l := range ask() {
		for i := range l {
			l[i] = 77
		}
		_ = append(l, 78)
	}
	if !reflect.DeepEqual(before, ask()) || !graph.Same(n, given()) || !slices.Equal(f.Links, []int{1}) {
		t.Error("P9.7: results share memory")
	}
}

// TestWrongArguments has arguments for which results are not specified: the functions have to return all the same.
func TestWrongArguments(t *testing.T) {
	r := source(11)
	values := []int{0, 1, 2, 3, 4, 5, -1, -2, 6, 10000, 20000, math.MaxInt, math.MinInt}
	value := func() int { return values[r.IntN(len(values)-r.IntN(2)*5)] }
	for range 20000 {
		n := sized(r.IntN(5), 0, r.IntN(3))
		for range r.IntN(12) {
			n.Links = append(n.Links, api.Link{From: value(), To: value(), Capacity: value()})
		}
		f := api.Failure{Links: []int{value(), value()}[:r.IntN(3)], Node: value()}
		graph.Check(n)
		graph.CheckFailure(n, f)
		graph.Where(n, value())
		graph.Out(n, value())
		graph.In(n, value())
		graph.Up(n, f, value())
		graph.Walk(n, value(), []int{value(), value()})
		graph.Failures(n, value(), true)
		graph.Dist(n, f, value())
		graph.Reached(n, f, value())
		graph.Shortest(n, f, value(), value())
		graph.Bridges(n, value(), value())
		graph.Disjoint(n, value(), value())
		graph.Same(n, n)
		if m, e := graph.Decode(graph.Encode(n)); e != api.OK || !graph.Same(m, n) {
			t.Fatalf("P9.7: Decode of %v is error %d, %v", n, e, m)
		}
	}
}
