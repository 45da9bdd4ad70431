package path_test

import (
	"math"
	"slices"
	"testing"

	"interlace/api"
	"interlace/graph"
	"interlace/path"
	"interlace/syntax"
)

// spoil changes everything in a machine.
func spoil(m api.Machine) {
	for i := range m.Names {
		m.Names[i] = "spoiled"
	}
	for i, row := range m.Next {
		m.Accept[i] = !m.Accept[i]
		for k := range row {
			row[k] = -7
		}
	}
}

// Arguments stay as they are, results are new memory, and no two parts of a result share any.
func TestMemory(t *testing.T) {
	r := random(30)
	for range 300 {
		n := small(r)
		f := someFailure(r, n)
		x, y := some(r, 12, "a", "b", "c"), some(r, 12, "a", "b", "c")
		names := someList(r, 5, "b", "a", "other")
		from, to := r.IntN(len(n.Nodes)), r.IntN(len(n.Nodes))
		sources := syntax.PrintRegex(x) + " and " + syntax.PrintRegex(y)
		list, before := slices.Clone(names), slices.Clone(f.Links)
		network := api.Network{Nodes: slices.Clone(n.Nodes), Links: slices.Clone(n.Links)}

		m := built(t, x)
		machine := copyOf(m)
		for i := range m.Next {
			if i+1 < len(m.Next) {
				_ = append(m.Next[i], -9)
			}
		}
		spoil(built(t, x))
		if !sameMachine(m, machine) || !sameMachine(m, built(t, x)) {
			t.Fatalf("P16.1: Build of %s shares memory", syntax.PrintRegex(x))
		}
		path.Match(x, names)
		path.Run(m, names)
		path.Other(names)
		l, _, _ := path.Equal(x, y)
		again := slices.Clone(l)
		for i := range l {
			l[i] = "spoiled"
		}
		if l, _, _ := path.Equal(x, y); !slices.Equal(l, again) {
			t.Fatalf("P16.3: Equal of %s changes", sources)
		}
		way, _ := path.Find(n, f, m, from, to)
		path.Holds(n, f, x, from, to, way)
		links := slices.Clone(way)
		for i := range way {
			way[i] = -7
		}
		places := path.Reached(n, f, m, from)
		reached := slices.Clone(places)
		path.Refutes(n, f, m, from, to, places)
		if !slices.Equal(places, reached) {
			t.Fatal("P16.6: Refutes changes the places")
		}
		for i := range places {
			places[i] = api.Place{Node: -7}
		}
		way, _ = path.Find(n, f, m, from, to)
		if !slices.Equal(way, links) || !slices.Equal(path.Reached(n, f, m, from), reached) {
			t.Fatal("P16.4: Find or Reached changes")
		}
		if syntax.PrintRegex(x)+" and "+syntax.PrintRegex(y) != sources || !slices.Equal(names, list) || !slices.Equal(f.Links, before) || !graph.Same(n, network) || !sameMachine(m, machine) {
			t.Fatal("P16.1: arguments are changed")
		}
	}
}

// Arguments for which nothing is specified end the functions, too.
func TestStrange(t *testing.T) {
	endless := make([]api.Regex, 2)
	for i := range endless {
		endless[i] = seq(node("a"), node("b"))
		endless[i].Args = endless
	}
	expressions := []api.Regex{{}, {Kind: -1}, {Kind: api.ReKinds + 1}, node(""), node("A"), regex(api.ReSeq), regex(api.ReOr, empty()), regex(api.ReStar), regex(api.ReStar, regex(api.ReSeq)), {Kind: api.ReAny, Node: "a"}, regex(api.ReEmpty, empty()), endless[0], repeated(101, node("a")), node("a"), star(anyone())}
	for _, x := range expressions {
		right := syntax.CheckRegex(x) == api.OK
		if path.Match(x, []string{"a"}) != right {
			t.Errorf("P16.1: Match of the expression with the kind %d", x.Kind)
		}
		if _, e := path.Build(x); e != syntax.CheckRegex(x) {
			t.Errorf("P16.1: Build of the expression with the kind %d is error %d", x.Kind, e)
		}
		for _, y := range expressions {
			path.Equal(x, y)
		}
	}
	wrong := circle(3)
	wrong.Next[1][0] = 99
	machines := []api.Machine{{}, {Names: []string{"a"}}, {Next: [][]int{nil}}, {Next: [][]int{{0}}}, {Next: [][]int{{-1}}, Accept: []bool{true}}, {Names: []string{"b", "a", "a"}, Next: [][]int{{0, 0, 0, 0}}, Accept: []bool{true}}, circle(201), wrong, {Next: [][]int{{math.MaxInt, math.MinInt}, nil, {1, 2, 3}}, Accept: make([]bool, 9)}, circle(2)}
	networks := []api.Network{given(), {}, {Links: []api.Link{{From: 0, To: 1}, {From: -1, To: math.MaxInt}}}, {Nodes: make([]api.Node, 300), Links: []api.Link{{From: 5, To: 5}, {From: 5, To: 300}, {From: 299, To: 0}}}}
	failures := []api.Failure{whole(), {Links: []int{5, -1, 5, math.MaxInt}, Node: math.MinInt}, {Node: 7}}
	numbers := []int{math.MinInt, -1, 0, 4, 5, 299, math.MaxInt}
	places := []api.Place{{Node: -1, State: -1}, {}, {Node: 299, State: 200}, {Node: math.MaxInt, State: math.MinInt}}
	for _, m := range machines {
		path.Run(m, []string{"a", "x", "", "b", "x", "x"})
		for _, n := range networks {
			for _, f := range failures {
				for _, from := range numbers {
					path.Reached(n, f, m, from)
					for _, to := range numbers {
						path.Find(n, f, m, from, to)
						for i := range places {
							path.Refutes(n, f, m, from, to, places[i:])
						}
						for _, x := range expressions {
							path.Holds(n, f, x, from, to, nil)
							path.Holds(n, f, x, from, to, []int{0, 1, -7, math.MaxInt})
						}
					}
				}
			}
		}
	}
}
