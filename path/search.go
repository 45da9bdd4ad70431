package path

import (
	"cmp"
	"slices"

	"interlace/api"
	"interlace/graph"
)

// search goes from a first thing over steps to others, the nearest ones first, until it comes to one that is a goal. It
// returns what it found, and whether there is a goal, with the steps to it. (Things, of which each has a number from 0 to
// size - 1, are found in the order of the least steps that lead to them, if those from each thing are visited in order.)
func search[T any](
	first T, size int, number func(T) int,
	steps func(x T, visit func(by int, next T)),
	goal func(T) bool,
) ([]T, []int, bool) {
	found, last := []T{first}, []trail{{}}
	seen := make([]bool, size)
	seen[number(first)] = true
	at := 0
	visit := func(by int, next T) {
		i := number(next)
		if !seen[i] {
			seen[i] = true
			found, last = append(found, next), append(last, trail{at, by})
		}
	}
	for ; at < len(found); at++ {
		if goal(found[at]) {
			return found, way(last, at), true
		}
		steps(found[at], visit)
	}
	return found, nil, false
}

// A trail is the step that led to a thing: from which one (by the order in which they were found), and by what.
type trail struct{ from, by int }

// way returns the steps that led to a thing. The first one has the number 0.
func way(last []trail, at int) []int {
	var l []int
	for ; at > 0; at = last[at].from {
		l = append(l, last[at].by)
	}
	slices.Reverse(l)
	return l
}

// A terrain is a network with a failure, in which a machine reads the names of paths: for each node the links from it that
// are up, and the letter of its name.
type terrain struct {
	network api.Network
	down    int
	machine api.Machine
	out     [][]int
	letters []int
}

// terrainOf returns the terrain of a machine that is right.
func terrainOf(n api.Network, f api.Failure, m api.Machine) (terrain, bool) {
	if !Check(m) {
		return terrain{}, false
	}
	t := terrain{network: n, down: f.Node, machine: m, out: make([][]int, len(n.Nodes))}
	for _, x := range n.Nodes {
		t.letters = append(t.letters, letter(m, x.Name))
	}
	for i, l := range n.Links {
		if graph.Up(n, f, i) {
			t.out[l.From] = append(t.out[l.From], i)
		}
	}
	return t, true
}

// up reports whether a number is that of a node that is up.
func (t terrain) up(node int) bool { return within(t.out, node) && node != t.down }

// has reports whether a place has the numbers of a node and of a state.
func (t terrain) has(p api.Place) bool {
	return within(t.out, p.Node) && within(t.machine.Next, p.State)
}

// accepts reports whether a place is at a node with a state that accepts.
func (t terrain) accepts(p api.Place, node int) bool {
	return p.Node == node && t.machine.Accept[p.State]
}

// size returns the number of all places.
func (t terrain) size() int { return len(t.out) * len(t.machine.Next) }

// number returns the number of a place among all places.
func (t terrain) number(p api.Place) int { return p.Node*len(t.machine.Next) + p.State }

// enter returns the place at a node to which a path goes on.
func (t terrain) enter(state, node int) api.Place {
	return api.Place{Node: node, State: t.machine.Next[state][t.letters[node]]}
}

// first returns the place of a node after its name alone.
func (t terrain) first(node int) api.Place { return t.enter(0, node) }

// steps visits the links that are up from a place, in order, and the places after them.
func (t terrain) steps(p api.Place, visit func(link int, next api.Place)) {
	for _, link := range t.out[p.Node] {
		visit(link, t.enter(p.State, t.network.Links[link].To))
	}
}

func comparePlaces(p, q api.Place) int {
	return cmp.Or(cmp.Compare(p.Node, q.Node), cmp.Compare(p.State, q.State))
}
