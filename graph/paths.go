package graph

import (
	"math"
	"slices"

	"interlace/api"
)

// intact is no failure.
func intact() api.Failure { return api.Failure{Node: none} }

// Dist returns the distances of all nodes to a node.
func Dist(n api.Network, f api.Failure, to int) []int {
	return distances(n, f, to, func(l api.Link) (int, int) { return l.To, l.From })
}

// Reached returns the nodes to which there is a path.
func Reached(n api.Network, f api.Failure, from int) []int {
	var nodes []int
	for node, d := range distances(n, f, from, func(l api.Link) (int, int) { return l.From, l.To }) {
		if d != none {
			nodes = append(nodes, node)
		}
	}
	return nodes
}

// distances returns the distances of all nodes from a node over links that are up, each of which is passed from its
// first end to its second one.
func distances(n api.Network, f api.Failure, start int, ends func(api.Link) (int, int)) []int {
	dist := slices.Repeat([]int{none}, len(n.Nodes))
	var queue []int
	visit := func(node, d int) {
		if dist[node] == none {
			dist[node] = d
			queue = append(queue, node)
		}
	}
	next := make([][]int, len(n.Nodes))
	for i, l := range n.Links {
		if Up(n, f, i) {
			near, far := ends(l)
			next[near] = append(next[near], far)
		}
	}
	if within(n.Nodes, start) && start != f.Node {
		visit(start, 0)
	}
	for at := 0; at < len(queue); at++ {
		node := queue[at]
		for _, far := range next[node] {
			visit(far, dist[node]+1)
		}
	}
	return dist
}

// Shortest returns the first one of the shortest paths.
func Shortest(n api.Network, f api.Failure, from, to int) ([]int, api.Errno) {
	if !within(n.Nodes, from) || !within(n.Nodes, to) {
		return nil, api.ErrArg
	}
	dist := Dist(n, f, to)
	if dist[from] == none {
		return nil, api.ErrPath
	}
	first := firstLinks(n, f, dist)
	path := make([]int, dist[from])
	node := from
	for i := range path {
		path[i] = first[node]
		node = n.Links[path[i]].To
	}
	return path, api.OK
}

// firstLinks returns for each node with a distance greater than 0 the first link that is up and leads nearer. (Since all
// shortest paths from a node are equally long, the first one begins with it.)
func firstLinks(n api.Network, f api.Failure, dist []int) []int {
	first := slices.Repeat([]int{none}, len(n.Nodes))
	for i, l := range n.Links {
		if Up(n, f, i) && first[l.From] == none && dist[l.To] != none && dist[l.From] == dist[l.To]+1 {
			first[l.From] = i
		}
	}
	return first
}

// Bridges returns the links that are in every path.
func Bridges(n api.Network, from, to int) ([]int, api.Errno) {
	path, e := Shortest(n, intact(), from, to)
	if e != api.OK {
		return nil, e
	}
	var bridges []int
	for _, link := range path {
		without := api.Failure{Links: []int{link}, Node: none}
		if Dist(n, without, to)[from] == none {
			bridges = append(bridges, link)
		}
	}
	slices.Sort(bridges)
	return bridges, api.OK
}

// Disjoint returns two paths without a common link. The first way is a shortest path; the second one may go back over
// links of the first one, which then neither of both paths uses.
func Disjoint(n api.Network, from, to int) ([]int, []int, api.Errno) {
	if from == to {
		return nil, nil, api.ErrArg
	}
	path, e := Shortest(n, intact(), from, to)
	if e != api.OK {
		return nil, nil, e
	}
	used := make([]bool, len(n.Links))
	for _, link := range path {
		used[link] = true
	}
	way := secondWay(n, used, from, to)
	if way == nil {
		return nil, nil, api.ErrPath
	}
	for _, link := range way {
		used[link] = !used[link]
	}
	first := takePath(n, used, from, to)
	second := takePath(n, used, from, to)
	if len(first) > len(second) {
		first, second = second, first
	}
	return first, second, api.OK
}

// secondWay returns the links of a cheapest way between two different nodes: each link that is not used costs 1, and
// each used one can be passed backwards only, which saves 1. It returns nil if there is none. (No way around saves
// anything, since the used links are a shortest path.)
func secondWay(n api.Network, used []bool, from, to int) []int {
	const far = math.MaxInt
	cost := slices.Repeat([]int{far}, len(n.Nodes))
	last := slices.Repeat([]int{none}, len(n.Nodes))
	cost[from] = 0
	for changed := true; changed; {
		changed = false
		for i := range n.Links {
			near, beyond, price := pass(n, used, i)
			if Up(n, intact(), i) && cost[near] != far && cost[near]+price < cost[beyond] {
				cost[beyond], last[beyond] = cost[near]+price, i
				changed = true
			}
		}
	}
	if cost[to] == far {
		return nil
	}
	var way []int
	for node := to; node != from; {
		link := last[node]
		way = append(way, link)
		node, _, _ = pass(n, used, link)
	}
	return way
}

// pass returns from where to where a second way can pass a link, and what this costs.
func pass(n api.Network, used []bool, link int) (near, beyond, price int) {
	l := n.Links[link]
	if used[link] {
		return l.To, l.From, -1
	}
	return l.From, l.To, 1
}

// takePath returns a path of used links, which are not used any longer then.
func takePath(n api.Network, used []bool, from, to int) []int {
	var path []int
	for node := from; node != to; {
		out := Out(n, node)
		link := out[slices.IndexFunc(out, func(link int) bool { return used[link] })]
		used[link] = false
		path = append(path, link)
		node = n.Links[link].To
	}
	return path
}
