package path_test

import (
	"maps"
	"math/rand/v2"
	"slices"
	"strconv"
	"strings"
	"testing"

	"interlace/api"
	"interlace/syntax"
)

func random(seed uint64) *rand.Rand { return rand.New(rand.NewPCG(seed, 16)) }

func pick[T any](r *rand.Rand, l ...T) T { return l[r.IntN(len(l))] }

// parsed returns the regular expression of a source.
func parsed(t *testing.T, source string) api.Regex {
	t.Helper()
	x, problem := syntax.ParseRegex(source)
	if problem != (api.Problem{}) {
		t.Fatalf("%s has the problem %v", source, problem)
	}
	return x
}

func regex(kind int, args ...api.Regex) api.Regex { return api.Regex{Kind: kind, Args: args} }

func node(name string) api.Regex { return api.Regex{Kind: api.ReNode, Node: name} }

func empty() api.Regex { return regex(api.ReEmpty) }

func anyone() api.Regex { return regex(api.ReAny) }

func seq(a, b api.Regex) api.Regex { return regex(api.ReSeq, a, b) }

func or(a, b api.Regex) api.Regex { return regex(api.ReOr, a, b) }

func star(x api.Regex) api.Regex { return regex(api.ReStar, x) }

// repeated returns a sequence, as low as it can be, of so many times the same expression.
func repeated(times int, x api.Regex) api.Regex {
	if times == 1 {
		return x
	}
	return seq(repeated(times/2, x), repeated(times-times/2, x))
}

// expression returns a random expression with so many nodes, or less.
func expression(r *rand.Rand, nodes int, names ...string) api.Regex {
	switch {
	case nodes > 2 && r.IntN(4) > 0:
		left := 1 + r.IntN(nodes-2)
		a := expression(r, left, names...)
		return regex(pick(r, api.ReSeq, api.ReOr), a, expression(r, nodes-1-left, names...))
	case nodes > 1 && r.IntN(2) > 0:
		return star(expression(r, nodes-1, names...))
	}
	return pick(r, empty(), anyone(), node(pick(r, names...)), node(pick(r, names...)), node(pick(r, names...)))
}

// some returns a random expression that is within the limits.
func some(r *rand.Rand, nodes int, names ...string) api.Regex {
	for {
		if x := expression(r, 1+r.IntN(nodes), names...); syntax.CheckRegex(x) == api.OK {
			return x
		}
	}
}

// namesOf returns the names of the ReNode of an expression, in increasing order.
func namesOf(x api.Regex) []string {
	known := map[string]bool{}
	var visit func(x api.Regex)
	visit = func(x api.Regex) {
		if x.Kind == api.ReNode {
			known[x.Node] = true
		}
		for _, arg := range x.Args {
			visit(arg)
		}
	}
	visit(x)
	return slices.Sorted(maps.Keys(known))
}

// stranger returns a name that no expression of these tests has. It is less than all of theirs.
func stranger() string { return "%" }

// matches is the second way to Match: where can the lists end that begin at a place of a list, and that x matches?
func matches(x api.Regex, names []string) bool {
	var ends func(x api.Regex, from int) map[int]bool
	ends = func(x api.Regex, from int) map[int]bool {
		switch x.Kind {
		case api.ReEmpty:
			return map[int]bool{from: true}
		case api.ReNode, api.ReAny:
			if from == len(names) || x.Kind == api.ReNode && names[from] != x.Node {
				return nil
			}
			return map[int]bool{from + 1: true}
		case api.ReOr:
			l := map[int]bool{}
			maps.Copy(l, ends(x.Args[0], from))
			maps.Copy(l, ends(x.Args[1], from))
			return l
		case api.ReSeq:
			l := map[int]bool{}
			for middle := range ends(x.Args[0], from) {
				maps.Copy(l, ends(x.Args[1], middle))
			}
			return l
		}
		l := map[int]bool{from: true}
		for changed := true; changed; {
			changed = false
			for middle := range maps.Clone(l) {
				for end := range ends(x.Args[0], middle) {
					changed = changed || !l[end]
					l[end] = true
				}
			}
		}
		return l
	}
	return ends(x, 0)[len(names)]
}

// lists returns all lists of up to so many names, the short ones first, then name by name in the order given.
func lists(length int, names ...string) [][]string {
	all := [][]string{nil}
	for from, to := 0, 1; length > 0; length-- {
		for _, l := range all[from:to] {
			for _, name := range names {
				all = append(all, append(slices.Clone(l), name))
			}
		}
		from, to = to, len(all)
	}
	return all
}

// someList returns a random list of names.
func someList(r *rand.Rand, length int, names ...string) []string {
	var l []string
	for range r.IntN(length + 1) {
		l = append(l, pick(r, names...))
	}
	return l
}

// A rest is expressions by their keys: a list goes on as one of them says.
type rest map[string]api.Regex

func key(x api.Regex) string {
	s := strconv.Itoa(x.Kind) + x.Node + "("
	for _, arg := range x.Args {
		s += key(arg) + ","
	}
	return s + ")"
}

func restOf(l ...api.Regex) rest {
	all := rest{}
	for _, x := range l {
		all[key(x)] = x
	}
	return all
}

func (l rest) key() string { return strings.Join(slices.Sorted(maps.Keys(l)), " ") }

func (l rest) with(others rest) rest {
	all := maps.Clone(l)
	maps.Copy(all, others)
	return all
}

// accepts reports whether the list can end here.
func (l rest) accepts() bool {
	for _, x := range l {
		if matches(x, nil) {
			return true
		}
	}
	return false
}

// after returns what is left after one more name.
func (l rest) after(name string) rest {
	all := rest{}
	for _, x := range l {
		all = all.with(after(x, name))
	}
	return all
}

func after(x api.Regex, name string) rest {
	switch x.Kind {
	case api.ReEmpty:
		return rest{}
	case api.ReNode, api.ReAny:
		if x.Kind == api.ReAny || x.Node == name {
			return restOf(empty())
		}
		return rest{}
	case api.ReOr:
		return after(x.Args[0], name).with(after(x.Args[1], name))
	case api.ReStar:
		return followed(after(x.Args[0], name), x)
	}
	l := followed(after(x.Args[0], name), x.Args[1])
	if matches(x.Args[0], nil) {
		l = l.with(after(x.Args[1], name))
	}
	return l
}

func followed(l rest, next api.Regex) rest {
	all := rest{}
	for _, x := range l {
		if x.Kind == api.ReEmpty {
			all = all.with(restOf(next))
		} else {
			all = all.with(restOf(seq(x, next)))
		}
	}
	return all
}

// numbered returns an expression whose leaves have their numbers as names, and the names that they had; that of a ReAny is
// the empty one.
func numbered(x api.Regex) (api.Regex, []string) {
	var names []string
	var visit func(x api.Regex) api.Regex
	visit = func(x api.Regex) api.Regex {
		switch x.Kind {
		case api.ReNode, api.ReAny:
			names = append(names, x.Node)
			return node(strconv.Itoa(len(names) - 1))
		case api.ReEmpty:
			return x
		}
		y := api.Regex{Kind: x.Kind}
		for _, arg := range x.Args {
			y.Args = append(y.Args, visit(arg))
		}
		return y
	}
	return visit(x), names
}

// setsOf is the second way to the sets of an expression: it returns how many of them stand after lists of letters, but at
// most limit + 1. All that can be known of a possible list is its last number, and what is left of the expression then.
func setsOf(x api.Regex, limit int) int {
	y, names := numbered(x)
	type possible struct {
		last int
		left string
	}
	rests := map[string]rest{}
	known := map[string][]possible{}
	after := func(left string) []possible {
		l, old := known[left]
		if old {
			return l
		}
		for i := range names {
			if m := rests[left].after(strconv.Itoa(i)); len(m) > 0 {
				rests[m.key()] = m
				l = append(l, possible{i, m.key()})
			}
		}
		known[left] = l
		return l
	}
	keys := func(l map[possible]bool) (string, string) {
		var numbers, all []string
		for p := range l {
			numbers = append(numbers, strconv.Itoa(p.last))
			all = append(all, strconv.Itoa(p.last)+p.left)
		}
		slices.Sort(numbers)
		slices.Sort(all)
		return strings.Join(slices.Compact(numbers), " "), strings.Join(all, " ")
	}
	rests[""] = restOf(y)
	queue, seen, sets := []map[possible]bool{{{-1, ""}: true}}, map[string]bool{}, map[string]bool{"-1": true}
	for at := 0; at < len(queue) && len(sets) <= limit; at++ {
		for _, letter := range append(namesOf(x), stranger()) {
			next := map[possible]bool{}
			for p := range queue[at] {
				for _, q := range after(p.left) {
					if names[q.last] == "" || names[q.last] == letter {
						next[q] = true
					}
				}
			}
			if numbers, all := keys(next); !seen[all] {
				seen[all], sets[numbers] = true, true
				queue = append(queue, next)
			}
		}
	}
	return min(len(sets), limit+1)
}

// network returns a network with nodes that have some names, and links that are pairs of their numbers.
func network(names []string, links ...[2]int) api.Network {
	var n api.Network
	for _, name := range names {
		n.Nodes = append(n.Nodes, api.Node{Name: name})
	}
	for _, l := range links {
		n.Links = append(n.Links, api.Link{From: l[0], To: l[1]})
	}
	return n
}

// given is the network of the chapter's examples.
func given() api.Network {
	return network([]string{"a", "b", "c", "d"}, [2]int{0, 1}, [2]int{1, 3}, [2]int{0, 2}, [2]int{2, 3}, [2]int{1, 2}, [2]int{3, 0})
}

func whole() api.Failure { return api.Failure{Node: -1} }

func down(links ...int) api.Failure { return api.Failure{Links: links, Node: -1} }

// someNetwork returns a right network with random links, several of which can lead from one node to the same other one.
func someNetwork(r *rand.Rand, nodes, links int) api.Network {
	var names []string
	for i := range nodes {
		names = append(names, letterName(i))
	}
	r.Shuffle(nodes, func(i, k int) { names[i], names[k] = names[k], names[i] })
	n := network(names)
	for range links {
		from := r.IntN(nodes)
		n.Links = append(n.Links, api.Link{From: from, To: (from + 1 + r.IntN(nodes-1)) % nodes})
	}
	return n
}

// letterName returns one of the names a, b and so on, or one with a number.
func letterName(i int) string {
	if i < 26 {
		return string(rune('a' + i))
	}
	return "n" + strconv.Itoa(i)
}

func small(r *rand.Rand) api.Network {
	nodes := 2 + r.IntN(4)
	return someNetwork(r, nodes, r.IntN(2*nodes+2))
}

// someFailure returns a right failure.
func someFailure(r *rand.Rand, n api.Network) api.Failure {
	f := whole()
	for i := range n.Links {
		if r.IntN(8) == 0 {
			f.Links = append(f.Links, i)
		}
	}
	if r.IntN(4) == 0 {
		f.Node = r.IntN(len(n.Nodes))
	}
	return f
}

func isUp(n api.Network, f api.Failure, link int) bool {
	return !slices.Contains(f.Links, link) && f.Node != n.Links[link].From && f.Node != n.Links[link].To
}

// walks visits all paths that are up from a node and have so many links, in order, with their names and their ends, until
// it is told to end.
func walks(n api.Network, f api.Failure, from, length int, visit func(path []int, names []string, end int) bool) bool {
	var walk func(node int, path []int, names []string) bool
	walk = func(node int, path []int, names []string) bool {
		names = append(names, n.Nodes[node].Name)
		if len(path) == length {
			return visit(path, names, node)
		}
		for i, l := range n.Links {
			if l.From == node && isUp(n, f, i) && !walk(l.To, append(path, i), names) {
				return false
			}
		}
		return true
	}
	return f.Node == from || walk(from, nil, nil)
}

// copyOf returns a machine that shares no memory with another one.
func copyOf(m api.Machine) api.Machine {
	c := api.Machine{Names: slices.Clone(m.Names), Accept: slices.Clone(m.Accept)}
	for _, row := range m.Next {
		c.Next = append(c.Next, slices.Clone(row))
	}
	return c
}

func sameMachine(a, b api.Machine) bool {
	return slices.Equal(a.Names, b.Names) && slices.Equal(a.Accept, b.Accept) && slices.EqualFunc(a.Next, b.Next, slices.Equal[[]int])
}
