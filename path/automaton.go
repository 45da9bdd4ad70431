package path

import (
	"maps"
	"math/bits"
	"slices"

	"interlace/api"
	"interlace/syntax"
)

const wordBits = 64

// A set is numbers of an expression: the bit 0 is the number -1, and the bit i + 1 the number i.
type set [(syntax.MaxNodes + wordBits) / wordBits]uint64

// start is the set of the number -1.
var start = set{1}

func single(bit int) set {
	var s set
	s[bit/wordBits] = 1 << (bit % wordBits)
	return s
}

func (s set) or(t set) set {
	for i := range s {
		s[i] |= t[i]
	}
	return s
}

func (s set) and(t set) set {
	for i := range s {
		s[i] &= t[i]
	}
	return s
}

// meets reports whether two sets have a number in common.
func (s set) meets(t set) bool { return s.and(t) != set{} }

// every visits the bits of a set.
func (s set) every(visit func(bit int)) {
	for i, word := range s {
		for ; word != 0; word &= word - 1 {
			visit(i*wordBits + bits.TrailingZeros64(word))
		}
	}
}

// An automaton is the numbers of an expression: those of the ReNode with each name, and of the ReAny; for each bit the
// numbers that can come next; and those with which a list can end that the expression would match if each of them matched
// its number alone.
type automaton struct {
	nodes map[string]set
	any   set
	next  []set
	ends  set
}

// A part is what an expression in another one is: whether it matches the empty list, and the numbers with which the other
// lists that it matches begin and end.
type part struct {
	empty       bool
	first, last set
}

// automatonOf returns the automaton of an expression. (A list is the beginning of one that would match exactly if it begins
// with the number -1, and each number can come after the one before: no number is in the way of going on.)
func automatonOf(x api.Regex) automaton {
	a := automaton{nodes: map[string]set{}}
	before := a.number()
	var read func(x api.Regex) part
	read = func(x api.Regex) part {
		switch x.Kind {
		case api.ReNode:
			s := a.number()
			a.nodes[x.Node] = a.nodes[x.Node].or(s)
			return part{first: s, last: s}
		case api.ReAny:
			s := a.number()
			a.any = a.any.or(s)
			return part{first: s, last: s}
		case api.ReSeq:
			p := read(x.Args[0])
			return a.join(p, read(x.Args[1]))
		case api.ReOr:
			p := read(x.Args[0])
			q := read(x.Args[1])
			return part{p.empty || q.empty, p.first.or(q.first), p.last.or(q.last)}
		case api.ReStar:
			p := read(x.Args[0])
			a.join(p, p)
			return part{true, p.first, p.last}
		}
		return part{empty: true}
	}
	whole := read(x)
	a.ends = a.join(part{first: before, last: before}, whole).last
	return a
}

// number returns the set of the next number that was not yet given.
func (a *automaton) number() set {
	s := single(len(a.next))
	a.next = append(a.next, set{})
	return s
}

// join lets a part come after another one.
func (a *automaton) join(p, q part) part {
	p.last.every(func(bit int) { a.next[bit] = a.next[bit].or(q.first) })
	whole := part{p.empty && q.empty, p.first, q.last}
	if p.empty {
		whole.first = whole.first.or(q.first)
	}
	if q.empty {
		whole.last = whole.last.or(p.last)
	}
	return whole
}

// following returns the numbers that can come after those of a set.
func (a automaton) following(s set) set {
	var next set
	s.every(func(bit int) { next = next.or(a.next[bit]) })
	return next
}

// takers returns the numbers that take a name.
func (a automaton) takers(name string) set { return a.any.or(a.nodes[name]) }

// machine returns a machine whose states are the sets after lists of letters, numbered in the order in which they are
// found, and whether there are no more than MaxStates.
func (a automaton) machine() (api.Machine, bool) {
	m := api.Machine{Names: slices.Sorted(maps.Keys(a.nodes))}
	var sets []set
	known := map[set]int{}
	state := func(s set) int {
		i, old := known[s]
		if !old {
			i = len(sets)
			known[s] = i
			sets = append(sets, s)
		}
		return i
	}
	state(start)
	for at := 0; at < len(sets); at++ {
		next := a.following(sets[at])
		var row []int
		for _, name := range m.Names {
			row = append(row, state(next.and(a.takers(name))))
		}
		m.Next = append(m.Next, append(row, state(next.and(a.any))))
		m.Accept = append(m.Accept, sets[at].meets(a.ends))
		if len(sets) > MaxStates {
			return api.Machine{}, false
		}
	}
	return m, true
}
