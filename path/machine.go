package path

import (
	"slices"

	"interlace/api"
)

// least joins the states of a machine from which the same lists are accepted. If its states are numbered in the order in
// which they are found, so are the joined ones: each of them is first found where the first one of its states was.
func least(m api.Machine) api.Machine {
	block := numbered(len(m.Next), func(state int) bool { return m.Accept[state] })
refine:
	for {
		// Two states stay in a block if their letters lead to the same blocks. (A block fits into a byte.)
		finer := numbered(len(m.Next), func(state int) string {
			kind := []byte{byte(block[state])}
			for _, next := range m.Next[state] {
				kind = append(kind, byte(block[next]))
			}
			return string(kind)
		})
		for state := range block {
			if block[state] != finer[state] {
				block = finer
				continue refine
			}
		}
		return joined(m, block)
	}
}

// numbered returns numbers for so many things, the same ones for those of the same kind, in the order in which the kinds
// are first met.
func numbered[K comparable](size int, kind func(i int) K) []int {
	known := map[K]int{}
	l := make([]int, size)
	for i := range l {
		k := kind(i)
		number, old := known[k]
		if !old {
			number = len(known)
			known[k] = number
		}
		l[i] = number
	}
	return l
}

// joined returns the machine whose states are blocks of states.
func joined(m api.Machine, block []int) api.Machine {
	j := api.Machine{Names: m.Names}
	for state, b := range block {
		if b < len(j.Next) {
			continue
		}
		row := make([]int, len(m.Next[state]))
		for i, next := range m.Next[state] {
			row[i] = block[next]
		}
		j.Next = append(j.Next, row)
		j.Accept = append(j.Accept, m.Accept[state])
	}
	return j
}

// A pair is the states of two machines that have read the same list.
type pair struct{ a, b int }

// difference returns the first one of the shortest lists that one of two machines alone accepts, if there is one.
func difference(a, b api.Machine) ([]string, bool) {
	names := slices.Concat(a.Names, b.Names)
	slices.Sort(names)
	names = slices.Compact(names)
	names = append(names, Other(names))
	lettersA, lettersB := letters(a, names), letters(b, names)
	steps := func(p pair, visit func(by int, next pair)) {
		for i := range names {
			visit(i, pair{a.Next[p.a][lettersA[i]], b.Next[p.b][lettersB[i]]})
		}
	}
	number := func(p pair) int { return p.a*len(b.Next) + p.b }
	differ := func(p pair) bool { return a.Accept[p.a] != b.Accept[p.b] }
	_, way, found := search(pair{}, len(a.Next)*len(b.Next), number, steps, differ)
	var l []string
	for _, i := range way {
		l = append(l, names[i])
	}
	return l, found
}

// letters returns the numbers of the letters of a machine for names.
func letters(m api.Machine, names []string) []int {
	l := make([]int, len(names))
	for i, name := range names {
		l[i] = letter(m, name)
	}
	return l
}
