package path_test

import (
	"slices"
	"testing"

	"interlace/api"
	"interlace/path"
	"interlace/syntax"
)

// A law is a pair of expressions that match the same lists, whatever three others are.
type law func(x, y, z api.Regex) (api.Regex, api.Regex)

func laws() map[string]law {
	return map[string]law{
		"or is commutative": func(x, y, z api.Regex) (api.Regex, api.Regex) { return or(x, y), or(y, x) },
		"or is associative": func(x, y, z api.Regex) (api.Regex, api.Regex) { return or(or(x, y), z), or(x, or(y, z)) },
		"or is idempotent":  func(x, y, z api.Regex) (api.Regex, api.Regex) { return or(x, x), x },
		"a sequence is associative": func(x, y, z api.Regex) (api.Regex, api.Regex) {
			return seq(seq(x, y), z), seq(x, seq(y, z))
		},
		"empty comes first": func(x, y, z api.Regex) (api.Regex, api.Regex) { return seq(empty(), x), x },
		"empty comes last":  func(x, y, z api.Regex) (api.Regex, api.Regex) { return seq(x, empty()), x },
		"a sequence distributes from the left": func(x, y, z api.Regex) (api.Regex, api.Regex) {
			return seq(x, or(y, z)), or(seq(x, y), seq(x, z))
		},
		"a sequence distributes from the right": func(x, y, z api.Regex) (api.Regex, api.Regex) {
			return seq(or(x, y), z), or(seq(x, z), seq(y, z))
		},
		"a star begins": func(x, y, z api.Regex) (api.Regex, api.Regex) { return star(x), or(empty(), seq(x, star(x))) },
		"a star ends":   func(x, y, z api.Regex) (api.Regex, api.Regex) { return star(x), or(empty(), seq(star(x), x)) },
		"a star of stars": func(x, y, z api.Regex) (api.Regex, api.Regex) {
			return star(or(x, y)), star(seq(star(x), star(y)))
		},
		"a star slides": func(x, y, z api.Regex) (api.Regex, api.Regex) {
			return seq(star(seq(x, y)), x), seq(x, star(seq(y, x)))
		},
	}
}

func TestLaws(t *testing.T) {
	r := random(20)
	for range 400 {
		x, y, z := some(r, 8, "a", "b"), some(r, 8, "a", "c"), some(r, 8, "b", "c")
		for name, law := range laws() {
			p, q := law(x, y, z)
			l, same, e := path.Equal(p, q)
			if l != nil || !same || e != api.OK {
				t.Fatalf("P16.9: %s, but Equal of %s and %s is %q, %v and error %d", name, syntax.PrintRegex(p), syntax.PrintRegex(q), l, same, e)
			}
			if a, b := built(t, p), built(t, q); !sameMachine(a, b) {
				t.Fatalf("P16.9: %s, but Build of %s and %s is %v and %v", name, syntax.PrintRegex(p), syntax.PrintRegex(q), a, b)
			}
		}
	}
}

// knowing returns a machine that knows more names, with its states numbered as they are found.
func knowing(m api.Machine, names []string) api.Machine {
	wide := api.Machine{Names: names}
	number := map[int]int{0: 0}
	states := []int{0}
	for at := 0; at < len(states); at++ {
		var row []int
		for i := range len(names) + 1 {
			column := len(m.Names)
			if i < len(names) && slices.Contains(m.Names, names[i]) {
				column = slices.Index(m.Names, names[i])
			}
			next := m.Next[states[at]][column]
			if _, known := number[next]; !known {
				number[next] = len(states)
				states = append(states, next)
			}
			row = append(row, number[next])
		}
		wide.Next = append(wide.Next, row)
		wide.Accept = append(wide.Accept, m.Accept[states[at]])
	}
	return wide
}

// Equal decides the same as the least machines do.
func TestEqualMachines(t *testing.T) {
	r := random(21)
	same := 0
	for range 3000 {
		x, y := some(r, 7, "a", "b"), some(r, 7, "b", "c")
		names := namesOf(or(x, y))
		equal := sameMachine(knowing(built(t, x), names), knowing(built(t, y), names))
		l, yes, e := path.Equal(x, y)
		if e != api.OK || yes != equal {
			t.Fatalf("P16.7: Equal of %s and %s is %v and error %d, but the machines %v", syntax.PrintRegex(x), syntax.PrintRegex(y), yes, e, equal)
		}
		if m, n := path.Match(x, l), path.Match(y, l); !yes && m == n {
			t.Fatalf("P16.7: Equal of %s and %s is %q", syntax.PrintRegex(x), syntax.PrintRegex(y), l)
		}
		if back, also, _ := path.Equal(y, x); also != yes || !slices.Equal(back, l) {
			t.Fatalf("P16.7: Equal of %s and %s is %q and %v, the other way around %q and %v", syntax.PrintRegex(x), syntax.PrintRegex(y), l, yes, back, also)
		}
		if yes {
			same++
		}
	}
	if same < 100 {
		t.Errorf("P16.7: only %d expressions are equal", same)
	}
}

// What Find returns holds; more links that are down leave fewer places, and no shorter paths.
func TestFailures(t *testing.T) {
	r := random(22)
	longer, lost := 0, 0
	for range 2000 {
		nodes := 3 + r.IntN(5)
		n := someNetwork(r, nodes, 2*nodes+r.IntN(nodes))
		f := someFailure(r, n)
		x := some(r, 8, "a", "b", "c", "d")
		x = pick(r, x, star(anyone()), seq(star(anyone()), seq(x, star(anyone()))), seq(star(or(x, node("a"))), star(anyone())))
		m := built(t, x)
		from, to := r.IntN(nodes), r.IntN(nodes)
		way, e := path.Find(n, f, m, from, to)
		if e == api.OK && !path.Holds(n, f, x, from, to, way) {
			t.Fatalf("P16.8: Find for %s is %v, which does not hold", syntax.PrintRegex(x), way)
		}
		more := f
		more.Links = slices.Clone(f.Links)
		for i := range n.Links {
			if r.IntN(4) == 0 {
				more.Links = append(more.Links, i)
			}
		}
		slices.Sort(more.Links)
		more.Links = slices.Compact(more.Links)
		all := path.Reached(n, f, m, from)
		for _, p := range path.Reached(n, more, m, from) {
			if !slices.Contains(all, p) {
				t.Fatalf("P16.9: with more links down %v is reached", p)
			}
		}
		rest, d := path.Find(n, more, m, from, to)
		if d == api.OK && (e != api.OK || len(rest) < len(way)) {
			t.Fatalf("P16.9: with more links down Find is %v instead of %v", rest, way)
		}
		switch {
		case d == api.OK && len(rest) > len(way):
			longer++
		case d != e:
			lost++
		}
	}
	if longer < 30 || lost < 30 {
		t.Errorf("P16.9: %d paths become longer, and %d are lost", longer, lost)
	}
}
