package diagram_test

import (
	"testing"

	"interlace/api"
	"interlace/syntax"
	"interlace/typing"
)

// A law says that two diagrams are equal.
type law struct {
	name string
	a, b int
}

func (b bench) hold(promise string, about []api.Policy, l []law) {
	b.t.Helper()
	for _, x := range l {
		if x.a != x.b {
			what := ""
			for _, y := range about {
				what += "\n" + syntax.PrintPolicy(y)
			}
			b.t.Fatalf("%s: %s: the ids %d and %d, for%s", promise, x.name, x.a, x.b, what)
		}
	}
}

func TestKleeneAlgebra(t *testing.T) {
	m := making(10, many(), 6)
	b := benchOf(t, many(), plenty)
	id, drop := b.id(), b.drop()
	for range 800 {
		about := []api.Policy{m.fitting(9), m.fitting(9), m.fitting(9)}
		p, q, r := b.of(about[0]), b.of(about[1]), b.of(about[2])
		b.hold("P14.8", about, []law{
			{"the grouping of a union", b.union(p, b.union(q, r)), b.union(b.union(p, q), r)},
			{"the grouping of a sequence", b.seq(p, b.seq(q, r)), b.seq(b.seq(p, q), r)},
			{"the order of a union", b.union(p, q), b.union(q, p)},
			{"twice the same", b.union(p, p), p},
			{"a union on the left", b.seq(b.union(p, q), r), b.union(b.seq(p, r), b.seq(q, r))},
			{"a union on the right", b.seq(p, b.union(q, r)), b.union(b.seq(p, q), b.seq(p, r))},
			{"the unit on the left", b.seq(id, p), p}, {"the unit on the right", b.seq(p, id), p},
			{"nothing in a union", b.union(p, drop), p},
			{"the zero on the left", b.seq(drop, p), drop}, {"the zero on the right", b.seq(p, drop), drop},
			{"a star and its first step", b.star(p), b.union(id, b.seq(p, b.star(p)))},
			{"a star and its last step", b.star(p), b.union(id, b.seq(b.star(p), p))},
			{"the star of a star", b.star(b.star(p)), b.star(p)},
			{"the star of a union", b.star(b.union(p, q)), b.seq(b.star(p), b.star(b.seq(q, b.star(p))))},
			{"a star that slides", b.seq(p, b.star(b.seq(q, p))), b.seq(b.star(b.seq(p, q)), p)},
			{"a domain", b.seq(b.domain(p), p), p},
			{"the domain of a sequence", b.domain(b.seq(p, q)), b.domain(b.seq(p, b.domain(q)))},
			{"the domain of a union", b.domain(b.union(p, q)), b.union(b.domain(p), b.domain(q))},
		})
	}
}

// If b is contained in c, and c after a is, too, so is b after the star of a.
func TestLeastStar(t *testing.T) {
	m := making(11, many(), 4)
	b := benchOf(t, many(), plenty)
	proper, other := 0, 0
	for range 3000 {
		x, y, z := m.fitting(8), m.fitting(6), m.fitting(8)
		p, q, r := b.of(x), b.of(y), b.of(z)
		if m.r.IntN(2) == 0 { // a solution, but not always the least one
			r = b.seq(b.star(b.union(p, b.seq(p, r))), b.union(q, r))
		}
		if !b.contained(b.union(q, b.seq(p, r)), r) {
			other++
			continue
		}
		least := b.seq(b.star(p), q)
		if !b.contained(least, r) {
			t.Fatalf("P14.8: the star of %s and then %s is not contained in a solution", syntax.PrintPolicy(x), syntax.PrintPolicy(y))
		}
		if least != r {
			proper++
		}
	}
	if proper < 200 || other < 200 {
		t.Errorf("P14.8: only %d random solutions are not the least ones, and %d are none", proper, other)
	}
}

func TestBooleanAlgebra(t *testing.T) {
	m := making(12, many(), 300)
	b := benchOf(t, many(), plenty)
	id, drop := b.id(), b.drop()
	for range 800 {
		x, y := m.fittingPred(12), m.fittingPred(12)
		about := []api.Policy{filter(x), filter(y)}
		p, q := b.filter(x), b.filter(y)
		no, nor := b.filter(pred(api.PrNot, x)), b.filter(pred(api.PrNot, y))
		b.hold("P14.8", about, []law{
			{"the order of filters", b.seq(p, q), b.seq(q, p)},
			{"a filter twice", b.seq(p, p), p},
			{"a complement together", b.union(p, no), id}, {"a complement at once", b.seq(p, no), drop},
			{"the complement of a complement", b.filter(pred(api.PrNot, pred(api.PrNot, x))), p},
			{"and", b.filter(pred(api.PrAnd, x, y)), b.seq(p, q)}, {"or", b.filter(pred(api.PrOr, x, y)), b.union(p, q)},
			{"not and", b.filter(pred(api.PrNot, pred(api.PrAnd, x, y))), b.union(no, nor)},
			{"not or", b.filter(pred(api.PrNot, pred(api.PrOr, x, y))), b.seq(no, nor)},
			{"the star of a filter", b.star(p), id}, {"the domain of a filter", b.domain(p), p},
			{"a filter of a policy", b.of(filter(x)), p},
		})
	}
}

func TestSets(t *testing.T) {
	m := making(13, many(), 1<<16)
	b := benchOf(t, many(), plenty)
	for range 800 {
		f, g := m.field(), m.field()
		n, k, v := m.value(f), m.value(f), m.value(g)
		about := []api.Policy{set(f.Name, n), set(f.Name, k), set(g.Name, v)}
		laws := []law{
			{"a set twice", b.seq(b.set(f.Name, n), b.set(f.Name, k)), b.set(f.Name, k)},
			{"a set and its test", b.seq(b.set(f.Name, n), b.filter(eq(f.Name, n))), b.set(f.Name, n)},
			{"a test and its set", b.seq(b.filter(eq(f.Name, n)), b.set(f.Name, n)), b.filter(eq(f.Name, n))},
			{"a set of a policy", b.of(set(f.Name, n)), b.set(f.Name, n)},
			{"a set of all values", b.domain(b.set(f.Name, n)), b.id()},
			{"a range and two prefixes", b.filter(between(f.Name, min(n, k), max(n, k))), b.seq(b.filter(pred(api.PrNot, below(f.Name, min(n, k)))), b.filter(below(f.Name, max(n, k)+1)))},
		}
		if f != g {
			laws = append(laws, law{"two sets", b.seq(b.set(f.Name, n), b.set(g.Name, v)), b.seq(b.set(g.Name, v), b.set(f.Name, n))},
				law{"a set and a test of another field", b.seq(b.set(f.Name, n), b.filter(eq(g.Name, v))), b.seq(b.filter(eq(g.Name, v)), b.set(f.Name, n))})
		}
		if n != k {
			laws = append(laws, law{"a set and another test", b.seq(b.set(f.Name, n), b.filter(eq(f.Name, k))), b.drop()})
		}
		b.hold("P14.9", about, laws)
	}
}

// below returns the predicate of the values less than one, as a PrOr of prefixes.
func below(name string, n int) api.Pred {
	width := 16
	for _, f := range many() {
		if f.Name == name {
			width = f.Width
		}
	}
	if n == 1<<width {
		return pred(api.PrTrue)
	}
	x := pred(api.PrFalse)
	for i := range width {
		if bit := 1 << i; n&bit != 0 {
			x = pred(api.PrOr, x, prefix(name, n&^(2*bit-1), width-i))
		}
	}
	return x
}

// A policy has the same diagram at all ticks between two boundaries, and as it is frozen.
func TestTimes(t *testing.T) {
	m := making(14, many(), 5)
	b := benchOf(t, many(), plenty)
	several := 0
	for range 500 {
		x := policy(api.PoUnion, m.fitting(12), policy(api.PoSeq, filter(window(3, 3+1+m.r.IntN(20))), m.fitting(5)))
		ids := map[int]bool{}
		for _, tick := range []int{0, 2, 3, m.tick(), m.tick(), maxTick - 1, maxTick} {
			id := b.ok(b.Policy(x, tick))
			if frozen := b.of(typing.Freeze(x, tick)); frozen != id {
				t.Fatalf("P14.2: %s has the id %d at %d, but %d when it is frozen", syntax.PrintPolicy(x), id, tick, frozen)
			}
			ids[id] = true
		}
		if len(ids) > 1 {
			several++
		}
	}
	if several < 200 {
		t.Errorf("P14.2: only %d random policies change with the time", several)
	}
}
