package meaning_test

import (
	"slices"
	"testing"

	"interlace/api"
	"interlace/field"
	"interlace/meaning"
	"interlace/syntax"
	"interlace/typing"
)

// A law says that two policies give the same; strict if one of them is too large exactly if the other one is.
type law struct {
	name   string
	strict bool
	a, b   api.Policy
}

// holds checks a law for a head, and reports whether both policies give something.
func (x law) holds(t *testing.T, promise string, h api.Head, tick int) bool {
	t.Helper()
	a, e := meaning.Eval(many(), x.a, h, tick)
	b, f := meaning.Eval(many(), x.b, h, tick)
	if e == api.OK && f == api.OK && !slices.Equal(a, b) || x.strict && e != f {
		t.Fatalf("%s: %s: %q gives %v and %d for %v, but %q gives %v and %d", promise, x.name, syntax.PrintPolicy(x.a), a, e, h, syntax.PrintPolicy(x.b), b, f)
	}
	return e == api.OK && f == api.OK && len(a) > 0
}

func TestKleeneAlgebra(t *testing.T) {
	m := making(7, many(), 5)
	something := map[string]int{}
	for range 3000 {
		p, q, r := m.fitting(9), m.fitting(9), m.fitting(9)
		for _, x := range []law{
			{"the order of a union", true, union(p, q), union(q, p)},
			{"the grouping of a union", true, union(p, union(q, r)), union(union(p, q), r)},
			{"twice the same", true, union(p, p), p},
			{"nothing in a union", true, union(p, drop()), p},
			{"the grouping of a sequence", false, seq(p, seq(q, r)), seq(seq(p, q), r)},
			{"the unit on the left", true, seq(id(), p), p},
			{"the unit on the right", true, seq(p, id()), p},
			{"the zero on the left", false, seq(drop(), p), drop()},
			{"the zero on the right", false, seq(p, drop()), drop()},
			{"a union on the left", false, seq(union(p, q), r), union(seq(p, r), seq(q, r))},
			{"a union on the right", false, seq(p, union(q, r)), union(seq(p, q), seq(p, r))},
			{"a star and its first step", false, star(p), union(id(), seq(p, star(p)))},
			{"a star and its last step", false, star(p), union(id(), seq(star(p), p))},
			{"the star of a star", true, star(star(p)), star(p)},
			{"the star of a union", false, star(union(p, q)), star(seq(star(p), star(q)))},
		} {
			if x.holds(t, "P13.6", m.head(), m.tick()) {
				something[x.name]++
			}
		}
	}
	for _, name := range []string{"the order of a union", "the grouping of a sequence", "a union on the left", "a star and its first step", "the star of a union"} {
		if something[name] < 500 {
			t.Errorf("P13.6: %s: only %d random policies give something", name, something[name])
		}
	}
}

// The star is in each set that has the head and, with each head, those that the policy gives.
func TestLeastStar(t *testing.T) {
	m := making(8, many(), 5)
	greater := 0
	for range 3000 {
		p, h, tick := m.fitting(12), m.head(), m.tick()
		all, e := meaning.Eval(many(), star(p), h, tick)
		if e != api.OK {
			continue
		}
		next, e := meaning.Image(many(), p, all, tick)
		if e != api.OK || !meaning.In(all, h) || len(meaning.Merge(all, next)) > len(all) {
			t.Fatalf("P13.6: the star of %q gives %v for %v, which gives %v and %d", syntax.PrintPolicy(p), all, h, next, e)
		}
		other, e := meaning.Eval(many(), star(union(p, m.fitting(6))), h, tick)
		if e == api.OK && len(meaning.Merge(all, other)) > len(other) {
			t.Fatalf("P13.6: the star of %q gives %v for %v, but %v is large enough", syntax.PrintPolicy(p), all, h, other)
		}
		if len(other) > len(all) {
			greater++
		}
		// without a head of the star, but the first one, some other head of it leads out of what is left
		for i, g := range all {
			rest := slices.Delete(slices.Clone(all), i, i+1)
			next, _ := meaning.Image(many(), p, rest, tick)
			if g != h && !meaning.In(next, g) {
				t.Fatalf("P13.6: the star of %q for %v has %v, which comes of nothing", syntax.PrintPolicy(p), h, g)
			}
		}
	}
	if greater < 300 {
		t.Errorf("P13.6: only %d random sets are greater than a star", greater)
	}
}

func TestBooleanAlgebra(t *testing.T) {
	m := making(9, many(), 5)
	something := 0
	for range 5000 {
		a, b, c := m.fittingPred(9), m.fittingPred(9), m.fittingPred(9)
		h, tick := m.head(), m.tick()
		for _, x := range []law{
			{"and", true, filter(and(a, b)), seq(filter(a), filter(b))},
			{"or", true, filter(or(a, b)), union(filter(a), filter(b))},
			{"not", true, union(filter(a), filter(not(a))), id()},
			{"not both", true, seq(filter(a), filter(not(a))), drop()},
			{"not of and", true, filter(not(and(a, b))), filter(or(not(a), not(b)))},
			{"not of not", true, filter(not(not(a))), filter(a)},
			{"the order of filters", true, seq(filter(a), filter(b)), seq(filter(b), filter(a))},
			{"and with or", true, filter(and(a, or(b, c))), filter(or(and(a, b), and(a, c)))},
			{"the star of a filter", true, star(filter(a)), id()},
		} {
			if x.holds(t, "P13.7", h, tick) {
				something++
			}
		}
		if meaning.Holds(many(), a, h, tick) == meaning.Holds(many(), not(a), h, tick) {
			t.Fatalf("P13.7: %q and its not for %v at %d", syntax.PrintPred(a), h, tick)
		}
	}
	if something < 15000 {
		t.Errorf("P13.7: only %d random laws are about heads that are given", something)
	}
}

func TestSets(t *testing.T) {
	m := making(10, many(), 1<<16)
	for range 5000 {
		f, g := m.field(), m.field()
		n, k := m.value(f), m.value(f)
		h, tick := m.head(), m.tick()
		laws := []law{
			{"a test after a set", true, seq(set(f.Name, n), filter(eq(f.Name, n))), set(f.Name, n)},
			{"a set after a test", true, seq(filter(eq(f.Name, n)), set(f.Name, n)), filter(eq(f.Name, n))},
			{"two sets", true, seq(set(f.Name, n), set(f.Name, k)), set(f.Name, k)},
			{"a test of a range after a set", true, seq(set(f.Name, n), filter(between(f.Name, min(n, k), max(n, k)))), set(f.Name, n)},
		}
		if n != k {
			laws = append(laws, law{"another test after a set", true, seq(set(f.Name, n), filter(eq(f.Name, k))), drop()})
		}
		if f != g {
			v := m.value(g)
			laws = append(laws, law{"two fields", true, seq(set(f.Name, n), set(g.Name, v)), seq(set(g.Name, v), set(f.Name, n))},
				law{"a test of another field", true, seq(set(f.Name, n), filter(eq(g.Name, v))), seq(filter(eq(g.Name, v)), set(f.Name, n))})
		}
		for _, x := range laws {
			x.holds(t, "P13.7", h, tick)
			x.holds(t, "P13.7", field.Set(f, h, n), tick)
		}
		if got, e := meaning.Eval(many(), set(f.Name, n), h, tick); e != api.OK || !slices.Equal(got, setOf(field.Set(f, h, n))) {
			t.Fatalf("P13.2: %s := %d gives %v and %d for %v", f.Name, n, got, e, h)
		}
	}
}

// apart returns a head in which some bits are those of another one: those of no field that a policy reads or writes.
func apart(x api.Policy, h, other api.Head) api.Head {
	for _, name := range append(typing.Reads(x), typing.Writes(x)...) {
		f, _ := field.Find(many(), name)
		other = field.Set(f, other, field.Get(f, h))
	}
	return other
}

func TestUntouchedBits(t *testing.T) {
	m := making(11, many(), 5)
	moved := 0
	for range 5000 {
		x, h, tick := m.fitting(12), m.head(), m.tick()
		got, e := meaning.Eval(many(), x, h, tick)
		for _, g := range got {
			for _, f := range append(many(), api.Field{Name: "port", Width: 16}) {
				if !slices.Contains(typing.Writes(x), f.Name) && field.Get(f, g) != field.Get(f, h) {
					t.Fatalf("P13.8: %q gives %v for %v, with another %s", syntax.PrintPolicy(x), g, h, f.Name)
				}
			}
			if apart(x, g, h) != g {
				t.Fatalf("P13.8: %q gives %v for %v, with other bits of no field", syntax.PrintPolicy(x), g, h)
			}
		}
		var other api.Head
		for w := range other {
			other[w] = m.r.IntN(1 << 16)
		}
		changed, f := meaning.Eval(many(), x, apart(x, h, other), tick)
		for i, g := range got {
			got[i] = apart(x, g, other)
		}
		if e != f || !slices.Equal(changed, setOf(got...)) {
			t.Fatalf("P13.8: %q gives %v and %d for %v, want %v and %d", syntax.PrintPolicy(x), changed, f, apart(x, h, other), got, e)
		}
		if len(got) > 1 {
			moved++
		}
	}
	if moved < 500 {
		t.Errorf("P13.8: only %d random policies give several heads", moved)
	}
}

func TestTime(t *testing.T) {
	m := making(12, many(), 3)
	same, different := 0, 0
	for range 5000 {
		x, h := union(m.fitting(12), seq(filter(m.fittingPred(5)), m.fitting(5))), m.head()
		program := api.Program{{Policy: x}}
		a := m.r.IntN(30)
		b := a + m.r.IntN(12)
		first, e := meaning.Eval(many(), x, h, a)
		second, f := meaning.Eval(many(), x, h, b)
		equal := e == f && slices.Equal(first, second)
		boundaries := typing.Boundaries(program)
		between := slices.ContainsFunc(boundaries, func(tick int) bool { return a < tick && tick <= b })
		switch {
		case !between && !equal:
			t.Fatalf("P13.8: %q gives %v and %d at %d, but %v and %d at %d", syntax.PrintPolicy(x), first, e, a, second, f, b)
		case !between && len(boundaries) > 0:
			same++
		case !equal:
			different++
		}
		for _, tick := range []int{0, a, b, maxTick} {
			if frozen, g := meaning.Eval(many(), typing.Freeze(x, a), h, tick); g != e || !slices.Equal(frozen, first) {
				t.Fatalf("P13.8: %q gives %v and %d at %d, but %v and %d when frozen, at %d", syntax.PrintPolicy(x), first, e, a, frozen, g, tick)
			}
		}
	}
	if same < 300 || different < 100 {
		t.Errorf("P13.8: only %d random policies are the same at two ticks, and %d different", same, different)
	}
}
