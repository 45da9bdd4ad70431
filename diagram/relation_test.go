package diagram_test

import (
	"slices"
	"testing"

	"interlace/api"
	"interlace/bits"
	"interlace/diagram"
	"interlace/meaning"
	"interlace/syntax"
)

// A known thing is the id of a diagram with the matrix of its policy.
type known struct {
	id   int
	what string
	m    *matrix
}

// give checks what a diagram gives, and whether it gives something, for all heads of the world.
func (b bench) give(k known) {
	b.t.Helper()
	for h := range heads {
		got, e := b.Eval(k.id, headOf(h))
		want := k.m[h].set()
		if e != api.OK || !slices.Equal(got, want) {
			b.t.Fatalf("P14.4: %s gives %v and %d for %v, want %v", k.what, got, e, headOf(h), want)
		}
		if b.Gives(k.id, headOf(h)) != (len(want) > 0) {
			b.t.Fatalf("P14.4: Gives of %s for %v is wrong, since it gives %v", k.what, headOf(h), want)
		}
	}
}

// compare checks that ids are equal exactly if the matrices are, and Differ.
func (b bench) compare(j, k known) (equal bool) {
	b.t.Helper()
	h, differ := b.Differ(j.id, k.id)
	want, wantDiffer := j.m.differ(k.m)
	if (j.id == k.id) == wantDiffer {
		b.t.Fatalf("P14.3: %s has the id %d, and %s has %d, but they differ: %v", j.what, j.id, k.what, k.id, wantDiffer)
	}
	if h != want || differ != wantDiffer {
		b.t.Fatalf("P14.5: %s and %s differ for %v, %v, want %v, %v", j.what, k.what, h, differ, want, wantDiffer)
	}
	return j.id == k.id
}

// Policies have the diagrams that their matrices say, whether they were made at once or of their parts.
func TestRandomPolicies(t *testing.T) {
	m := making(2, world(), 4)
	b := benchOf(t, world(), plenty)
	several := 0
	for range 400 {
		x, tick := m.fitting(24), m.tick()
		k := known{b.ok(b.Policy(x, tick)), syntax.PrintPolicy(x), matrixOf(t, x, tick)}
		b.give(k)
		b.compare(k, known{b.built(x, tick), "the same of parts", k.m})
		b.compare(k, known{b.domain(k.id), "its domain", k.m.domain()})
		for h := range heads {
			if len(k.m[h].set()) > 1 {
				several++
				break
			}
		}
	}
	if several < 100 {
		t.Errorf("P14.2: only %d random policies give several heads", several)
	}
}

// built returns the diagram of a policy that is put together of the diagrams of its parts.
func (b bench) built(x api.Policy, tick int) int {
	b.t.Helper()
	arg := func(i int) int { return b.built(x.Args[i], tick) }
	switch x.Kind {
	case api.PoFilter:
		return b.ok(b.Filter(x.Pred, tick))
	case api.PoSet:
		return b.set(x.Field, x.N)
	case api.PoUnion:
		return b.union(arg(0), arg(1))
	case api.PoSeq:
		return b.seq(arg(0), arg(1))
	}
	return b.star(arg(0))
}

// Diagrams that come of each other are equal if and only if they give the same.
func TestRandomCourses(t *testing.T) {
	m := making(3, world(), 4)
	equal, different := 0, 0
	for range 12 {
		b := benchOf(t, world(), plenty)
		var all []known
		for range 60 {
			all = append(all, m.further(b, all))
		}
		for i, k := range all {
			if i%8 == 0 {
				b.give(k)
			}
			for _, j := range all[:i] {
				if b.compare(j, k) {
					equal++
				} else {
					different++
				}
			}
		}
	}
	if equal < 500 || different < 5000 {
		t.Errorf("P14.3: only %d pairs of random diagrams are equal, and %d different", equal, different)
	}
}

// further returns a random diagram, often one of those that are known already.
func (m maker) further(b bench, all []known) known {
	b.t.Helper()
	x, y := m.fitting(3), m.fittingPred(5)
	choices := []known{{b.of(x), syntax.PrintPolicy(x), matrixOf(b.t, x, 0)}, {b.filter(y), "filter " + syntax.PrintPred(y), matrixOfPred(b.t, y, 0)}}
	f := m.field()
	n := m.value(f)
	choices = append(choices, known{b.set(f.Name, n), "a set of " + f.Name, matrixOfSet(b.t, f.Name, n)})
	if len(all) > 0 {
		j, k := pick(m, all...), pick(m, all...)
		choices = append(choices, known{b.union(j.id, k.id), "(" + j.what + " + " + k.what + ")", j.m.union(k.m)},
			known{b.seq(j.id, k.id), "(" + j.what + "; " + k.what + ")", j.m.seq(k.m)},
			known{b.star(k.id), "(" + k.what + ")*", k.m.star()}, known{b.domain(k.id), "domain of (" + k.what + ")", k.m.domain()})
	}
	return pick(m, choices...)
}

// together reports whether there is a head that a pattern matches, and of which two mods make the same.
func together(p api.Pattern, x, y api.Mod) bool {
	for i := range bits.Bits {
		set, other := bits.Bit(x.Mask, i) == 1, bits.Bit(y.Mask, i) == 1
		a, b := bits.Bit(x.Bits, i), bits.Bit(y.Bits, i)
		fixed := bits.Bit(p.Mask, i) == 1
		n := bits.Bit(p.Bits, i)
		switch {
		case set && other && a != b, set && !other && fixed && a != n, !set && other && fixed && b != n:
			return false
		}
	}
	return true
}

func TestTogether(t *testing.T) {
	first := func(mask, bits int) api.Mod { return api.Mod{Mask: api.Head{mask}, Bits: api.Head{bits}} }
	for i, x := range []struct {
		p    api.Mod
		m, n api.Mod
		want bool
	}{{first(0, 0), first(1, 1), first(1, 1), true}, {first(0, 0), first(1, 1), first(1, 0), false}, {first(0, 0), first(1, 1), first(0, 0), true}, {first(1, 1), first(1, 1), first(0, 0), true}, {first(1, 0), first(1, 1), first(0, 0), false}, {first(1, 1), first(0, 0), first(1, 0), false}, {first(0, 0), first(1, 1), first(2, 2), true}} {
		if together(api.Pattern(x.p), x.m, x.n) != x.want {
			t.Error(i)
		}
	}
}

// formed checks what P14.6 says of choices, whatever heads they are about.
func formed(t *testing.T, what string, l []api.Choice) {
	t.Helper()
	if len(l) > api.MaxRules {
		t.Fatalf("P14.6: %s has %d choices", what, len(l))
	}
	for i, c := range l {
		if !bits.Right(c.Match) || len(c.Mods) == 0 {
			t.Fatalf("P14.6: %s has the choice %v", what, c)
		}
		for _, d := range l[:i] {
			if bits.Overlap(c.Match, d.Match) {
				t.Fatalf("P14.6: %s has %v and %v, which overlap", what, c, d)
			}
		}
		for j, m := range c.Mods {
			if !bits.RightMod(m) || j > 0 && bits.Compare(api.Pattern(c.Mods[j-1]), api.Pattern(m)) >= 0 {
				t.Fatalf("P14.6: %s has the choice %v", what, c)
			}
			for _, n := range c.Mods[:j] {
				if together(c.Match, m, n) {
					t.Fatalf("P14.6: %s has the choice %v, of which two mods make the same of a head", what, c)
				}
			}
		}
	}
}

// chosen returns what choices give for a head.
func chosen(l []api.Choice, h api.Head) []api.Head {
	var all []api.Head
	for _, c := range l {
		if bits.Match(c.Match, h) {
			for _, m := range c.Mods {
				all = append(all, bits.Apply(m, h))
			}
		}
	}
	slices.SortFunc(all, bits.CompareHeads)
	return all
}

func TestRandomRules(t *testing.T) {
	m := making(4, world(), 4)
	b := benchOf(t, world(), plenty)
	several := 0
	for range 400 {
		x := m.fitting(20)
		id, nodes := b.of(x), b.Len()
		whole, what := matrixOf(t, x, 0), syntax.PrintPolicy(x)
		l, e := b.Rules(id)
		if e != api.OK {
			t.Fatalf("P14.6: Rules of %s returns %d", what, e)
		}
		formed(t, what, l)
		for h := range heads {
			if got, want := chosen(l, headOf(h)), whole[h].set(); !slices.Equal(got, want) {
				t.Fatalf("P14.6: the choices of %s give %v for %v, want %v: %v", what, got, headOf(h), want, l)
			}
		}
		if b.Len() != nodes {
			t.Fatalf("P14.6: Rules of %s makes nodes", what)
		}
		if len(l) > 1 {
			several++
		}
	}
	if several < 150 {
		t.Errorf("P14.6: only %d random policies have several choices", several)
	}
}

// Wide fields, and heads with bits of no field.
func TestWideFields(t *testing.T) {
	m := making(5, many(), 7)
	b := benchOf(t, many(), plenty)
	given := 0
	for range 700 {
		x, tick := m.fitting(16), m.tick()
		id, what := b.ok(b.Policy(x, tick)), syntax.PrintPolicy(x)
		l, e := b.Rules(id)
		if e == api.OK && len(l) < 300 {
			formed(t, what, l)
		}
		for range 20 {
			h := m.head()
			want, limit := meaning.Eval(many(), x, h, tick)
			if limit != api.OK {
				continue
			}
			got, f := b.Eval(id, h)
			if f != api.OK || !slices.Equal(got, want) || b.Gives(id, h) != (len(want) > 0) {
				t.Fatalf("P14.4: %s gives %v and %d for %v, want %v", what, got, f, h, want)
			}
			if e == api.OK && !slices.Equal(chosen(l, h), want) {
				t.Fatalf("P14.6: the choices of %s give %v for %v, want %v", what, chosen(l, h), h, want)
			}
			given += len(want)
		}
	}
	if given < 10000 {
		t.Errorf("P14.4: random policies give only %d heads", given)
	}
}

// The head for which diagrams with wide fields differ shows it, and no lesser head that is tried does.
func TestWideDifferences(t *testing.T) {
	m := making(6, many(), 5)
	b := benchOf(t, many(), plenty)
	found := 0
	for range 2000 {
		x := m.fitting(10)
		y := policy(api.PoUnion, x, policy(api.PoSeq, filter(m.fittingPred(6)), m.fitting(6)))
		differs := func(h api.Head) bool {
			p, e := meaning.Eval(many(), x, h, 0)
			q, f := meaning.Eval(many(), y, h, 0)
			return e == api.OK && f == api.OK && !slices.Equal(p, q)
		}
		h, differ := b.Differ(b.of(x), b.of(y))
		if differ != (b.of(x) != b.of(y)) || differ && !differs(h) && b.few(y, h) || !differ && h != (api.Head{}) {
			t.Fatalf("P14.5: %s and %s differ for %v, %v", syntax.PrintPolicy(x), syntax.PrintPolicy(y), h, differ)
		}
		for range 20 {
			if g := m.head(); (!differ || bits.CompareHeads(g, h) < 0) && differs(g) {
				t.Fatalf("P14.5: %s and %s differ for %v, but Differ returns %v, %v", syntax.PrintPolicy(x), syntax.PrintPolicy(y), g, h, differ)
			}
		}
		if h != (api.Head{}) {
			found++
		}
	}
	if found < 300 {
		t.Errorf("P14.5: only %d random policies differ for a head but the zero head", found)
	}
}

// few reports whether a policy gives few enough heads for layer 13.
func (b bench) few(x api.Policy, h api.Head) bool {
	_, e := meaning.Eval(b.fields, x, h, 0)
	return e == api.OK
}

// Two stores to which the same is done are alike.
func TestSameCourse(t *testing.T) {
	course := func() (l []int) {
		m := making(7, many(), 9)
		s := diagram.New(many(), 500)
		for range 200 {
			id, e := s.Policy(m.fitting(12), m.tick())
			l = append(l, id, int(e), s.Len())
		}
		return l
	}
	if !slices.Equal(course(), course()) {
		t.Error("P14.2: two stores with the same course have other ids")
	}
}
