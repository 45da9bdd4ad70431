package diagram_test

import (
	"math"
	"slices"
	"testing"

	"interlace/api"
	"interlace/diagram"
	"interlace/syntax"
)

// Results are new memory, and arguments stay as they are.
func TestMemory(t *testing.T) {
	m := making(30, many(), 5)
	fields := many()
	b := benchOf(t, fields, plenty)
	for range 300 {
		x, y, h := m.fitting(12), m.fittingPred(6), m.head()
		source := syntax.PrintPolicy(x) + syntax.PrintPred(y)
		id := b.union(b.of(x), b.filter(y))
		heads, e := b.Eval(id, h)
		want := slices.Clone(heads)
		for i := range heads[:cap(heads)] {
			heads[:cap(heads)][i] = api.Head{-1}
		}
		if again, f := b.Eval(id, h); f != e || !slices.Equal(again, want) {
			t.Fatalf("P14.4: %s gives something else when its heads are changed", source)
		}
		l, e := b.Rules(id)
		chosen := chosen(l, h)
		for i := range l {
			mods := l[i].Mods
			for j := range mods[:cap(mods)] {
				mods[:cap(mods)][j] = api.Mod{Mask: api.Head{-1}}
			}
			l[i] = api.Choice{}
		}
		if again, f := b.Rules(id); f != e || !sameHeads(again, h, chosen) {
			t.Fatalf("P14.6: %s has other choices when those it had are changed", source)
		}
		if syntax.PrintPolicy(x)+syntax.PrintPred(y) != source || !slices.Equal(fields, many()) {
			t.Fatalf("P14.2: arguments of %s are changed", source)
		}
	}
	fields[0] = api.Field{Name: "other", At: 140, Width: 1}
	if id := b.seq(b.set("dst", 5), b.filter(eq("dst", 5))); id != b.set("dst", 5) || b.domain(id) != b.id() {
		t.Error("P14.1: a store changes with the list that it was made of")
	}
}

func sameHeads(l []api.Choice, h api.Head, want []api.Head) bool {
	return slices.Equal(chosen(l, h), want)
}

// Arguments for which nothing is specified end the functions, too.
func TestStrange(t *testing.T) {
	policies := []api.Policy{{}, {Kind: -1}, {Kind: api.PoKinds + 1}, policy(api.PoStar), policy(api.PoUnion), policy(api.PoSeq), policy(api.PoSeq, set("dst", 1)), set("top", 3), set("dst", -1), set("dst", 1<<40), policy(api.PoStar, set("dst", 1), set("dst", 2), set("dst", 3))}
	for _, x := range []api.Pred{{}, {Kind: -1}, {Kind: api.PrKinds + 1}, pred(api.PrNot), pred(api.PrAnd), pred(api.PrOr, eq("dst", 1)), eq("top", 0), eq("dst", -3), prefix("dst", -1, 99), prefix("dst", 1<<40, -99), prefix("top", 3, 5), between("dst", 7, 3), between("dst", -7, 1<<40), between("top", 1, 2), window(9, -9), pred(api.PrTrue, eq("dst", 1), eq("dst", 2), eq("dst", 3))} {
		policies = append(policies, filter(x))
	}
	overlapping := []api.Field{{Name: "dst", At: 16, Width: 8}, {Name: "top", At: 18, Width: 3}, {Name: "dst", At: 8, Width: 16}, {Name: "", At: 150, Width: 10}}
	outside := []api.Field{{Name: "dst", At: 7, Width: 99}, {Name: "top", At: -5, Width: -5}, {Name: "dst", At: 159, Width: 1}, {Name: "top", At: 1 << 40, Width: 3}, {Name: "dst", At: 20, Width: math.MaxInt}}
	for _, l := range [][]api.Field{given(), overlapping, outside, nil} {
		for _, most := range []int{plenty, 5, 0, -1} {
			s := diagram.New(l, most)
			for _, x := range policies {
				id, _ := s.Policy(x, math.MinInt)
				s.Filter(x.Pred, math.MaxInt)
				s.Set(x.Field, x.N)
				for _, a := range []int{id, s.Len(), s.Len() + 1, s.Len() + 2, 2, -1, math.MaxInt, math.MinInt} {
					for _, f := range []func(a, b int) (int, api.Errno){s.Union, s.Seq} {
						f(a, id)
						f(id, a)
					}
					s.Star(a)
					s.Domain(a)
					s.Rules(a)
					s.Differ(a, id)
					for _, h := range []api.Head{{}, {-1, math.MinInt, 1 << 40, 9: math.MaxInt}} {
						s.Eval(a, h)
						s.Gives(a, h)
					}
				}
			}
		}
	}
}

// A number that is no id counts as the diagram that gives nothing, also that of a node that belongs to another one.
func TestNoIds(t *testing.T) {
	b := benchOf(t, given(), plenty)
	id := b.drop()
	for n := range 20 {
		id = b.union(id, b.seq(b.set("dst", n), b.set("src", n)))
	}
	for a := -3; a < b.Len()+5; a++ {
		if got, e := b.Eval(a, api.Head{}); e != api.OK || len(got) > 20 {
			t.Errorf("P14.4: %d gives %d heads and %d", a, len(got), e)
		}
	}
	if got, e := b.Eval(id, api.Head{}); e != api.OK || len(got) != 20 {
		t.Errorf("P14.4: there are %d heads and %d", len(got), e)
	}
}

// Deep policies, as large as the document's bounds allow.
func TestDeep(t *testing.T) {
	b := benchOf(t, given(), plenty)
	x, y := eq("dst", 1), policy(api.PoSeq, set("dst", 1), filter(pred(api.PrTrue)))
	for range 60000 {
		x = pred(api.PrNot, x)
		y = policy(api.PoStar, y)
	}
	if b.filter(x) != b.filter(eq("dst", 1)) || b.of(y) != b.parsed("id + dst := 1") {
		t.Error("P14.2: deep policies")
	}
}
