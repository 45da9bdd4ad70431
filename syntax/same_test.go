package syntax_test

import (
	"fmt"
	"testing"

	"interlace/api"
	"interlace/syntax"
)

// checkSame compares random things with changed ones; as texts, lists without elements are alike.
func checkSame[T any](t *testing.T, seed uint64, f family[T], spoil func(maker, *T)) {
	t.Helper()
	m := maker{random(seed)}
	different := 0
	for range 8000 {
		x := f.make(m, 1+m.r.IntN(pick(m, 3, 10, 30)))
		y := x
		for range m.r.IntN(3) {
			spoil(m, &y)
		}
		want := fmt.Sprintf("%+v", x) == fmt.Sprintf("%+v", y)
		if f.same(x, y) != want || f.same(y, x) != want {
			t.Fatalf("P11.1: the two of the kind %s %+v and %+v are the same: %v", f.name, x, y, !want)
		}
		if !f.same(x, x) || !f.same(y, y) {
			t.Fatalf("P11.1: %+v or %+v is not the same as itself", x, y)
		}
		if !want {
			different++
		}
	}
	if different < 2000 || different > 7500 {
		t.Errorf("P11.1: %d random things of the kind %s are different", different, f.name)
	}
}

func TestSame(t *testing.T) {
	checkSame(t, 11, preds(), maker.spoil)
	checkSame(t, 12, policies(), maker.spoilPolicy)
	checkSame(t, 13, regexes(), maker.spoilRegex)
	checkSame(t, 14, stages(), func(m maker, x *api.Stage) { m.spoilPolicy(&x.Policy) })
	checkSame(t, 15, stages(), func(m maker, x *api.Stage) { m.spoilStep(&x.Step) })
}

func TestSameLists(t *testing.T) {
	none, empty := api.Pred{Kind: 1}, api.Pred{Kind: 1, Args: []api.Pred{}}
	if !syntax.SamePred(none, empty) || !syntax.SamePred(not(empty), not(none)) {
		t.Error("P11.1: predicates with different lists without elements are not the same")
	}
	if !syntax.SamePolicy(api.Policy{Pred: none}, api.Policy{Pred: empty, Args: []api.Policy{}}) {
		t.Error("P11.1: policies with different lists without elements are not the same")
	}
	if !syntax.SameRegex(api.Regex{}, api.Regex{Args: []api.Regex{}}) || syntax.SameRegex(node("a"), node("b")) {
		t.Error("P11.1: SameRegex")
	}
	one := api.Program{{Policy: id(), Step: api.Step{Key: []string{}}}}
	if !syntax.SameProgram(nil, api.Program{}) || !syntax.SameProgram(one, api.Program{{Policy: id()}}) {
		t.Error("P11.1: programs with different lists without elements are not the same")
	}
	two := api.Program{one[0], {Policy: drop()}}
	if syntax.SameProgram(one, two) || syntax.SameProgram(two, one) || syntax.SameProgram(nil, one) || syntax.SameProgram(two, api.Program{two[1], two[0]}) {
		t.Error("P11.1: programs with other stages are the same")
	}
	if syntax.SamePred(and(eq("a", 1), eq("b", 1)), and(eq("b", 1), eq("a", 1))) || syntax.SamePred(pred(1), pred(1, none)) || syntax.SamePred(pred(1, none), pred(1)) {
		t.Error("P11.1: predicates with other Args are the same")
	}
	deep := func() api.Policy { return chained(60000, id(), star) }
	if !syntax.SamePolicy(deep(), deep()) || syntax.SamePolicy(deep(), star(deep())) {
		t.Error("P11.1: deep policies")
	}
}
