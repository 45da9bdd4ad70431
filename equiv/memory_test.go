package equiv_test

import (
	"math"
	"slices"
	"testing"

	"interlace/api"
	"interlace/equiv"
	"interlace/syntax"
)

// Arguments stay as they are, and later questions do not depend on earlier ones.
func TestMemory(t *testing.T) {
	m := making(30, world(), 3)
	fields := world()
	for range 100 {
		p, q := m.fitting(8), m.fitting(8)
		source := syntax.PrintPolicy(p) + " and " + syntax.PrintPolicy(q)
		for _, x := range questions() {
			h, yes := x.asked(t, fields, p, q, 3)
			for _, y := range questions() {
				y.asked(t, fields, q, p, 5)
			}
			equiv.EqualAlways(fields, p, q)
			if again, still := x.asked(t, fields, p, q, 3); again != h || still != yes {
				t.Fatalf("%s: %s of %s changes", x.promise, x.name, source)
			}
		}
		if syntax.PrintPolicy(p)+" and "+syntax.PrintPolicy(q) != source || !slices.Equal(fields, world()) {
			t.Fatalf("P15.1: arguments of %s are changed", source)
		}
	}
}

// Arguments for which nothing is specified end the functions, too.
func TestStrange(t *testing.T) {
	policies := []api.Policy{{}, {Kind: -1}, {Kind: api.PoKinds + 1}, policy(api.PoStar), policy(api.PoUnion), policy(api.PoSeq, set("dst", 1)), set("top", 3), set("dst", -1), set("dst", 1<<40), filter(api.Pred{}), filter(pred(api.PrNot)), filter(eq("top", 1)), filter(api.Pred{Kind: api.PrTime, N: 9, M: -9}), filter(api.Pred{Kind: api.PrRange, Field: "dst", N: -7, M: 1 << 40})}
	strange := []api.Field{{Name: "dst", At: 7, Width: 99}, {Name: "top", At: -5, Width: -5}, {Name: "dst", At: 159, Width: 1}, {Name: "dst", At: 20, Width: math.MaxInt}}
	for _, l := range [][]api.Field{given(), strange, nil} {
		for _, p := range policies {
			for _, q := range policies {
				for _, x := range questions() {
					x.ask(l, p, q, math.MinInt)
				}
				equiv.EqualAlways(l, p, q)
			}
		}
	}
}

// Deep policies, as large as the document's bounds allow.
func TestDeep(t *testing.T) {
	x, y := eq("dst", 1), seq(set("dst", 1), filter(pred(api.PrTrue)))
	for range 60000 {
		x, y = pred(api.PrNot, x), star(y)
	}
	for _, q := range questions() {
		q.asked(t, given(), filter(x), y, 0)
		q.asked(t, given(), y, filter(x), 0)
	}
	if _, _, yes, e := equiv.EqualAlways(given(), filter(x), filter(eq("dst", 1))); !yes || e != api.OK {
		t.Errorf("P15.1: EqualAlways of a deep policy is %v and %d", yes, e)
	}
}
