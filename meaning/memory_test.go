package meaning_test

import (
	"math"
	"slices"
	"strings"
	"testing"

	"interlace/api"
	"interlace/meaning"
	"interlace/syntax"
)

// spoiled returns heads as they were, and then changes them.
func spoiled(heads []api.Head) []api.Head {
	before := slices.Clone(heads)
	for i := range heads {
		heads[i] = api.Head{-1}
	}
	for i := range heads[:cap(heads)] {
		heads[:cap(heads)][i] = api.Head{-1}
	}
	return before
}

// Results are new memory, and arguments stay as they are.
func TestMemory(t *testing.T) {
	m := making(13, many(), 5)
	for range 3000 {
		x, y, h, tick := m.fitting(12), m.fittingPred(12), m.head(), m.tick()
		given := setOf(h, m.head(), m.head())
		before, source, fields := slices.Clone(given), syntax.PrintPolicy(x)+syntax.PrintPred(y), many()
		once, _ := meaning.Eval(fields, x, h, tick)
		want := spoiled(once)
		image, _ := meaning.Image(fields, x, given, tick)
		wantImage := spoiled(image)
		for _, l := range [][]api.Head{meaning.Merge(given, given[:1]), meaning.Merge(given, nil), meaning.Merge(nil, given), meaning.Merge(given, given)} {
			if got := spoiled(l); !slices.Equal(got, given) {
				t.Fatalf("P13.5: Merge of %v is %v", given, got)
			}
		}
		meaning.Holds(fields, y, h, tick)
		meaning.Rounds(fields, x, h, tick)
		meaning.In(given, h)
		again, _ := meaning.Eval(fields, x, h, tick)
		imageAgain, _ := meaning.Image(fields, x, given, tick)
		if !slices.Equal(again, want) || !slices.Equal(imageAgain, wantImage) {
			t.Fatalf("P13.2, P13.3: %q gives something else when its results are changed", source)
		}
		if !slices.Equal(given, before) || !slices.Equal(fields, many()) || syntax.PrintPolicy(x)+syntax.PrintPred(y) != source {
			t.Fatalf("P13.1 to P13.5: arguments of %q are changed", source)
		}
	}
}

// What a part gives for a head is needed once, however many ways lead to this head.
func TestManyWays(t *testing.T) {
	deep := "fa := 9"
	for range 15 {
		deep = "(fa := 1 + fa := 2 + fa := 3 + fa := 4 + fa := 5); (" + deep + ")"
	}
	eight := one("abcdefgh", "1")
	for _, x := range []struct {
		source string
		want   int
	}{
		{deep, 1}, {eight + strings.Repeat("*", 11), 256},
		{"(" + eight + " + " + one("abcdefgh", "0") + ")" + strings.Repeat("*", 9), 256},
		{"(" + eight + "*; " + eight + "*; (" + eight + "*; (" + eight + "*; " + eight + "*)*)*)*", 256},
		{"(" + choices("abc", 5) + "*; fa := 0)*; (" + choices("abc", 5) + "*; fa := 0)*", 26},
	} {
		got, e := meaning.Eval(sixteen(), parsed(t, sixteen(), x.source), api.Head{}, 0)
		if len(got) != x.want || e != api.OK {
			t.Errorf("P13.2: %q gives %d heads and %d, want %d", x.source, len(got), e, x.want)
		}
	}
}

// More is asked than is remembered.
func TestManyHeads(t *testing.T) {
	x := parsed(t, sixteen(), choices("abcd", 4)+"; ("+choices("efgh", 4)+"; ([fa = 1]; ff := 9; "+zeros("abcdegh")+" + "+zeros("abcdefgh")+"))")
	got, e := meaning.Eval(sixteen(), x, api.Head{}, 0)
	if want := setOf(api.Head{}, with(sixteen(), api.Head{}, "ff", 9)); e != api.OK || !slices.Equal(got, want) {
		t.Errorf("P13.2: 65536 heads on the way give %v and %d, want %v", got, e, want)
	}
}

// Arguments for which nothing is specified end the functions, too.
func TestStrange(t *testing.T) {
	policies := []api.Policy{{}, {Kind: -1}, {Kind: api.PoKinds + 1}, policy(api.PoStar), policy(api.PoUnion), policy(api.PoSeq), policy(api.PoUnion, id()), policy(api.PoSeq, id()), star(api.Policy{}), set("top", 3), set("dst", -1), set("dst", 1<<40), policy(api.PoStar, set("dst", 1), set("dst", 2), set("dst", 3))}
	for _, x := range []api.Pred{{}, {Kind: -1}, {Kind: api.PrKinds + 1}, pred(api.PrNot), pred(api.PrAnd), and(pred(api.PrOr), pred(api.PrOr, eq("dst", 1))), eq("top", 0), prefix("dst", -1, 99), prefix("dst", 1<<40, -99), prefix("top", 3, 5), between("dst", 7, 3), window(9, -9), pred(api.PrTrue, eq("dst", 1), eq("dst", 2), eq("dst", 3))} {
		policies = append(policies, filter(x))
	}
	strange := []api.Field{{Name: "dst", At: 7, Width: 99}, {Name: "top", At: -5, Width: -5}}
	for _, l := range [][]api.Field{given(), strange, nil} {
		for _, h := range []api.Head{example, {-1, math.MinInt, 1 << 40, 9: math.MaxInt}} {
			for _, x := range policies {
				meaning.Holds(l, x.Pred, h, math.MinInt)
				meaning.Eval(l, x, h, math.MaxInt)
				meaning.Image(l, x, []api.Head{h, h, {}}, 0)
				meaning.Rounds(l, x, h, -1)
			}
		}
	}
	deep := chained(60000, seq(id(), filter(chained(60000, eq("dst", 18), not))), star)
	if got, e := meaning.Eval(given(), deep, example, 0); e != api.OK || !slices.Equal(got, setOf(example)) {
		t.Errorf("P13.2: a deep policy gives %v and %d", got, e)
	}
	meaning.Merge([]api.Head{{2}, {1}, {2}}, []api.Head{{3}, {1}})
	meaning.In([]api.Head{{2}, {1}, {2}}, api.Head{1})
}
