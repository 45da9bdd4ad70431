package equiv_test

import (
	"math/bits"
	"testing"

	"interlace/api"
	"interlace/equiv"
	"interlace/meaning"
	"interlace/syntax"
)

// holds fails if something is not so.
func holds(t *testing.T, promise, what string, is bool, about ...api.Policy) {
	t.Helper()
	if is {
		return
	}
	for _, x := range about {
		what += "\n" + syntax.PrintPolicy(x)
	}
	t.Fatalf("%s: it is not so: %s", promise, what)
}

// few returns small random policies, of which many give the same.
func few(m maker, n int) []api.Policy {
	var l []api.Policy
	for range n {
		l = append(l, m.fitting(4))
	}
	return l
}

// every asks a question for all pairs of some policies.
func every(t *testing.T, name string, l []api.Policy) [][]bool {
	t.Helper()
	answers := make([][]bool, len(l))
	for i, p := range l {
		for _, q := range l {
			answers[i] = append(answers[i], is(t, name, world(), p, q))
		}
	}
	return answers
}

func TestEqualIsAnEquivalence(t *testing.T) {
	l := few(making(20, world(), 2), 60)
	equal := every(t, "Equal", l)
	same := 0
	for i, p := range l {
		holds(t, "P15.7", "a policy equals itself", equal[i][i], p)
		for j, q := range l {
			holds(t, "P15.7", "what equals another one is equalled by it", equal[i][j] == equal[j][i], p, q)
			for k, r := range l {
				holds(t, "P15.7", "what equals an equal one equals", !equal[i][j] || !equal[j][k] || equal[i][k], p, q, r)
			}
			if i != j && equal[i][j] && !syntax.SamePolicy(p, q) {
				same++
				replace(t, p, q, l[(i+j)%len(l)])
			}
		}
	}
	if same < 50 {
		t.Errorf("P15.7: only %d pairs of different policies are equal", same)
	}
}

// replace checks that two equal policies can replace each other.
func replace(t *testing.T, p, q, r api.Policy) {
	t.Helper()
	for _, x := range [][2]api.Policy{{union(p, r), union(q, r)}, {union(r, p), union(r, q)}, {seq(p, r), seq(q, r)}, {seq(r, p), seq(r, q)}, {star(p), star(q)}} {
		holds(t, "P15.7", "what is made of equal policies is equal", is(t, "Equal", world(), x[0], x[1]), x[0], x[1])
	}
}

func TestIncludesIsAnOrder(t *testing.T) {
	l := few(making(21, world(), 2), 50)
	includes := every(t, "Includes", l)
	proper := 0
	for i, p := range l {
		for j, q := range l {
			both := includes[i][j] && includes[j][i]
			holds(t, "P15.7", "policies that include each other are equal", both == is(t, "Equal", world(), p, q), p, q)
			holds(t, "P15.7", "a union includes its parts", is(t, "Includes", world(), union(p, q), p) && is(t, "Includes", world(), union(p, q), q), p, q)
			if includes[i][j] && !both {
				proper++
			}
			for k, r := range l {
				holds(t, "P15.7", "what includes an including one includes", !includes[i][j] || !includes[j][k] || includes[i][k], p, q, r)
			}
		}
	}
	if proper < 300 {
		t.Errorf("P15.7: only %d pairs of policies include each other one way alone", proper)
	}
}

// The head of an answer false shows it with the meaning of the policies, also in wide fields.
func TestHeadsShowIt(t *testing.T) {
	m := making(22, wide(), 6)
	shown := map[string]int{}
	for range 800 {
		p := m.fitting(8)
		q := pick(m, m.fitting(8), union(p, seq(filter(m.pred(4)), m.fitting(4))))
		given := func(x api.Policy, from ...api.Head) (heads []api.Head) {
			for _, h := range from {
				l, e := meaning.Eval(wide(), x, h, 0)
				if e != api.OK {
					t.Fatal("the meaning has the error", e)
				}
				heads = append(heads, l...)
			}
			return heads
		}
		for _, x := range questions() {
			h, yes, e := x.ask(wide(), p, q, 0)
			if yes || x.name == "Distinct" || x.name == "Single" && e == api.ErrLimit {
				continue
			}
			left, right := given(p, h), given(q, h)
			shows := map[string]bool{
				"Equal": !sameHeads(left, right), "Includes": !among(right, left), "Empty": len(left) > 0, "Total": len(left) == 0, "Single": len(left) > 1,
				"Apart": len(left) > 0 && len(right) > 0, "Slices": len(given(q, left...))+len(given(p, right...)) > 0,
			}
			holds(t, x.promise, "the head shows the answer to "+x.name, shows[x.name], p, q)
			if h != (api.Head{}) {
				shown[x.name]++
			}
		}
	}
	for _, name := range []string{"Equal", "Includes", "Empty", "Total", "Single", "Apart", "Slices"} {
		if shown[name] < 20 {
			t.Errorf("P15.7: only %d heads show an answer to %s", shown[name], name)
		}
	}
}

// among reports whether all elements of a list are in another one.
func among(some, l []api.Head) bool {
	set := map[api.Head]bool{}
	for _, h := range l {
		set[h] = true
	}
	for _, h := range some {
		if !set[h] {
			return false
		}
	}
	return true
}

func sameHeads(a, b []api.Head) bool { return among(a, b) && among(b, a) }

func TestSlicesRunTogether(t *testing.T) {
	m := making(23, world(), 3)
	busy := 0
	for range 2000 {
		x, y := m.value(world()[0]), m.value(world()[0])
		p := all(api.PoSeq, filter(eq("b", x)), m.fitting(5), filter(eq("b", x)))
		q := all(api.PoSeq, filter(eq("b", y)), m.fitting(5), m.fitting(2))
		if !is(t, "Slices", world(), p, q) {
			continue
		}
		together := star(union(p, q))
		holds(t, "P15.8", "slices run together", is(t, "Equal", world(), together, union(star(p), star(q))), p, q)
		if !is(t, "Equal", world(), together, star(p)) && !is(t, "Equal", world(), together, star(q)) {
			busy++
		}
	}
	if busy < 50 {
		t.Errorf("P15.8: only %d pairs of slices both do something", busy)
	}
}

func TestDistinctAndApart(t *testing.T) {
	m := making(24, world(), 3)
	distinct, single := 0, 0
	for range 1500 {
		p, q, test := m.fitting(8), m.fitting(8), m.test()
		switch m.r.IntN(3) {
		case 0:
			p, q = seq(p, filter(test)), seq(q, filter(pred(api.PrNot, test)))
		case 1:
			p, q = seq(filter(test), p), seq(filter(pred(api.PrNot, test)), q)
		}
		holds(t, "P15.9", "a policy is empty exactly if it is apart from itself", is(t, "Empty", world(), p, q) == is(t, "Apart", world(), p, p), p)
		if is(t, "Distinct", world(), p, q) {
			left, right, both := tableOf(t, p, 0), tableOf(t, q, 0), tableOf(t, union(p, q), 0)
			for n := range heads {
				sum := bits.OnesCount32(left[n]) + bits.OnesCount32(right[n])
				holds(t, "P15.9", "distinct policies give as many heads as both do", bits.OnesCount32(both[n]) == sum, p, q)
				if left[n] != 0 && right[n] != 0 {
					distinct++
				}
			}
		}
		if is(t, "Apart", world(), p, q) && is(t, "Single", world(), p, q) && is(t, "Single", world(), q, p) {
			holds(t, "P15.9", "a union of single policies that are apart is single", is(t, "Single", world(), union(p, q), q), p, q)
			if !is(t, "Empty", world(), p, q) && !is(t, "Empty", world(), q, p) {
				single++
			}
		}
	}
	if distinct < 300 || single < 100 {
		t.Errorf("P15.9: only %d heads are given by two distinct policies, and %d pairs are apart and single", distinct, single)
	}
}

// The answer of EqualAlways is that of Equal at the tick, and a frozen policy is always equal to itself.
func TestTicksAgree(t *testing.T) {
	m := making(25, world(), 3)
	for range 300 {
		p, q := m.fitting(8), m.fitting(8)
		at, h, yes, e := equiv.EqualAlways(world(), p, q)
		if g, same, f := equiv.Equal(world(), p, q, at); g != h || same != yes || e != f {
			t.Fatalf("P15.1: %s and %s: %d, %v, %v and %d, but %v, %v and %d", syntax.PrintPolicy(p), syntax.PrintPolicy(q), at, h, yes, e, g, same, f)
		}
		if at, h, yes, e := equiv.EqualAlways(world(), p, p); at != 0 || h != (api.Head{}) || !yes || e != api.OK {
			t.Fatalf("P15.1: %s and itself: %d, %v, %v and %d", syntax.PrintPolicy(p), at, h, yes, e)
		}
	}
}
