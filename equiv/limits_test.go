package equiv_test

import (
	"testing"

	"interlace/api"
	"interlace/equiv"
	"interlace/syntax"
)

// pairs returns a policy that sets, for each of the fields of sixteen from one on up to another one, this field in one of
// some ways, and with it the one that is eight further to a value from a least one on: a diagram remembers for all of these
// fields what was chosen.
func pairs(from, to, ways, least int) api.Policy {
	var l []api.Policy
	for i := from; i < to; i++ {
		var either []api.Policy
		for v := range ways {
			either = append(either, seq(set(letter(i), v), set(letter(i+8), least+v)))
		}
		l = append(l, all(api.PoUnion, either...))
	}
	return all(api.PoSeq, l...)
}

// others returns the filter of the heads in which none of some fields, named by letters, is 1. It needs as many patterns
// as the product of the widths of these fields.
func others(letters string) api.Policy {
	test := pred(api.PrTrue)
	for i, c := range letters {
		more := pred(api.PrNot, eq("f"+string(c), 1))
		if i > 0 {
			more = pred(api.PrAnd, test, more)
		}
		test = more
	}
	return filter(test)
}

// choice returns a policy that sets a field to one of the values from one on up to another one.
func choice(name string, from, to int) api.Policy {
	var l []api.Policy
	for v := from; v < to; v++ {
		l = append(l, set(name, v))
	}
	return all(api.PoUnion, l...)
}

func id() api.Policy { return filter(pred(api.PrTrue)) }

// fails checks that a question returns an error, and zero besides.
func (x question) fails(t *testing.T, l []api.Field, p, q api.Policy, want api.Errno) {
	t.Helper()
	fits(t, l, p)
	fits(t, l, q)
	h, yes, e := x.ask(l, p, q, 0)
	if h != (api.Head{}) || yes || e != want {
		t.Errorf("%s: %s of %s and %s is %v, %v and %d, want the error %d", x.promise, x.name, syntax.PrintPolicy(p), syntax.PrintPolicy(q), h, yes, e, want)
	}
}

func TestFullStores(t *testing.T) {
	full := pairs(0, 8, 5, 1)
	for _, x := range questions() {
		t.Run(x.name, func(t *testing.T) {
			t.Parallel()
			x.fails(t, sixteen(), full, id(), api.ErrFull)
			switch x.name {
			case "Equal", "Includes", "Apart", "Distinct", "Slices":
				x.fails(t, sixteen(), id(), full, api.ErrFull)
			}
		})
	}
	t.Run("EqualAlways", func(t *testing.T) {
		t.Parallel()
		if at, h, yes, e := equiv.EqualAlways(sixteen(), full, seq(full, id())); at != 0 || h != (api.Head{}) || yes || e != api.ErrFull {
			t.Errorf("P15.1: EqualAlways is %d, %v, %v and %d", at, h, yes, e)
		}
	})
	if equiv.Room != 200000 {
		t.Error("P15.1: Room is", equiv.Room)
	}
}

// What is made of two policies fills a store, too.
func TestFullOnTheWay(t *testing.T) {
	for _, x := range questions() {
		t.Run(x.name, func(t *testing.T) {
			t.Parallel()
			half, rest := pairs(0, 4, 5, 1), pairs(4, 8, 5, 1)
			if x.name == "Includes" || x.name == "Slices" {
				x.fails(t, sixteen(), half, rest, api.ErrFull)
			} else {
				x.asked(t, sixteen(), half, rest, 0)
			}
			one := pairs(0, 8, 4, 1)
			switch x.name {
			case "Equal", "Includes":
				x.fails(t, sixteen(), one, pairs(0, 8, 4, 2), api.ErrFull)
			case "Empty", "Total":
				x.asked(t, sixteen(), one, id(), 0)
			}
		})
	}
}

func TestTooManyRules(t *testing.T) {
	most, more := others("abcd"), others("efgh") // 4000 choices and 4004
	once := filter(eq("fa", 1))
	for _, x := range questions() {
		switch x.name {
		case "Single":
			x.fails(t, wide(), more, once, api.ErrLimit)
			if h, yes := x.asked(t, wide(), most, once, 0); h != (api.Head{}) || !yes {
				t.Errorf("P15.3: Single of 4000 choices is %v, %v", h, yes)
			}
		case "Distinct":
			x.fails(t, wide(), more, once, api.ErrLimit)
			x.fails(t, wide(), once, more, api.ErrLimit)
			x.fails(t, wide(), more, filter(pred(api.PrFalse)), api.ErrLimit)
			if h, yes := x.asked(t, wide(), most, once, 0); h != (api.Head{}) || !yes {
				t.Errorf("P15.5: Distinct of 4000 choices is %v, %v", h, yes)
			}
			// a store that is full comes first
			x.fails(t, sixteen(), others("abcdefg"), pairs(0, 8, 5, 1), api.ErrFull)
			x.fails(t, sixteen(), pairs(0, 8, 5, 1), others("abcdefg"), api.ErrFull)
		default:
			x.asked(t, wide(), more, once, 0)
		}
	}
}

// either returns a policy of 15 nodes that sets, for each of four fields from one on, this field or the one that is eight
// further.
func either(first, v, w int) api.Policy {
	var l []api.Policy
	for i := first; i < first+4; i++ {
		l = append(l, union(set(letter(i), v), set(letter(i+8), w)))
	}
	return all(api.PoSeq, l...)
}

// Policies of at most 16 nodes do not fill a store.
func TestRoom(t *testing.T) {
	m := making(10, sixteen(), 8)
	policies := []api.Policy{either(0, 1, 2), either(4, 2, 3), either(4, 1, 1), star(either(2, 3, 3))}
	for range 20 {
		policies = append(policies, m.fitting(16))
	}
	for _, p := range policies {
		for _, q := range policies {
			for _, x := range questions() {
				if h, yes, e := x.ask(sixteen(), p, q, 0); e == api.ErrFull {
					t.Fatalf("%s: %s of %s and %s is %v, %v and %d", x.promise, x.name, syntax.PrintPolicy(p), syntax.PrintPolicy(q), h, yes, e)
				}
			}
		}
	}
}

// Policies that give very many heads: 65536 each, whatever comes in.
func TestManyHeads(t *testing.T) {
	names := []string{"ff", "fa", "fb", "fc"}
	build := func(from [4]int) api.Policy {
		var l []api.Policy
		for i, name := range names {
			l = append(l, choice(name, from[i], from[i]+16))
		}
		return all(api.PoSeq, l...)
	}
	at := func(a, b, c, f int) api.Head { return api.Head{1: a << 6, 2: b << 6, 3: c << 6, 6: f << 2} }
	for _, x := range []struct {
		p, q [4]int
		h    api.Head
		yes  bool
	}{
		{[4]int{}, [4]int{}, at(0, 0, 0, 0), false}, {[4]int{}, [4]int{16, 0, 0, 0}, api.Head{}, true}, {[4]int{0, 0, 0, 20}, [4]int{0, 0, 0, 36}, api.Head{}, true},
		{[4]int{0, 20, 0, 0}, [4]int{0, 4, 0, 0}, api.Head{}, true}, {[4]int{5, 6, 7, 8}, [4]int{20, 0, 9, 23}, at(6, 9, 23, 20), false}, {[4]int{5, 6, 7, 8}, [4]int{20, 0, 9, 24}, api.Head{}, true},
	} {
		p, q := build(x.p), build(x.q)
		fits(t, wide(), p)
		fits(t, wide(), q)
		if h, yes, e := equiv.Distinct(wide(), p, q, 0); h != x.h || yes != x.yes || e != api.OK {
			t.Errorf("P15.5: Distinct of policies from %v and %v is %v, %v and %d, want %v", x.p, x.q, h, yes, e, x.h)
		}
		if h, yes, e := equiv.Single(wide(), p, 0); h != (api.Head{}) || yes || e != api.OK {
			t.Errorf("P15.3: Single of a policy from %v is %v, %v and %d", x.p, h, yes, e)
		}
	}
}
