package equiv_test

import (
	"math/rand/v2"
	"testing"

	"interlace/api"
	"interlace/equiv"
	"interlace/field"
	"interlace/syntax"
	"interlace/typing"
)

const maxTick = 1 << 30

func pred(kind int, args ...api.Pred) api.Pred { return api.Pred{Kind: kind, Args: args} }

func eq(name string, n int) api.Pred { return api.Pred{Kind: api.PrEq, Field: name, N: n} }

func filter(x api.Pred) api.Policy { return api.Policy{Kind: api.PoFilter, Pred: x} }

func set(name string, n int) api.Policy { return api.Policy{Kind: api.PoSet, Field: name, N: n} }

func policy(kind int, args ...api.Policy) api.Policy { return api.Policy{Kind: kind, Args: args} }

func union(p, q api.Policy) api.Policy { return policy(api.PoUnion, p, q) }

func seq(p, q api.Policy) api.Policy { return policy(api.PoSeq, p, q) }

func star(p api.Policy) api.Policy { return policy(api.PoStar, p) }

// all returns a union or sequence of policies.
func all(kind int, l ...api.Policy) api.Policy {
	x := l[0]
	for _, y := range l[1:] {
		x = policy(kind, x, y)
	}
	return x
}

// given are the fields of the chapter's examples.
func given() []api.Field {
	return []api.Field{{Name: "dst", At: 16, Width: 8}, {Name: "src", At: 24, Width: 8}, {Name: "kind", At: 33, Width: 3}}
}

// first returns a head of the chapter's fields.
func first(port, dst, src, kind int) api.Head { return api.Head{port, dst<<8 | src, kind << 12} }

// sixteen are fields of 60 bits together, with the names fa, fb and so on.
func sixteen() []api.Field {
	var l []api.Field
	for i := range 16 {
		l = append(l, api.Field{Name: letter(i), At: 16 + 8*i, Width: 3 + min(1, i%4)})
	}
	return l
}

// wide are fields of 10, 10, 10, 4, 11, 14, 13 and 2 bits, with the names fa, fb and so on.
func wide() []api.Field {
	var l []api.Field
	for i, width := range []int{10, 10, 10, 4, 11, 14, 13, 2} {
		l = append(l, api.Field{Name: letter(i), At: 16 + 16*i, Width: width})
	}
	return l
}

func letter(i int) string { return "f" + string(rune('a'+i)) }

// world are the fields of the world, which are not in the order of their bits.
func world() []api.Field {
	return []api.Field{{Name: "b", At: 64, Width: 2}, {Name: "a", At: 18, Width: 2}, {Name: "c", At: 143, Width: 1}}
}

func TestFields(t *testing.T) {
	for _, l := range [][]api.Field{given(), sixteen(), wide(), world()} {
		if field.Check(l) != api.OK {
			t.Fatal("the fields of these tests are not right")
		}
	}
}

// parsed returns the policy with a source, which must fit the fields.
func parsed(t *testing.T, l []api.Field, source string) api.Policy {
	t.Helper()
	x, problem := syntax.ParsePolicy(source)
	if problem.E != api.OK {
		t.Fatalf("%q has the problem %v", source, problem)
	}
	fits(t, l, x)
	return x
}

func fits(t *testing.T, l []api.Field, x api.Policy) {
	t.Helper()
	if e := typing.Policy(l, x); e != api.OK {
		t.Fatalf("%s does not fit: %d", syntax.PrintPolicy(x), e)
	}
}

// A question is one of the functions for one tick; Single, Empty and Total are asked about the first policy.
type question struct {
	promise, name string
	ask           func(l []api.Field, p, q api.Policy, tick int) (api.Head, bool, api.Errno)
}

func alone(ask func(l []api.Field, p api.Policy, tick int) (api.Head, bool, api.Errno)) func([]api.Field, api.Policy, api.Policy, int) (api.Head, bool, api.Errno) {
	return func(l []api.Field, p, _ api.Policy, tick int) (api.Head, bool, api.Errno) { return ask(l, p, tick) }
}

func questions() []question {
	return []question{
		{"P15.1", "Equal", equiv.Equal}, {"P15.2", "Includes", equiv.Includes}, {"P15.3", "Empty", alone(equiv.Empty)}, {"P15.3", "Total", alone(equiv.Total)},
		{"P15.3", "Single", alone(equiv.Single)}, {"P15.4", "Apart", equiv.Apart}, {"P15.5", "Distinct", equiv.Distinct}, {"P15.6", "Slices", equiv.Slices},
	}
}

// asked returns what a question answers, which must be without an error.
func (x question) asked(t *testing.T, l []api.Field, p, q api.Policy, tick int) (api.Head, bool) {
	t.Helper()
	h, yes, e := x.ask(l, p, q, tick)
	if e != api.OK || yes && h != (api.Head{}) {
		t.Fatalf("%s: %s of %s and %s is %v, %v and %d", x.promise, x.name, syntax.PrintPolicy(p), syntax.PrintPolicy(q), h, yes, e)
	}
	return h, yes
}

// is reports whether a question is answered with true.
func is(t *testing.T, name string, l []api.Field, p, q api.Policy) bool {
	t.Helper()
	for _, x := range questions() {
		if x.name == name {
			_, yes := x.asked(t, l, p, q, 0)
			return yes
		}
	}
	t.Fatal("there is no question", name)
	return false
}

// A maker makes random things that fit some fields.
type maker struct {
	r      *rand.Rand
	fields []api.Field
	most   int // the number of values of a field that are used
}

func making(seed uint64, fields []api.Field, most int) maker {
	return maker{rand.New(rand.NewPCG(seed, 15)), fields, most}
}

func pick[T any](m maker, l ...T) T { return l[m.r.IntN(len(l))] }

func (m maker) value(f api.Field) int { return m.r.IntN(min(m.most, field.Max(f)+1)) }

func (m maker) test() api.Pred {
	f := pick(m, m.fields...)
	n, k := m.value(f), m.value(f)
	return pick(m, pred(api.PrTrue), eq(f.Name, n), eq(f.Name, n), pred(api.PrNot, eq(f.Name, k)),
		api.Pred{Kind: api.PrPrefix, Field: f.Name, N: n, M: m.r.IntN(f.Width + 1)},
		api.Pred{Kind: api.PrRange, Field: f.Name, N: min(n, k), M: max(n, k)}, m.window())
}

// lastTick is the last tick before which all windows end.
const lastTick = 12

func (m maker) window() api.Pred {
	from := m.r.IntN(lastTick)
	return api.Pred{Kind: api.PrTime, N: from, M: from + 1 + m.r.IntN(lastTick-from)}
}

func (m maker) pred(nodes int) api.Pred {
	if nodes < 3 {
		return m.test()
	}
	left := 1 + m.r.IntN(nodes-2)
	return pred(pick(m, api.PrAnd, api.PrOr), m.pred(left), m.pred(nodes-1-left))
}

func (m maker) policy(nodes int) api.Policy {
	switch {
	case nodes > 2 && m.r.IntN(5) > 0:
		left := 1 + m.r.IntN(nodes-2)
		return policy(pick(m, api.PoUnion, api.PoSeq), m.policy(left), m.policy(nodes-1-left))
	case nodes > 1 && m.r.IntN(4) == 0:
		return star(m.policy(nodes - 1))
	case m.r.IntN(2) > 0:
		f := pick(m, m.fields...)
		return set(f.Name, m.value(f))
	}
	return filter(m.pred(min(4, nodes)))
}

// fitting returns a random policy of about at most so many nodes, which fits.
func (m maker) fitting(nodes int) api.Policy {
	for {
		if x := m.policy(1 + m.r.IntN(nodes)); typing.Policy(m.fields, x) == api.OK {
			return x
		}
	}
}

func (m maker) tick() int { return pick(m, 0, m.r.IntN(lastTick), m.r.IntN(lastTick), maxTick) }
