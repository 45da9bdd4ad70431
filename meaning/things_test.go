package meaning_test

import (
	"math/rand/v2"
	"slices"
	"testing"

	"interlace/api"
	"interlace/field"
	"interlace/syntax"
	"interlace/typing"
)

const maxTick = 1 << 30

func eq(name string, n int) api.Pred { return api.Pred{Kind: api.PrEq, Field: name, N: n} }

func prefix(name string, n, m int) api.Pred {
	return api.Pred{Kind: api.PrPrefix, Field: name, N: n, M: m}
}

func between(name string, n, m int) api.Pred {
	return api.Pred{Kind: api.PrRange, Field: name, N: n, M: m}
}

func window(n, m int) api.Pred { return api.Pred{Kind: api.PrTime, N: n, M: m} }

func pred(kind int, args ...api.Pred) api.Pred { return api.Pred{Kind: kind, Args: args} }

func not(x api.Pred) api.Pred { return pred(api.PrNot, x) }

func and(a, b api.Pred) api.Pred { return pred(api.PrAnd, a, b) }

func or(a, b api.Pred) api.Pred { return pred(api.PrOr, a, b) }

func filter(x api.Pred) api.Policy { return api.Policy{Kind: api.PoFilter, Pred: x} }

func id() api.Policy { return filter(pred(api.PrTrue)) }

func drop() api.Policy { return filter(pred(api.PrFalse)) }

func set(name string, n int) api.Policy { return api.Policy{Kind: api.PoSet, Field: name, N: n} }

func policy(kind int, args ...api.Policy) api.Policy { return api.Policy{Kind: kind, Args: args} }

func union(a, b api.Policy) api.Policy { return policy(api.PoUnion, a, b) }

func seq(a, b api.Policy) api.Policy { return policy(api.PoSeq, a, b) }

func star(x api.Policy) api.Policy { return policy(api.PoStar, x) }

// chained returns a thing to which a function is applied n times.
func chained[T any](n int, x T, f func(T) T) T {
	for range n {
		x = f(x)
	}
	return x
}

// given are the fields of the chapter's examples, and example is their head.
func given() []api.Field {
	return []api.Field{{Name: "dst", At: 16, Width: 8}, {Name: "src", At: 24, Width: 8}, {Name: "kind", At: 33, Width: 3}}
}

var example = api.Head{5, 0x1234, 0x7000}

// many are fields of all sorts of widths.
func many() []api.Field {
	return append(given(), api.Field{Name: "whole", At: 48, Width: 16}, api.Field{Name: "bit", At: 143, Width: 1}, api.Field{Name: "tag", At: 66, Width: 3})
}

// sixteen are fields of 8 bits each, with the names fa, fb and so on.
func sixteen() []api.Field {
	var l []api.Field
	for i := range 16 {
		l = append(l, api.Field{Name: letter(i), At: 16 + 8*i, Width: 8})
	}
	return l
}

// letter returns the name of a field of sixteen.
func letter(i int) string { return "f" + string(rune('a'+i)) }

func TestFields(t *testing.T) {
	for _, l := range [][]api.Field{given(), many(), sixteen(), world()} {
		if field.Check(l) != api.OK {
			t.Fatal("the fields of these tests are not right")
		}
	}
}

// valueOf returns the value of a field of a list, which must have it.
func valueOf(l []api.Field, name string, h api.Head) int {
	f, known := field.Find(l, name)
	if !known {
		panic("there is no field " + name)
	}
	return field.Get(f, h)
}

// with returns a head with a value of a field of a list.
func with(l []api.Field, h api.Head, name string, n int) api.Head {
	f, _ := field.Find(l, name)
	return field.Set(f, h, n)
}

// parsed returns the policy with a source, which must fit the fields.
func parsed(t *testing.T, l []api.Field, source string) api.Policy {
	t.Helper()
	x, problem := syntax.ParsePolicy(source)
	if problem.E != api.OK {
		t.Fatalf("%q has the problem %v", source, problem)
	}
	if e := typing.Policy(l, x); e != api.OK {
		t.Fatalf("%q does not fit: %d", source, e)
	}
	return x
}

func parsedPred(t *testing.T, l []api.Field, source string) api.Pred {
	t.Helper()
	x, problem := syntax.ParsePred(source)
	if problem.E != api.OK {
		t.Fatalf("%q has the problem %v", source, problem)
	}
	if e := typing.Pred(l, x); e != api.OK {
		t.Fatalf("%q does not fit: %d", source, e)
	}
	return x
}

// A maker makes random things that fit some fields. Values are below most, too.
type maker struct {
	r      *rand.Rand
	fields []api.Field
	most   int
}

func making(seed uint64, fields []api.Field, most int) maker {
	return maker{rand.New(rand.NewPCG(seed, 13)), fields, most}
}

func pick[T any](m maker, l ...T) T { return l[m.r.IntN(len(l))] }

// field returns the port or a field of the list.
func (m maker) field() api.Field {
	name := "port"
	if len(m.fields) > 0 && m.r.IntN(5) > 0 {
		name = pick(m, m.fields...).Name
	}
	f, _ := field.Find(m.fields, name)
	return f
}

// value returns a value of a field, often the least or the greatest one.
func (m maker) value(f api.Field) int {
	greatest := min(m.most-1, field.Max(f))
	return pick(m, 0, greatest, m.r.IntN(greatest+1), m.r.IntN(greatest+1))
}

func (m maker) test() api.Pred {
	f := m.field()
	n, k, tick := m.value(f), m.value(f), m.r.IntN(20)
	return pick(m, pred(api.PrTrue), pred(api.PrFalse), eq(f.Name, n), eq(f.Name, n), prefix(f.Name, n, m.r.IntN(f.Width+1)),
		between(f.Name, min(n, k), max(n, k)), window(tick, tick+1+m.r.IntN(9)))
}

func (m maker) pred(nodes int) api.Pred {
	switch {
	case nodes > 2 && m.r.IntN(4) > 0:
		left := 1 + m.r.IntN(nodes-2)
		return pred(pick(m, api.PrAnd, api.PrOr), m.pred(left), m.pred(nodes-1-left))
	case nodes > 1 && m.r.IntN(2) > 0:
		return not(m.pred(nodes - 1))
	}
	return m.test()
}

func (m maker) policy(nodes int) api.Policy {
	switch {
	case nodes > 2 && m.r.IntN(5) > 0:
		left := 1 + m.r.IntN(nodes-2)
		return policy(pick(m, api.PoUnion, api.PoSeq), m.policy(left), m.policy(nodes-1-left))
	case nodes > 1 && m.r.IntN(4) == 0:
		return star(m.policy(nodes - 1))
	case m.r.IntN(2) > 0:
		f := m.field()
		return set(f.Name, m.value(f))
	}
	return filter(m.pred(min(4, max(1, nodes-1))))
}

// fitting returns a random policy of at most so many nodes that typing accepts.
func (m maker) fitting(nodes int) api.Policy {
	for {
		if x := m.policy(1 + m.r.IntN(nodes)); typing.Policy(m.fields, x) == api.OK {
			return x
		}
	}
}

func (m maker) fittingPred(nodes int) api.Pred {
	for {
		if x := m.pred(1 + m.r.IntN(nodes)); typing.Pred(m.fields, x) == api.OK {
			return x
		}
	}
}

// head returns a random head, with such values of the port and of the fields as policies have.
func (m maker) head() api.Head {
	var h api.Head
	for w := range h {
		h[w] = m.r.IntN(1 << 16)
	}
	port, _ := field.Find(m.fields, "port")
	for _, f := range append(slices.Clone(m.fields), port) {
		h = field.Set(f, h, m.value(f))
	}
	return h
}

func (m maker) tick() int { return pick(m, 0, m.r.IntN(30), m.r.IntN(30), m.r.IntN(30), maxTick) }
