package diagram_test

import (
	"math/rand/v2"
	"slices"
	"testing"

	"interlace/api"
	"interlace/bits"
	"interlace/diagram"
	"interlace/field"
	"interlace/syntax"
	"interlace/typing"
)

const (
	maxTick = 1 << 30
	plenty  = 200000 // nodes
)

func pred(kind int, args ...api.Pred) api.Pred { return api.Pred{Kind: kind, Args: args} }

func eq(name string, n int) api.Pred { return api.Pred{Kind: api.PrEq, Field: name, N: n} }

func prefix(name string, n, m int) api.Pred {
	return api.Pred{Kind: api.PrPrefix, Field: name, N: n, M: m}
}

func between(name string, n, m int) api.Pred {
	return api.Pred{Kind: api.PrRange, Field: name, N: n, M: m}
}

func window(n, m int) api.Pred { return api.Pred{Kind: api.PrTime, N: n, M: m} }

func filter(x api.Pred) api.Policy { return api.Policy{Kind: api.PoFilter, Pred: x} }

func set(name string, n int) api.Policy { return api.Policy{Kind: api.PoSet, Field: name, N: n} }

func policy(kind int, args ...api.Policy) api.Policy { return api.Policy{Kind: kind, Args: args} }

// given are the fields of the chapter's examples.
func given() []api.Field {
	return []api.Field{{Name: "dst", At: 16, Width: 8}, {Name: "src", At: 24, Width: 8}, {Name: "kind", At: 33, Width: 3}}
}

// many are fields of all sorts of widths, not in the order of their bits.
func many() []api.Field {
	return append(given(), api.Field{Name: "bit", At: 143, Width: 1}, api.Field{Name: "whole", At: 48, Width: 16}, api.Field{Name: "tag", At: 66, Width: 3})
}

// sixteen are fields of 60 bits together, with the names fa, fb and so on.
func sixteen() []api.Field {
	var l []api.Field
	for i := range 16 {
		l = append(l, api.Field{Name: letter(i), At: 16 + 8*i, Width: 3 + min(1, i%4)})
	}
	return l
}

// letter returns the name of a field of sixteen.
func letter(i int) string { return "f" + string(rune('a'+i)) }

func TestFields(t *testing.T) {
	for _, l := range [][]api.Field{given(), many(), sixteen(), middle(), wide(), world()} {
		if field.Check(l) != api.OK {
			t.Fatal("the fields of these tests are not right")
		}
	}
	for _, l := range [][]api.Field{sixteen(), middle()} {
		width := 0
		for _, f := range l {
			width += f.Width
		}
		if width != 60 {
			t.Fatalf("the fields have %d bits", width)
		}
	}
}

// with returns a head with a value of a field of a list.
func with(l []api.Field, h api.Head, name string, n int) api.Head {
	f, _ := field.Find(l, name)
	return field.Set(f, h, n)
}

// parsed returns the policy with a source, which must fit the fields.
func parsed(t *testing.T, l []api.Field, source string) api.Policy {
	t.Helper()
	x, problem := syntax.ParsePolicy(source)
	if problem.E != api.OK {
		t.Fatalf("%q has the problem %v", source, problem)
	}
	if e := typing.Policy(l, x); e != api.OK {
		t.Fatalf("%q does not fit: %d", source, e)
	}
	return x
}

// A bench is a store in a test, with its fields. Its methods fail if the store returns an error.
type bench struct {
	*diagram.Store
	t      *testing.T
	fields []api.Field
}

func benchOf(t *testing.T, l []api.Field, most int) bench {
	t.Helper()
	s := diagram.New(l, most)
	if s == nil || s.Len() != 0 {
		t.Fatal("P14.1: a new store has nodes")
	}
	return bench{s, t, l}
}

func (b bench) ok(a int, e api.Errno) int {
	b.t.Helper()
	if e != api.OK {
		b.t.Fatalf("P14.2: the error is %d, with %d nodes", e, b.Len())
	}
	return a
}

// of returns the diagram of a policy at the tick 0.
func (b bench) of(x api.Policy) int { b.t.Helper(); return b.ok(b.Policy(x, 0)) }

func (b bench) parsed(source string) int { b.t.Helper(); return b.of(parsed(b.t, b.fields, source)) }

func (b bench) union(x, y int) int { b.t.Helper(); return b.ok(b.Union(x, y)) }

func (b bench) seq(x, y int) int { b.t.Helper(); return b.ok(b.Seq(x, y)) }

func (b bench) star(x int) int { b.t.Helper(); return b.ok(b.Star(x)) }

func (b bench) filter(x api.Pred) int { b.t.Helper(); return b.ok(b.Filter(x, 0)) }

func (b bench) set(name string, n int) int { b.t.Helper(); return b.ok(b.Set(name, n)) }

func (b bench) domain(x int) int { b.t.Helper(); return b.ok(b.Domain(x)) }

// id and drop are the filters of PrTrue and PrFalse.
func (b bench) id() int { b.t.Helper(); return b.filter(pred(api.PrTrue)) }

func (b bench) drop() int { b.t.Helper(); return b.filter(pred(api.PrFalse)) }

// contained reports whether x gives nothing that y does not give.
func (b bench) contained(x, y int) bool { b.t.Helper(); return b.union(x, y) == y }

// A maker makes random things that fit some fields. Values are below most, too.
type maker struct {
	r      *rand.Rand
	fields []api.Field
	most   int
}

func making(seed uint64, fields []api.Field, most int) maker {
	return maker{rand.New(rand.NewPCG(seed, 14)), fields, most}
}

func pick[T any](m maker, l ...T) T { return l[m.r.IntN(len(l))] }

// field returns the port or a field of the list.
func (m maker) field() api.Field {
	name := "port"
	if len(m.fields) > 0 && m.r.IntN(5) > 0 {
		name = pick(m, m.fields...).Name
	}
	f, _ := field.Find(m.fields, name)
	return f
}

// value returns a value of a field, often the least or the greatest one.
func (m maker) value(f api.Field) int {
	greatest := min(m.most-1, field.Max(f))
	return pick(m, 0, greatest, m.r.IntN(greatest+1), m.r.IntN(greatest+1))
}

func (m maker) test() api.Pred {
	f := m.field()
	n, k, tick := m.value(f), m.value(f), m.r.IntN(20)
	return pick(m, pred(api.PrTrue), pred(api.PrFalse), eq(f.Name, n), eq(f.Name, n), prefix(f.Name, n, m.r.IntN(f.Width+1)),
		between(f.Name, min(n, k), max(n, k)), window(tick, tick+1+m.r.IntN(9)))
}

func (m maker) pred(nodes int) api.Pred {
	switch {
	case nodes > 2 && m.r.IntN(4) > 0:
		left := 1 + m.r.IntN(nodes-2)
		return pred(pick(m, api.PrAnd, api.PrOr), m.pred(left), m.pred(nodes-1-left))
	case nodes > 1 && m.r.IntN(2) > 0:
		return pred(api.PrNot, m.pred(nodes-1))
	}
	return m.test()
}

func (m maker) policy(nodes int) api.Policy {
	switch {
	case nodes > 2 && m.r.IntN(5) > 0:
		left := 1 + m.r.IntN(nodes-2)
		return policy(pick(m, api.PoUnion, api.PoSeq), m.policy(left), m.policy(nodes-1-left))
	case nodes > 1 && m.r.IntN(4) == 0:
		return policy(api.PoStar, m.policy(nodes-1))
	case nodes == 1 || m.r.IntN(2) > 0:
		f := m.field()
		return set(f.Name, m.value(f))
	}
	return filter(m.pred(min(4, nodes-1)))
}

// fitting returns a random policy of at most so many nodes that typing accepts.
func (m maker) fitting(nodes int) api.Policy {
	for {
		if x := m.policy(1 + m.r.IntN(nodes)); typing.Policy(m.fields, x) == api.OK {
			return x
		}
	}
}

// fittingPred returns a random predicate without times of at most so many nodes that typing accepts.
func (m maker) fittingPred(nodes int) api.Pred {
	for {
		if x := typing.FreezePred(m.pred(1+m.r.IntN(nodes)), m.tick()); typing.Pred(m.fields, x) == api.OK {
			return x
		}
	}
}

// head returns a random head, with such values of the port and of the fields as policies have.
func (m maker) head() api.Head {
	var h api.Head
	for w := range h {
		h[w] = m.r.IntN(1 << 16)
	}
	port, _ := field.Find(m.fields, "port")
	for _, f := range append(slices.Clone(m.fields), port) {
		if m.r.IntN(8) > 0 {
			h = field.Set(f, h, m.value(f))
		}
	}
	return h
}

func (m maker) tick() int { return pick(m, 0, m.r.IntN(30), m.r.IntN(30), m.r.IntN(30), maxTick) }

// isSet reports whether heads are in strictly increasing order.
func isSet(heads []api.Head) bool {
	for i := 1; i < len(heads); i++ {
		if bits.CompareHeads(heads[i-1], heads[i]) >= 0 {
			return false
		}
	}
	return true
}
