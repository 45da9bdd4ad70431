package typing_test

import (
	"fmt"
	"math/rand/v2"
	"slices"
	"testing"

	"interlace/api"
	"interlace/syntax"
)

const maxTick = 1 << 30

func eq(field string, n int) api.Pred { return api.Pred{Kind: api.PrEq, Field: field, N: n} }

func prefix(field string, n, m int) api.Pred {
	return api.Pred{Kind: api.PrPrefix, Field: field, N: n, M: m}
}

func between(field string, n, m int) api.Pred {
	return api.Pred{Kind: api.PrRange, Field: field, N: n, M: m}
}

func window(n, m int) api.Pred { return api.Pred{Kind: api.PrTime, N: n, M: m} }

func pred(kind int, args ...api.Pred) api.Pred { return api.Pred{Kind: kind, Args: args} }

func not(x api.Pred) api.Pred { return pred(api.PrNot, x) }

func and(a, b api.Pred) api.Pred { return pred(api.PrAnd, a, b) }

func or(a, b api.Pred) api.Pred { return pred(api.PrOr, a, b) }

func filter(x api.Pred) api.Policy { return api.Policy{Kind: api.PoFilter, Pred: x} }

func id() api.Policy { return filter(pred(api.PrTrue)) }

func drop() api.Policy { return filter(pred(api.PrFalse)) }

func set(field string, n int) api.Policy { return api.Policy{Kind: api.PoSet, Field: field, N: n} }

func policy(kind int, args ...api.Policy) api.Policy { return api.Policy{Kind: kind, Args: args} }

func union(a, b api.Policy) api.Policy { return policy(api.PoUnion, a, b) }

func seq(a, b api.Policy) api.Policy { return policy(api.PoSeq, a, b) }

func star(x api.Policy) api.Policy { return policy(api.PoStar, x) }

func alone(x api.Policy) api.Program { return api.Program{{Policy: x}} }

// chained returns a thing to which a function is applied n times.
func chained[T any](n int, x T, f func(T) T) T {
	for range n {
		x = f(x)
	}
	return x
}

// given are the fields of the chapter's examples.
func given() []api.Field {
	return []api.Field{{Name: "dst", At: 16, Width: 8}, {Name: "src", At: 24, Width: 8}, {Name: "kind", At: 33, Width: 3}}
}

// many are fields of all sorts of widths. (Not of all names: those that are words of the language are no field names.)
func many() []api.Field {
	return append(given(), api.Field{Name: "whole", At: 48, Width: 16}, api.Field{Name: "bit", At: 143, Width: 1},
		api.Field{Name: "tag", At: 64, Width: 3}, api.Field{Name: "stage", At: 80, Width: 8})
}

// widthOf returns the width of a field of many, and 0 for a name that none of them has.
func widthOf(name string) int {
	return map[string]int{"port": 16, "dst": 8, "src": 8, "kind": 3, "whole": 16, "bit": 1, "tag": 3}[name]
}

func greatest(name string) int { return []int{0, 1, 3: 7, 8: 255, 16: 65535}[widthOf(name)] }

// parsed returns the program with a source, which must have no problem.
func parsed(t *testing.T, source string) api.Program {
	t.Helper()
	p, problems := syntax.ParseProgram(source)
	if len(problems) > 0 {
		t.Fatalf("%q has the problems %v", source, problems)
	}
	return p
}

func parsedPolicy(t *testing.T, source string) api.Policy {
	t.Helper()
	x, problem := syntax.ParsePolicy(source)
	if problem.E != api.OK {
		t.Fatalf("%q has the problem %v", source, problem)
	}
	return x
}

func parsedPred(t *testing.T, source string) api.Pred {
	t.Helper()
	x, problem := syntax.ParsePred(source)
	if problem.E != api.OK {
		t.Fatalf("%q has the problem %v", source, problem)
	}
	return x
}

// A maker makes random things that are formed: one in wrong of their parts does not fit the fields of many, if wrong is
// not 0.
type maker struct {
	r     *rand.Rand
	wrong int
}

func making(seed uint64, wrong int) maker { return maker{rand.New(rand.NewPCG(seed, 12)), wrong} }

func pick[T any](m maker, l ...T) T { return l[m.r.IntN(len(l))] }

func (m maker) spoils() bool { return m.wrong > 0 && m.r.IntN(m.wrong) == 0 }

func (m maker) field() string {
	if m.spoils() {
		return pick(m, "top", "ds", "dstx")
	}
	return pick(m, "port", "dst", "src", "kind", "whole", "bit", "tag")
}

// number returns a number from lo to hi, often one of these.
func (m maker) number(lo, hi int) int { return pick(m, lo, hi, lo+m.r.IntN(hi-lo+1)) }

// value returns a value of a field.
func (m maker) value(name string) int {
	if m.spoils() {
		return min(65535, greatest(name)+m.number(1, 3))
	}
	return m.number(0, greatest(name))
}

func (m maker) test() api.Pred {
	name := m.field()
	n, k := m.value(name), m.value(name)
	tick := m.r.IntN(20)
	first := m.number(0, widthOf(name))
	if m.spoils() {
		first = min(16, first+m.r.IntN(17))
	}
	return pick(m, pred(api.PrTrue), pred(api.PrFalse), eq(name, n), prefix(name, n, first),
		between(name, min(n, k), max(n, k)), window(tick, tick+1+m.r.IntN(9)))
}

func (m maker) pred(nodes int) api.Pred {
	switch {
	case nodes > 2 && m.r.IntN(4) > 0:
		left := 1 + m.r.IntN(nodes-2)
		return pred(pick(m, api.PrAnd, api.PrOr), m.pred(left), m.pred(nodes-1-left))
	case nodes > 1 && m.r.IntN(2) > 0:
		return not(m.pred(nodes - 1))
	}
	return m.test()
}

func (m maker) policy(nodes int) api.Policy {
	switch {
	case nodes > 2 && m.r.IntN(4) > 0:
		left := 1 + m.r.IntN(nodes-2)
		return policy(pick(m, api.PoUnion, api.PoSeq), m.policy(left), m.policy(nodes-1-left))
	case nodes > 1 && m.r.IntN(6) == 0:
		return star(m.policy(nodes - 1))
	case m.r.IntN(2) > 0:
		name := m.field()
		return set(name, m.value(name))
	}
	return filter(m.pred(max(1, nodes-1)))
}

func (m maker) step() api.Step {
	s := api.Step{Kind: m.r.IntN(api.StKinds + 1)}
	if s.Kind == 0 {
		return s
	}
	s.Var = pick(m, "a", "b", "c")
	for len(s.Key) == 0 || len(s.Key) < 4 && m.r.IntN(2) == 0 {
		if name := m.field(); !slices.Contains(s.Key, name) || m.spoils() {
			s.Key = append(s.Key, name)
		}
	}
	switch s.Kind {
	case api.StCount:
		s.Field = pick(m, "", m.field())
	case api.StCheck:
		s.N = m.number(0, maxTick)
	case api.StTranslate:
		s.Field = m.field()
		n, k := m.value(s.Field), m.value(s.Field)
		s.N, s.M = min(n, k), max(n, k)
	case api.StBack:
		s.Field = m.field()
	case api.StToken:
		s.N, s.M = m.number(1, 65535), m.number(1, maxTick)
	}
	return s
}

// alike returns steps of few sorts, so that several of them often have the same variable, and agree.
func (m maker) alike() api.Step {
	s := api.Step{Kind: m.r.IntN(api.StKinds + 1)}
	if s.Kind == 0 {
		return s
	}
	s.Var = pick(m, "a", "b", "c") + fmt.Sprint(m.r.IntN(2)*(s.Kind+1)/2)
	s.Key = pick(m, []string{"src"}, []string{"dst"}, []string{"src"}, []string{"dst"}, []string{"kind"}, []string{"src", "kind"})
	switch s.Kind {
	case api.StTranslate:
		s.Field, s.M = "kind", pick(m, 0, 0, 5)
	case api.StBack:
		s.Field = "kind"
	case api.StToken:
		s.N, s.M = pick(m, 1, 1, 2), pick(m, 1, 1, 2)
	}
	return s
}

func (m maker) program(stages, nodes int, step func() api.Step) api.Program {
	var p api.Program
	for range stages {
		p = append(p, api.Stage{Policy: m.policy(nodes), Step: step()})
	}
	return p
}

// nodes returns how many nodes the next random thing is to have: mostly few, sometimes too many.
func (m maker) nodes() int { return 1 + m.r.IntN(pick(m, 3, 3, 10, 10, 30, 30, 90, 400)) }

// small returns a random policy that syntax accepts.
func (m maker) small() api.Policy {
	for {
		if x := m.policy(m.nodes()); syntax.CheckPolicy(x) == api.OK {
			return x
		}
	}
}

// smallPred returns a random predicate that syntax accepts.
func (m maker) smallPred() api.Pred {
	for {
		if x := m.pred(m.nodes()); syntax.CheckPred(x) == api.OK {
			return x
		}
	}
}

// smallProgram returns a random program that syntax accepts.
func (m maker) smallProgram() api.Program {
	for {
		if p := m.program(m.r.IntN(9), m.nodes(), m.step); syntax.CheckProgram(p) == api.OK {
			return p
		}
	}
}
