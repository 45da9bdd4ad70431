package syntax_test

import (
	"math/rand/v2"
	"strconv"
	"strings"
	"testing"

	"interlace/api"
	"interlace/syntax"
	"interlace/token"
)

const maxTick = 1 << 30

func random(seed uint64) *rand.Rand { return rand.New(rand.NewPCG(seed, 11)) }

func eq(field string, n int) api.Pred { return api.Pred{Kind: api.PrEq, Field: field, N: n} }

func prefix(field string, n, m int) api.Pred {
	return api.Pred{Kind: api.PrPrefix, Field: field, N: n, M: m}
}

func between(field string, n, m int) api.Pred {
	return api.Pred{Kind: api.PrRange, Field: field, N: n, M: m}
}

func window(n, m int) api.Pred { return api.Pred{Kind: api.PrTime, N: n, M: m} }

func pred(kind int, args ...api.Pred) api.Pred { return api.Pred{Kind: kind, Args: args} }

func not(x api.Pred) api.Pred { return pred(api.PrNot, x) }

func and(a, b api.Pred) api.Pred { return pred(api.PrAnd, a, b) }

func or(a, b api.Pred) api.Pred { return pred(api.PrOr, a, b) }

func filter(x api.Pred) api.Policy { return api.Policy{Kind: api.PoFilter, Pred: x} }

func id() api.Policy { return filter(pred(api.PrTrue)) }

func drop() api.Policy { return filter(pred(api.PrFalse)) }

func set(field string, n int) api.Policy { return api.Policy{Kind: api.PoSet, Field: field, N: n} }

func policy(kind int, args ...api.Policy) api.Policy { return api.Policy{Kind: kind, Args: args} }

func union(a, b api.Policy) api.Policy { return policy(api.PoUnion, a, b) }

func seq(a, b api.Policy) api.Policy { return policy(api.PoSeq, a, b) }

func star(x api.Policy) api.Policy { return policy(api.PoStar, x) }

func regex(kind int, args ...api.Regex) api.Regex { return api.Regex{Kind: kind, Args: args} }

func node(name string) api.Regex { return api.Regex{Kind: api.ReNode, Node: name} }

// balanced returns a tree with so many leaves, and 2 * leaves - 1 nodes, that is as low as it can be.
func balanced[T any](leaves int, leaf T, join func(a, b T) T) T {
	if leaves == 1 {
		return leaf
	}
	return join(balanced(leaves/2, leaf, join), balanced(leaves-leaves/2, leaf, join))
}

// chained returns a thing to which a function is applied n times.
func chained[T any](n int, x T, f func(T) T) T {
	for range n {
		x = f(x)
	}
	return x
}

// A maker makes random things that are formed.
type maker struct{ r *rand.Rand }

func pick[T any](m maker, l ...T) T { return l[m.r.IntN(len(l))] }

func (m maker) name() string {
	return pick(m, "a", "b", "dst", "src", "x_1", "kind", "ports", "abcdefghijklmnopqrstuvwx")
}

func (m maker) field() string { return pick(m, "port", m.name(), m.name()) }

// number returns a number from lo to hi, often one of these.
func (m maker) number(lo, hi int) int {
	return pick(m, lo, hi, lo+m.r.IntN(hi-lo+1), min(hi, lo+m.r.IntN(5)))
}

func (m maker) pred(nodes int) api.Pred {
	switch {
	case nodes > 2 && m.r.IntN(4) > 0:
		left := 1 + m.r.IntN(nodes-2)
		return pred(pick(m, api.PrAnd, api.PrOr), m.pred(left), m.pred(nodes-1-left))
	case nodes > 1 && m.r.IntN(2) > 0:
		return not(m.pred(nodes - 1))
	}
	n := m.number(0, 65535)
	tick := m.number(0, maxTick-1)
	return pick(m, pred(api.PrTrue), pred(api.PrFalse), eq(m.field(), n), prefix(m.field(), n, m.number(0, 16)),
		between(m.field(), n, m.number(n, 65535)), window(tick, m.number(tick+1, maxTick)))
}

func (m maker) policy(nodes int) api.Policy {
	switch {
	case nodes > 2 && m.r.IntN(4) > 0:
		left := 1 + m.r.IntN(nodes-2)
		return policy(pick(m, api.PoUnion, api.PoSeq), m.policy(left), m.policy(nodes-1-left))
	case nodes > 1 && m.r.IntN(2) > 0:
		return star(m.policy(nodes - 1))
	case m.r.IntN(2) > 0:
		return set(m.field(), m.number(0, 65535))
	}
	return filter(m.pred(max(1, nodes-1)))
}

func (m maker) regex(nodes int) api.Regex {
	switch {
	case nodes > 2 && m.r.IntN(4) > 0:
		left := 1 + m.r.IntN(nodes-2)
		return regex(pick(m, api.ReSeq, api.ReOr), m.regex(left), m.regex(nodes-1-left))
	case nodes > 1 && m.r.IntN(2) > 0:
		return regex(api.ReStar, m.regex(nodes-1))
	}
	return pick(m, regex(api.ReEmpty), regex(api.ReAny), node(m.name()), node(m.name()))
}

func (m maker) step() api.Step {
	s := api.Step{Kind: m.r.IntN(api.StKinds + 1)}
	if s.Kind == 0 {
		return s
	}
	s.Var = m.name()
	for range 1 + m.r.IntN(4) {
		s.Key = append(s.Key, m.field())
	}
	switch s.Kind {
	case api.StCount:
		s.Field = pick(m, "", m.field())
	case api.StCheck:
		s.N = m.number(0, maxTick)
	case api.StTranslate:
		s.Field, s.N = m.field(), m.number(0, 65535)
		s.M = m.number(s.N, 65535)
	case api.StBack:
		s.Field = m.field()
	case api.StToken:
		s.N, s.M = m.number(1, 65535), m.number(1, maxTick)
	}
	return s
}

func (m maker) stage(nodes int) api.Stage {
	return api.Stage{Policy: m.policy(nodes), Step: m.step()}
}

func (m maker) program(stages, nodes int) api.Program {
	var p api.Program
	for range stages {
		p = append(p, m.stage(nodes))
	}
	return p
}

// size returns the number of nodes of a tree, and its depth; further gives those of parts that are no Args.
func size[T any](x T, args func(T) []T, further func(T) (int, int)) (nodes, depth int) {
	nodes, depth = further(x)
	for _, arg := range args(x) {
		n, d := size(arg, args, further)
		nodes, depth = nodes+n, max(depth, d)
	}
	return nodes + 1, depth + 1
}

func nothing[T any](T) (int, int) { return 0, 0 }

func predSize(x api.Pred) (nodes, depth int) {
	return size(x, func(x api.Pred) []api.Pred { return x.Args }, nothing)
}

func policySize(x api.Policy) (nodes, depth int) {
	return size(x, func(x api.Policy) []api.Policy { return x.Args }, func(x api.Policy) (int, int) {
		if x.Kind == api.PoFilter {
			return predSize(x.Pred)
		}
		return 0, 0
	})
}

func regexSize(x api.Regex) (nodes, depth int) {
	return size(x, func(x api.Regex) []api.Regex { return x.Args }, nothing)
}

func tooLarge(nodes, depth int) bool { return nodes > 200 || depth > 20 }

// tokensOf returns the tokens of a source that is not too long.
func tokensOf(t *testing.T, source string) []api.Token {
	t.Helper()
	l, e := token.Tokens(source)
	if e != api.OK {
		t.Fatalf("Tokens of %d bytes gives the error %d", len(source), e)
	}
	return l
}

// Things of all kinds are tested alike by functions for one kind.
type family[T any] struct {
	name  string
	make  func(m maker, nodes int) T
	size  func(T) (int, int)
	check func(T) api.Errno
	print func(T) string
	read  func([]api.Token) (T, int, api.Problem)
	parse func(string) (T, api.Problem)
	same  func(a, b T) bool
}

func preds() family[api.Pred] {
	return family[api.Pred]{"pred", maker.pred, predSize, syntax.CheckPred, syntax.PrintPred, syntax.ReadPred, syntax.ParsePred, syntax.SamePred}
}

func policies() family[api.Policy] {
	return family[api.Policy]{"policy", maker.policy, policySize, syntax.CheckPolicy, syntax.PrintPolicy, syntax.ReadPolicy, syntax.ParsePolicy, syntax.SamePolicy}
}

func regexes() family[api.Regex] {
	return family[api.Regex]{"regex", maker.regex, regexSize, syntax.CheckRegex, syntax.PrintRegex, syntax.ReadRegex, syntax.ParseRegex, syntax.SameRegex}
}

// stages are things whose sources are those of programs with one stage.
func stages() family[api.Stage] {
	one := func(x api.Stage) api.Program { return api.Program{x} }
	return family[api.Stage]{
		name:  "stage",
		make:  maker.stage,
		size:  func(x api.Stage) (int, int) { return policySize(x.Policy) },
		check: func(x api.Stage) api.Errno { return syntax.CheckProgram(one(x)) },
		print: syntax.PrintStage,
		read:  syntax.ReadStage,
		parse: func(source string) (api.Stage, api.Problem) {
			p, problems := syntax.ParseProgram(source)
			if len(problems) > 0 || len(p) != 1 {
				return api.Stage{}, append(problems, api.Problem{E: api.ErrArg})[0]
			}
			return p[0], api.Problem{}
		},
		same: func(a, b api.Stage) bool { return syntax.SameProgram(one(a), one(b)) },
	}
}

// some returns a random thing that is within the limits.
func (f family[T]) some(m maker) T {
	for {
		x := f.make(m, 1+m.r.IntN(pick(m, 4, 20, 60)))
		if !tooLarge(f.size(x)) {
			return x
		}
	}
}

// flat returns the Texts of tokens without parentheses; numbers are written in base 10, and id and drop as filters.
func flat(l []api.Token) string {
	var texts []string
	for _, t := range l {
		switch {
		case t.Kind == api.TokNumber:
			texts = append(texts, strconv.Itoa(t.N))
		case t.Text == "id":
			texts = append(texts, "[", "true", "]")
		case t.Text == "drop":
			texts = append(texts, "[", "false", "]")
		case t.Kind != api.TokEnd && t.Text != "(" && t.Text != ")":
			texts = append(texts, t.Text)
		}
	}
	return strings.Join(texts, " ")
}
