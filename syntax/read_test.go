package syntax_test

import (
	"slices"
	"strconv"
	"strings"
	"testing"

	"interlace/api"
	"interlace/syntax"
	"interlace/token"
)

// gap returns separators, of which there is at least one byte.
func (m maker) gap() string {
	return pick(m, " ", " ", " ", "\n", "\t", "\r\n", "  ", " # a comment. stage\n", "\n\n", "#\n")
}

// joined returns texts with random separators between them, before and behind them.
func (m maker) joined(texts []string) string {
	var b strings.Builder
	b.WriteString(pick(m, "", m.gap()))
	for _, s := range texts {
		b.WriteString(s + m.gap())
	}
	return b.String()
}

// noisy returns the texts of a thing with parentheses around each operand that has operators, and with some that are not
// needed at all.
func (m maker) noisy(texts []string, operand bool, around ...string) []string {
	for operand || m.r.IntN(6) == 0 {
		texts = slices.Concat(around[:1], texts, around[1:])
		operand = false
	}
	return texts
}

func (m maker) digits(n int) string { return pick(m, strconv.Itoa(n), token.Hex(n)) }

func (m maker) predTexts(x api.Pred, operand bool) []string {
	sub := func(i int) []string { return m.predTexts(x.Args[i], true) }
	var l []string
	switch x.Kind {
	case api.PrTrue:
		l = []string{"true"}
	case api.PrFalse:
		l = []string{"false"}
	case api.PrEq:
		l = []string{x.Field, "=", m.digits(x.N)}
	case api.PrPrefix:
		l = []string{x.Field, "=", m.digits(x.N), "/", m.digits(x.M)}
	case api.PrRange:
		l = []string{x.Field, "in", m.digits(x.N), "..", m.digits(x.M)}
	case api.PrTime:
		l = []string{"time", "in", m.digits(x.N), "..", m.digits(x.M)}
	case api.PrNot:
		l = slices.Concat([]string{"not"}, sub(0))
	case api.PrAnd:
		l = slices.Concat(sub(0), []string{"and"}, sub(1))
	case api.PrOr:
		l = slices.Concat(sub(0), []string{"or"}, sub(1))
	}
	return m.noisy(l, operand && len(x.Args) > 1, "(", ")")
}

func (m maker) policyTexts(x api.Policy, operand bool) []string {
	sub := func(i int) []string { return m.policyTexts(x.Args[i], true) }
	var l []string
	switch x.Kind {
	case api.PoFilter:
		l = slices.Concat([]string{"["}, m.predTexts(x.Pred, false), []string{"]"})
		if x.Pred.Kind == api.PrTrue && m.r.IntN(2) == 0 {
			l = []string{"id"}
		}
		if x.Pred.Kind == api.PrFalse && m.r.IntN(2) == 0 {
			l = []string{"drop"}
		}
	case api.PoSet:
		l = []string{x.Field, ":=", m.digits(x.N)}
	case api.PoUnion:
		l = slices.Concat(sub(0), []string{"+"}, sub(1))
	case api.PoSeq:
		l = slices.Concat(sub(0), []string{";"}, sub(1))
	case api.PoStar:
		l = append(sub(0), "*")
	}
	return m.noisy(l, operand && len(x.Args) > 1, "(", ")")
}

func (m maker) regexTexts(x api.Regex, operand bool) []string {
	sub := func(i int) []string { return m.regexTexts(x.Args[i], true) }
	var l []string
	switch x.Kind {
	case api.ReEmpty:
		l = []string{"(", ")"}
	case api.ReAny:
		l = []string{"any"}
	case api.ReNode:
		l = []string{x.Node}
	case api.ReOr:
		l = slices.Concat(sub(0), []string{"|"}, sub(1))
	case api.ReSeq:
		l = slices.Concat(sub(0), []string{";"}, sub(1))
	case api.ReStar:
		l = append(sub(0), "*")
	}
	return m.noisy(l, operand && len(x.Args) > 1, "(", ")")
}

func (m maker) stageTexts(x api.Stage, _ bool) []string {
	l := append([]string{"stage"}, m.policyTexts(x.Policy, false)...)
	s := x.Step
	if s.Kind != 0 {
		word := []string{"", "count", "open", "check", "translate", "back", "token"}[s.Kind]
		l = append(l, "then", word, s.Var, "by")
		l = append(l, strings.Fields(strings.Join(s.Key, " , "))...)
	}
	if s.Field != "" {
		l = append(l, "into", s.Field)
	}
	switch s.Kind {
	case api.StCheck:
		l = append(l, "within", m.digits(s.N))
	case api.StTranslate:
		l = append(l, "from", m.digits(s.N), "to", m.digits(s.M))
	case api.StToken:
		l = append(l, "burst", m.digits(s.N), "each", m.digits(s.M))
	}
	return append(l, ".")
}

// behind are the texts of what can follow, and with what nothing goes on.
var behind = []string{"", "", ")", "]", ".", ",", "then", "stage", "a", "5", "@", "..", "path", "}", "->", "="}

func checkRead[T any](t *testing.T, seed uint64, f family[T], texts func(maker, T, bool) []string) {
	t.Helper()
	m := maker{random(seed)}
	for range 4000 {
		x := f.some(m)
		l := texts(m, x, false)
		last := pick(m, behind...)
		tokens := tokensOf(t, m.joined(append(slices.Clone(l), last)))
		before := slices.Clone(tokens)
		y, used, problem := f.read(tokens)
		if used != len(l) || problem != (api.Problem{}) || !f.same(x, y) {
			t.Fatalf("P11.3: of the %s %q, with %q behind it, %d tokens are read, as %v, with the problem %v; it has %d", f.name, l, last, used, y, problem, len(l))
		}
		if !slices.Equal(tokens, before) {
			t.Fatalf("P11.3: reading changes the tokens %v", before)
		}
		if y, problem := f.parse(m.joined(l)); problem != (api.Problem{}) || !f.same(x, y) || f.check(y) != api.OK {
			t.Fatalf("P11.4: the source of the %s %q is that of %v, with the problem %v", f.name, l, y, problem)
		}
	}
}

func TestRead(t *testing.T) {
	checkRead(t, 31, preds(), maker.predTexts)
	checkRead(t, 32, policies(), maker.policyTexts)
	checkRead(t, 33, regexes(), maker.regexTexts)
	checkRead(t, 34, stages(), maker.stageTexts)
}

// checkTokens compares what is read with the grammar. The tokens are so few that there are no limits.
func checkTokens[T any](t *testing.T, g grammar, f family[T], l []api.Token) api.Errno {
	t.Helper()
	at, e := g.read(f.name, l)
	used, want := at, api.Problem{}
	if e != api.OK {
		used, want = 0, api.Problem{Line: l[at].Line, Column: l[at].Column, E: e}
	}
	x, n, problem := f.read(l)
	if n != used || problem != want {
		t.Fatalf("P11.3: of the %s %q %d tokens are read, with the problem %v; want %d and %v", f.name, token.Join(l), n, problem, used, want)
	}
	var zero T
	switch {
	case e != api.OK && !f.same(x, zero):
		t.Fatalf("P11.3: together with the problem %v %v is read", problem, x)
	case e == api.OK && f.check(x) != api.OK:
		t.Fatalf("P11.3: of the %s %q %v is read, which is not formed", f.name, token.Join(l), x)
	case e == api.OK && flat(tokensOf(t, f.print(x))) != flat(l[:n]):
		t.Fatalf("P11.3: of the %s %q %q is read", f.name, token.Join(l), f.print(x))
	}
	return e
}

var vocabulary = []string{
	"a", "dst", "port", "0", "1", "16", "17", "65535", "65536", "1073741824", "0x10", "(", ")", "[", "]", ",", ";", ".", "..", "+", "*", "/", "|", "=", ":=", ":", "->", "{",
	"or", "and", "not", "true", "false", "in", "time", "id", "drop", "stage", "then", "count", "open", "check", "translate", "back", "token", "by", "into", "within", "from", "to", "burst", "each",
	"any", "route", "007", "@", "A", "to_", "edge", "box",
}

// disturb changes some texts.
func (m maker) disturb(l []string) []string {
	l = slices.Clone(l)
	for range m.r.IntN(4) {
		i := m.r.IntN(len(l) + 1)
		switch {
		case m.r.IntN(3) == 0 || i == len(l):
			l = slices.Insert(l, i, pick(m, vocabulary...))
		case m.r.IntN(3) == 0:
			l = slices.Delete(l, i, i+1)
		case m.r.IntN(3) == 0:
			l = l[:i]
		case m.r.IntN(3) == 0:
			l = append(l, l[i:]...)
		default:
			l[i] = pick(m, vocabulary...)
		}
		l = l[:min(len(l), 60)]
	}
	return l
}

func checkDisturbed[T any](t *testing.T, seed uint64, f family[T], texts func(maker, T, bool) []string) {
	t.Helper()
	m := maker{random(seed)}
	g := readGrammar()
	seen := map[api.Errno]int{}
	for range 12000 {
		x := f.make(m, 1+m.r.IntN(8))
		l := m.disturb(texts(m, x, false))
		seen[checkTokens(t, g, f, tokensOf(t, m.joined(l)))]++
	}
	for _, e := range []api.Errno{api.OK, api.ErrSyntax, api.ErrArg} {
		if seen[e] < 20 && !(f.name == "regex" && e == api.ErrArg) {
			t.Errorf("P11.3: only %d of the kind %s have the error %d", seen[e], f.name, e)
		}
	}
}

func TestDisturbed(t *testing.T) {
	checkDisturbed(t, 41, preds(), maker.predTexts)
	checkDisturbed(t, 42, policies(), maker.policyTexts)
	checkDisturbed(t, 43, regexes(), maker.regexTexts)
	checkDisturbed(t, 44, stages(), maker.stageTexts)
}

// sequences calls a function for all lists of at most n tokens out of some texts, each with an end.
func sequences(t *testing.T, n int, texts string, visit func([]api.Token)) {
	t.Helper()
	all := tokensOf(t, texts)
	all = all[:len(all)-1]
	var l []api.Token
	var extend func()
	extend = func() {
		visit(append(slices.Clone(l), api.Token{Kind: api.TokEnd, Line: 1, Column: 1000}))
		if len(l) == n {
			return
		}
		for _, tok := range all {
			tok.Line, tok.Column = 1, len(l)+1
			l = append(l, tok)
			extend()
			l = l[:len(l)-1]
		}
	}
	extend()
}

func TestAllSequences(t *testing.T) {
	g := readGrammar()
	sequences(t, 5, "a time = in 5 4 .. / not or ( )", func(l []api.Token) { checkTokens(t, g, preds(), l) })
	sequences(t, 5, "id a := 5 [ ] true ( ) * + ;", func(l []api.Token) { checkTokens(t, g, policies(), l) })
	sequences(t, 6, "a any ( ) * | ;", func(l []api.Token) { checkTokens(t, g, regexes(), l) })
	sequences(t, 4, "stage id then . + a port count open", func(l []api.Token) { checkTokens(t, g, stages(), l) })
}

// TestSteps tries all sequences behind the first words of a step, and all steps with each token left out or changed.
func TestSteps(t *testing.T) {
	g := readGrammar()
	start := tokensOf(t, "stage id then")[:3]
	tails := []string{"count c by a , b into port .", "open c by a .", "check c by a within 5 .", "translate c by a into b from 5 to 4 .", "translate c by a into b from 4 to 4 .", "back c by a into b .", "token c by a burst 1 each 1 .", "token c by a burst 0 each 0 .", "open c by a , b , c , d , e .", "open c by a , b , c , d , 5 .", "open c by a , b , c , port ."}
	for _, tail := range tails {
		l := slices.Concat(start, tokensOf(t, tail))
		for i := range l {
			l[i].Line, l[i].Column = 1, i+1
		}
		checkTokens(t, g, stages(), l)
		for i := range l[:len(l)-1] {
			checkTokens(t, g, stages(), slices.Concat(l[:i], l[i+1:]))
			for _, text := range vocabulary {
				tok := tokensOf(t, text)[0]
				tok.Line, tok.Column = 2, i
				changed := slices.Clone(l)
				changed[i] = tok
				checkTokens(t, g, stages(), changed)
				checkTokens(t, g, stages(), slices.Insert(slices.Clone(l), i, tok))
			}
		}
	}
}

func TestOddTokens(t *testing.T) {
	end := api.Token{Kind: api.TokEnd, Line: 3, Column: 7}
	wrong := api.Problem{Line: 3, Column: 7, E: api.ErrSyntax}
	if x, n, problem := syntax.ReadPred([]api.Token{end}); !syntax.SamePred(x, api.Pred{}) || n != 0 || problem != wrong {
		t.Errorf("P11.3: an end is read as %v, %d, %v", x, n, problem)
	}
	if x, n, problem := syntax.ReadStage([]api.Token{end}); !syntax.SamePolicy(x.Policy, api.Policy{}) || n != 0 || problem != wrong {
		t.Errorf("P11.3: an end is read as %v, %d, %v", x, n, problem)
	}
	for n := range 8 { // no chapter says what tokens without an end give, but they give no panic
		l := tokensOf(t, "stage a := 1 then open c")[:n]
		_, _, a := syntax.ReadPred(l)
		_, _, b := syntax.ReadPolicy(l)
		_, _, c := syntax.ReadStage(l)
		_, _, d := syntax.ReadRegex(l)
		if min(a.E, b.E, c.E, d.E) == api.OK {
			t.Errorf("P1: %d tokens without an end are read", n)
		}
	}
	words := []api.Token{{Kind: api.TokName, Text: "true"}, {Kind: api.TokSign, Text: "="}, {Kind: api.TokNumber, N: 5, Text: "6"}, end}
	if x, n, problem := syntax.ReadPred(words); !syntax.SamePred(x, eq("true", 5)) || n != 3 || problem != (api.Problem{}) {
		t.Errorf("P11.3: a name that is a word is read as %v, %d, %v", x, n, problem)
	}
	for _, n := range []int{-1, 65536, 1 << 40, -1 << 63, 1<<63 - 1} {
		words[2].N, words[2].Line, words[2].Column = n, 5, 6
		if x, used, problem := syntax.ReadPred(words); !syntax.SamePred(x, api.Pred{}) || used != 0 || problem != (api.Problem{Line: 5, Column: 6, E: api.ErrArg}) {
			t.Errorf("P11.3: the number %d is read as %v, %d, %v", n, x, used, problem)
		}
	}
}

func TestReadLimits(t *testing.T) {
	times := func(n int, s string) string { return strings.Repeat(s, n) }
	for _, x := range []struct {
		what, source string
		read         func([]api.Token) (int, api.Problem)
		used         int
		want         api.Problem
	}{
		{"20 sets", times(19, "a := 1; ") + "a := 1 .", readPolicy, 79, api.Problem{}},
		{"21 sets", "\n a := 1" + times(20, "; a := 1") + " .", readPolicy, 0, api.Problem{Line: 2, Column: 2, E: api.ErrLimit}},
		{"21 sets, then something wrong", "a := 1" + times(20, "; a := 1") + " @", readPolicy, 0, api.Problem{Line: 1, Column: 1, E: api.ErrLimit}},
		{"21 sets, and something wrong", "a := 1" + times(20, "; a := 1") + " + @", readPolicy, 0, api.Problem{Line: 1, Column: 170, E: api.ErrSyntax}},
		{"21 sets, and a wrong number", times(20, "a := 1; ") + "a := 65536", readPolicy, 0, api.Problem{Line: 1, Column: 166, E: api.ErrArg}},
		{"parentheses", times(1000, "(") + "a := 1" + times(1000, ")"), readPolicy, 2003, api.Problem{}},
		{"19 stars", "a := 1" + times(19, "*"), readPolicy, 22, api.Problem{}},
		{"20 stars", "a := 1" + times(20, "*"), readPolicy, 0, api.Problem{Line: 1, Column: 1, E: api.ErrLimit}},
		{"a deep filter", "[" + times(18, "not ") + "true]", readPolicy, 21, api.Problem{}},
		{"a too deep filter", " id; [" + times(18, "not ") + "true]", readPolicy, 0, api.Problem{Line: 1, Column: 2, E: api.ErrLimit}},
		{"19 times not", times(19, "not ") + "true", readPred, 20, api.Problem{}},
		{"20 times not", " " + times(20, "not ") + "true )", readPred, 0, api.Problem{Line: 1, Column: 2, E: api.ErrLimit}},
		{"20 times not, and a wrong number", times(20, "not ") + "a = 65536", readPred, 0, api.Problem{Line: 1, Column: 85, E: api.ErrArg}},
		{"too many alternatives in parentheses", "(true)" + times(20, " or true"), readPred, 0, api.Problem{Line: 1, Column: 1, E: api.ErrLimit}},
		{"20 nodes", "a" + times(19, "; a"), readRegex, 39, api.Problem{}},
		{"21 nodes", "a" + times(20, "; a"), readRegex, 0, api.Problem{Line: 1, Column: 1, E: api.ErrLimit}},
		{"a stage with 20 sets", "stage a := 1" + times(19, "+ a := 1") + ". a", readStage, 81, api.Problem{}},
		{"a stage with 21 sets", "stage\n  a := 1" + times(20, "+ a := 1") + ".", readStage, 0, api.Problem{Line: 2, Column: 3, E: api.ErrLimit}},
		{"a stage with 21 sets and without an end", "stage ((a := 1))" + times(20, "+ a := 1"), readStage, 0, api.Problem{Line: 1, Column: 7, E: api.ErrLimit}},
		{"a stage with 21 sets and a wrong step", "stage a := 1" + times(20, "+ a := 1") + " then @", readStage, 0, api.Problem{Line: 1, Column: 7, E: api.ErrLimit}},
		{"a stage with a too deep filter", "stage [" + times(19, "not ") + "true].", readStage, 0, api.Problem{Line: 1, Column: 7, E: api.ErrLimit}},
		{"200 nodes", "stage " + times(5, "(") + ninetyNine() + times(5, ")") + "+ a := 1*.", readStage, 0, api.Problem{}},
	} {
		used, problem := x.read(tokensOf(t, x.source))
		if x.used == 0 && x.want.E == api.OK {
			x.used = len(tokensOf(t, x.source)) - 1
		}
		if used != x.used || problem != x.want {
			t.Errorf("P11.3: of %s %d tokens are read, with the problem %v; want %d and %v", x.what, used, problem, x.used, x.want)
		}
	}
}

// ninetyNine returns the source of 99 sets with 197 nodes.
func ninetyNine() string {
	return balanced(99, "a := 1", func(a, b string) string { return "(" + a + " + " + b + ")" })
}

func readPred(l []api.Token) (int, api.Problem) {
	_, n, problem := syntax.ReadPred(l)
	return n, problem
}

func readPolicy(l []api.Token) (int, api.Problem) {
	_, n, problem := syntax.ReadPolicy(l)
	return n, problem
}

func readRegex(l []api.Token) (int, api.Problem) {
	_, n, problem := syntax.ReadRegex(l)
	return n, problem
}

func readStage(l []api.Token) (int, api.Problem) {
	_, n, problem := syntax.ReadStage(l)
	return n, problem
}

func TestReadNodes(t *testing.T) {
	join := func(a, b string) string { return "(" + a + " | " + b + ")" }
	hundred := balanced(100, "a", join) // 199 nodes
	for source, want := range map[string]api.Problem{
		hundred: {}, hundred + "*": {}, hundred + "**": {Line: 1, Column: 1, E: api.ErrLimit}, "any; " + hundred: {Line: 1, Column: 1, E: api.ErrLimit}, join(hundred, "any"): {Line: 1, Column: 1, E: api.ErrLimit},
	} {
		n, problem := readRegex(tokensOf(t, source))
		if problem != want || (n == 0) != (want.E == api.ErrLimit) {
			t.Errorf("P11.3: of %.20q... %d tokens are read, with the problem %v, want %v", source, n, problem, want)
		}
	}
}
