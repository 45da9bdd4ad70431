package syntax_test

import (
	"regexp"
	"slices"
	"strings"
	"testing"

	"interlace/api"
	"interlace/syntax"
	"interlace/token"
)

func TestSourcesOfPreds(t *testing.T) {
	a, b, c := eq("a", 1), eq("b", 2), eq("port", 65535)
	for want, x := range map[string]api.Pred{
		"true": pred(api.PrTrue), "false": pred(api.PrFalse), "a = 1": a, "port = 65535": c, "kind = 4/1": prefix("kind", 4, 1), "port in 1..3": between("port", 1, 3), "time in 0..1073741824": window(0, maxTick),
		"dst = 5 and not port in 1..3 or kind = 4/1": or(and(eq("dst", 5), not(between("port", 1, 3))), prefix("kind", 4, 1)),
		"a = 1 or b = 2 or port = 65535":             or(or(a, b), c), "a = 1 or (b = 2 or port = 65535)": or(a, or(b, c)),
		"a = 1 and b = 2 and port = 65535": and(and(a, b), c), "a = 1 and (b = 2 and port = 65535)": and(a, and(b, c)),
		"a = 1 or b = 2 and port = 65535": or(a, and(b, c)), "(a = 1 or b = 2) and port = 65535": and(or(a, b), c), "a = 1 and (b = 2 or port = 65535)": and(a, or(b, c)),
		"not a = 1": not(a), "not not a = 1": not(not(a)), "not (a = 1 and b = 2)": not(and(a, b)), "not (a = 1 or b = 2) and not true": and(not(or(a, b)), not(pred(api.PrTrue))),
		"a = 1 and not b = 2": and(a, not(b)), "not (not (a = 1 or b = 2) or false)": not(or(not(or(a, b)), pred(api.PrFalse))),
	} {
		if s := syntax.PrintPred(x); s != want {
			t.Errorf("P11.2: PrintPred gives %q, want %q", s, want)
		}
	}
}

func TestSourcesOfPolicies(t *testing.T) {
	a, b, c := set("a", 1), set("b", 2), filter(eq("c", 3))
	for want, x := range map[string]api.Policy{
		"id": id(), "drop": drop(), "a := 1": a, "[c = 3]": c, "[not true]": filter(not(pred(api.PrTrue))), "[a = 1/0 or false]": filter(or(prefix("a", 1, 0), pred(api.PrFalse))),
		"[dst = 5]; mark := 2 + drop*": union(seq(filter(eq("dst", 5)), set("mark", 2)), star(drop())),
		"a := 1 + b := 2 + [c = 3]":    union(union(a, b), c), "a := 1 + (b := 2 + [c = 3])": union(a, union(b, c)), "a := 1; b := 2; [c = 3]": seq(seq(a, b), c), "a := 1; (b := 2; [c = 3])": seq(a, seq(b, c)),
		"a := 1 + b := 2; [c = 3]": union(a, seq(b, c)), "(a := 1 + b := 2); [c = 3]": seq(union(a, b), c), "a := 1; (b := 2 + [c = 3])": seq(a, union(b, c)),
		"a := 1*": star(a), "a := 1**": star(star(a)), "(a := 1; b := 2)*": star(seq(a, b)), "(a := 1 + b := 2)*; id*": seq(star(union(a, b)), star(id())), "[c = 3]*": star(c),
		"((a := 1 + b := 2)*; id)*": star(seq(star(union(a, b)), id())), "[(c = 3 or c = 4) and true]; port := 0": seq(filter(and(or(eq("c", 3), eq("c", 4)), pred(api.PrTrue))), set("port", 0)),
	} {
		if s := syntax.PrintPolicy(x); s != want {
			t.Errorf("P11.2: PrintPolicy gives %q, want %q", s, want)
		}
	}
}

func TestSourcesOfRegexes(t *testing.T) {
	a, b, c := node("a"), node("b"), regex(api.ReAny)
	sequence := func(a, b api.Regex) api.Regex { return regex(api.ReSeq, a, b) }
	either := func(a, b api.Regex) api.Regex { return regex(api.ReOr, a, b) }
	many := func(a api.Regex) api.Regex { return regex(api.ReStar, a) }
	empty := regex(api.ReEmpty)
	for want, x := range map[string]api.Regex{
		"()": empty, "any": c, "a": a, "a; (any | b)*; ()": sequence(sequence(a, many(either(c, b))), empty), "()*": many(empty), "a**": many(many(a)), "() | ()": either(empty, empty),
		"a; (b; any)": sequence(a, sequence(b, c)), "a; b; any": sequence(sequence(a, b), c), "a | b | any": either(either(a, b), c), "a | (b | any)": either(a, either(b, c)),
		"a | b; any": either(a, sequence(b, c)), "(a | b); any*": sequence(either(a, b), many(c)), "a; (b | any)": sequence(a, either(b, c)), "(a; b)* | any": either(many(sequence(a, b)), c),
	} {
		if s := syntax.PrintRegex(x); s != want {
			t.Errorf("P11.2: PrintRegex gives %q, want %q", s, want)
		}
	}
}

func TestSourcesOfStages(t *testing.T) {
	step := func(kind int, field string, n, m int, key ...string) api.Step {
		return api.Step{Kind: kind, Var: "c", Key: key, Field: field, N: n, M: m}
	}
	var program api.Program
	var sources string
	for _, x := range []struct {
		want string
		x    api.Step
	}{
		{"", api.Step{}},
		{"count c by src, dst into mark", step(api.StCount, "mark", 0, 0, "src", "dst")},
		{"count c by port", step(api.StCount, "", 0, 0, "port")},
		{"open c by a, a, b, a", step(api.StOpen, "", 0, 0, "a", "a", "b", "a")},
		{"check c by a within 0", step(api.StCheck, "", 0, 0, "a")},
		{"translate c by a, b into port from 7 to 65535", step(api.StTranslate, "port", 7, 65535, "a", "b")},
		{"back c by a into b", step(api.StBack, "b", 0, 0, "a")},
		{"token c by a, port, b burst 65535 each 1073741824", step(api.StToken, "", 65535, maxTick, "a", "port", "b")},
	} {
		if s := syntax.PrintStep(x.x); s != x.want {
			t.Errorf("P11.2: PrintStep gives %q, want %q", s, x.want)
		}
		want := "stage a := 1*; id then " + x.want + "."
		if x.want == "" {
			want = "stage a := 1*; id."
		}
		stage := api.Stage{Policy: seq(star(set("a", 1)), id()), Step: x.x}
		if s := syntax.PrintStage(stage); s != want {
			t.Errorf("P11.2: PrintStage gives %q, want %q", s, want)
		}
		program, sources = append(program, stage), sources+want+"\n"
		if s := syntax.PrintProgram(program); s != sources {
			t.Errorf("P11.2: PrintProgram gives %q, want %q", s, sources)
		}
	}
	wrong := api.Stage{Policy: id(), Step: api.Step{Kind: api.StOpen}}
	for i, s := range []string{
		syntax.PrintProgram(nil), syntax.PrintProgram(append(slices.Clone(program), program[0])), syntax.PrintProgram(api.Program{program[0], wrong}), syntax.PrintStage(wrong), syntax.PrintStage(api.Stage{}), syntax.PrintStep(wrong.Step),
		syntax.PrintStage(api.Stage{Policy: chained(20, id(), star)}), syntax.PrintPolicy(api.Policy{}), syntax.PrintPred(api.Pred{}), syntax.PrintRegex(api.Regex{}), syntax.PrintPred(eq("a", -1)), syntax.PrintPolicy(chained(19, id(), star)),
	} {
		if s != "" {
			t.Errorf("P11.2: the thing %d has the source %q", i, s)
		}
	}
}

var (
	noneBefore = regexp.MustCompile(` (\.\.|[)\],;.*/])`)
	noneAfter  = regexp.MustCompile(`(\.\.|[(\[/]) `)
)

// without returns tokens without those with two indices.
func without(l []api.Token, i, k int) []api.Token {
	return slices.Concat(l[:i], l[i+1:k], l[k+1:])
}

// partner returns the index of the parenthesis that belongs to the one with an index.
func partner(l []api.Token, open int) int {
	depth := 0
	for i := open; ; i++ {
		switch l[i].Text {
		case "(":
			depth++
		case ")":
			depth--
		}
		if depth == 0 {
			return i
		}
	}
}

func checkPrinted[T any](t *testing.T, seed uint64, f family[T]) {
	t.Helper()
	m := maker{random(seed)}
	parentheses := 0
	for range 3000 {
		x := f.some(m)
		s := f.print(x)
		l := tokensOf(t, s)
		if want := noneAfter.ReplaceAllString(noneBefore.ReplaceAllString(token.Join(l), "$1"), "$1"); s != want {
			t.Fatalf("P11.2: the source of a %s is %q, with the right blanks %q", f.name, s, want)
		}
		if y, problem := f.parse(s); problem != (api.Problem{}) || !f.same(x, y) {
			t.Fatalf("P11.6: the source %q of the %s %v is that of %v, with the problem %v", s, f.name, x, y, problem)
		}
		for i, tok := range l {
			if tok.Text != "(" || l[i+1].Text == ")" {
				continue
			}
			parentheses++
			if y, _, problem := f.read(without(l, i, partner(l, i))); problem.E == api.OK && f.same(x, y) {
				t.Fatalf("P11.2: the source %q of a %s does not need its parentheses at %d", s, f.name, tok.Column)
			}
		}
	}
	if parentheses < 1000 {
		t.Errorf("P11.2: only %d parentheses", parentheses)
	}
}

func TestPrinted(t *testing.T) {
	checkPrinted(t, 21, preds())
	checkPrinted(t, 22, policies())
	checkPrinted(t, 23, regexes())
	checkPrinted(t, 24, stages())
}

func TestPrintedPrograms(t *testing.T) {
	m := maker{random(25)}
	for range 500 {
		p := m.program(m.r.IntN(9), 1+m.r.IntN(15))
		if syntax.CheckProgram(p) != api.OK {
			continue
		}
		s := syntax.PrintProgram(p)
		if q, problems := syntax.ParseProgram(s); len(problems) > 0 || !syntax.SameProgram(p, q) {
			t.Fatalf("P11.6: the source %q of %v is that of %v, with the problems %v", s, p, q, problems)
		}
		if strings.Count(s, "\n") != len(p) || len(p) > 0 && !strings.HasSuffix(s, ".\n") {
			t.Fatalf("P11.2: a program of %d stages has the source %q", len(p), s)
		}
	}
}

func TestLongestSources(t *testing.T) {
	long := strings.Repeat("x", 24)
	wide := balanced(99, between(long, 65534, 65535), func(a, b api.Pred) api.Pred { return and(a, b) })
	right := balanced(65, set(long, 65535), func(a, b api.Policy) api.Policy { return seq(a, star(b)) })
	step := api.Step{Kind: api.StTranslate, Var: long, Key: slices.Repeat([]string{long}, 4), Field: long, N: 65534, M: 65535}
	for _, x := range []api.Policy{filter(wide), right} {
		p := slices.Repeat(api.Program{{Policy: x, Step: step}}, 8)
		if q, problems := syntax.ParseProgram(syntax.PrintProgram(p)); syntax.CheckProgram(p) != api.OK || len(problems) > 0 || !syntax.SameProgram(p, q) {
			t.Errorf("P11.6: a long program gives %d stages and the problems %v", len(q), problems)
		}
	}
}
