package syntax_test

import (
	"slices"
	"strings"
	"testing"

	"interlace/api"
	"interlace/syntax"
)

func at(line, column int, e api.Errno) api.Problem {
	return api.Problem{Line: line, Column: column, E: e}
}

func TestProblemsOfSources(t *testing.T) {
	long := strings.Repeat(" ", 60001)
	full := "true" + strings.Repeat(" ", 59996)
	for source, want := range map[string]api.Problem{
		"": at(1, 1, api.ErrSyntax), "\n ": at(2, 2, api.ErrSyntax), "true": {}, " ( true ) # )": {}, "true true": at(1, 6, api.ErrSyntax), "true)": at(1, 5, api.ErrSyntax), "true\n@": at(2, 1, api.ErrSyntax), "time in 5..5": at(1, 12, api.ErrArg),
		long: at(1, 1, api.ErrLimit), full: {}, "@" + long: at(1, 1, api.ErrLimit), strings.Repeat("not ", 20) + "true )": at(1, 1, api.ErrLimit), "a = 65536 @": at(1, 5, api.ErrArg), "a = 1 / 17": at(1, 9, api.ErrArg),
		"a in 2..1": at(1, 9, api.ErrArg), "a in 2..2": {}, "time in 1073741824..1073741824": at(1, 21, api.ErrArg), "time in 1073741823..0x40000000": {}, "time = 5": at(1, 6, api.ErrSyntax), "a in 65536..1": at(1, 6, api.ErrArg), "a := 1": at(1, 3, api.ErrSyntax),
		"a = 1073741825": at(1, 5, api.ErrSyntax), "a = 0x10000": at(1, 5, api.ErrArg), "not": at(1, 4, api.ErrSyntax), "true and": at(1, 9, api.ErrSyntax), "(true": at(1, 6, api.ErrSyntax), "id": at(1, 1, api.ErrSyntax), "port = 1/16": {}, "in = 5": at(1, 1, api.ErrSyntax),
	} {
		if x, problem := syntax.ParsePred(source); problem != want || problem.E != api.OK && !syntax.SamePred(x, api.Pred{}) {
			t.Errorf("P11.4: ParsePred(%.40q) gives %v and %v, want the problem %v", source, x, problem, want)
		}
	}
	for source, want := range map[string]api.Problem{
		"": at(1, 1, api.ErrSyntax), "id": {}, "id id": at(1, 4, api.ErrSyntax), "id.": at(1, 3, api.ErrSyntax), "[a = 1": at(1, 7, api.ErrSyntax), "[]": at(1, 2, api.ErrSyntax), "a := 65536": at(1, 6, api.ErrArg), "a = 1": at(1, 3, api.ErrSyntax), "a:=1*": {}, "*": at(1, 1, api.ErrSyntax),
		long: at(1, 1, api.ErrLimit), "id" + strings.Repeat("*", 19): at(1, 1, api.ErrLimit), "id" + strings.Repeat("*", 18): {}, "id" + strings.Repeat("*", 59998): at(1, 1, api.ErrLimit), "id" + strings.Repeat("*", 59999): at(1, 1, api.ErrLimit), "true": at(1, 1, api.ErrSyntax), "(id; drop)+port := 0": {}, "id + + id": at(1, 6, api.ErrSyntax),
	} {
		if x, problem := syntax.ParsePolicy(source); problem != want || problem.E != api.OK && !syntax.SamePolicy(x, api.Policy{}) {
			t.Errorf("P11.4: ParsePolicy(%.40q) gives %v and %v, want the problem %v", source, x, problem, want)
		}
	}
	for source, want := range map[string]api.Problem{
		"": at(1, 1, api.ErrSyntax), "()": {}, "( ) ( )": at(1, 5, api.ErrSyntax), "(": at(1, 2, api.ErrSyntax), "(a": at(1, 3, api.ErrSyntax), "port": at(1, 1, api.ErrSyntax), "a b": at(1, 3, api.ErrSyntax), "a;;b": at(1, 3, api.ErrSyntax), "a | any*": {}, "any any": at(1, 5, api.ErrSyntax),
		long: at(1, 1, api.ErrLimit), "a" + strings.Repeat("|a", 20): at(1, 1, api.ErrLimit), "a" + strings.Repeat("|a", 19): {}, "5": at(1, 1, api.ErrSyntax),
	} {
		if x, problem := syntax.ParseRegex(source); problem != want || problem.E != api.OK && !syntax.SameRegex(x, api.Regex{}) {
			t.Errorf("P11.4: ParseRegex(%.40q) gives %v and %v, want the problem %v", source, x, problem, want)
		}
	}
}

func TestDeepSources(t *testing.T) {
	times := func(s string) string { return strings.Repeat(s, 60000/len(s)) }
	for source, want := range map[string]api.Problem{
		times("("): at(1, 60001, api.ErrSyntax), times("not "): at(1, 60001, api.ErrSyntax), times("["): at(1, 2, api.ErrSyntax),
		strings.Repeat("(", 29998) + "true" + strings.Repeat(")", 29998): {}, strings.Repeat("not ", 14999) + "true": at(1, 1, api.ErrLimit),
		strings.Repeat("not(", 11999) + "true" + strings.Repeat(")", 11999): at(1, 1, api.ErrLimit), strings.Repeat("true or ", 7499) + "true": at(1, 1, api.ErrLimit),
	} {
		_, problem := syntax.ParsePred(source)
		if strings.HasPrefix(source, "[") {
			_, problem = syntax.ParsePolicy(source)
		}
		if problem != want {
			t.Errorf("P11.4: %.20q... gives %v, want %v", source, problem, want)
		}
	}
	for source, want := range map[string]api.Problem{times("("): at(1, 60001, api.ErrSyntax), "a" + strings.Repeat("*", 59999): at(1, 1, api.ErrLimit)} {
		if _, problem := syntax.ParseRegex(source); problem != want {
			t.Errorf("P11.4: %.20q... gives %v, want %v", source, problem, want)
		}
	}
	if _, problem := syntax.ParsePolicy(times("(")); problem != at(1, 60001, api.ErrSyntax) {
		t.Errorf("P11.4: a policy of parentheses gives %v", problem)
	}
	program := "stage " + strings.Repeat("(", 50000) + ". stage id."
	if p, problems := syntax.ParseProgram(program); len(p) != 1 || !slices.Equal(problems, []api.Problem{at(1, 50007, api.ErrSyntax)}) {
		t.Errorf("P11.5: %d stages and the problems %v", len(p), problems)
	}
}

// sourcesOfPrograms are sources with the numbers of their right stages, and their problems.
func TestProblemsOfPrograms(t *testing.T) {
	times := func(n int, s string) string { return strings.Repeat(s, n) }
	large := "a := 1" + times(20, "; a := 1")
	for _, x := range []struct {
		source string
		stages int
		want   []api.Problem
	}{
		{"", 0, nil}, {" \n# stage\n", 0, nil}, {"stage id.", 1, nil}, {"stage id. stage drop then open c by a.", 2, nil},
		{times(60001, " "), 0, []api.Problem{at(1, 1, api.ErrLimit)}}, {"stage id." + times(60000, " "), 0, []api.Problem{at(1, 1, api.ErrLimit)}},
		{"stage dst := 70000. stage id.", 1, []api.Problem{at(1, 14, api.ErrArg)}}, {"stage [dst = ]. stage id.", 1, []api.Problem{at(1, 14, api.ErrSyntax)}},
		{"stage . stage id.", 1, []api.Problem{at(1, 7, api.ErrSyntax)}}, {". stage id.", 1, []api.Problem{at(1, 1, api.ErrSyntax)}}, {"...", 0, []api.Problem{at(1, 1, api.ErrSyntax)}}, {". . .", 0, []api.Problem{at(1, 1, api.ErrSyntax), at(1, 3, api.ErrSyntax), at(1, 5, api.ErrSyntax)}},
		{"stage id", 0, []api.Problem{at(1, 9, api.ErrSyntax)}}, {"stage", 0, []api.Problem{at(1, 6, api.ErrSyntax)}}, {"id. stage id", 0, []api.Problem{at(1, 1, api.ErrSyntax), at(1, 13, api.ErrSyntax)}}, {"@ stage id", 0, []api.Problem{at(1, 1, api.ErrSyntax)}},
		{"stage id stage id. stage drop.", 1, []api.Problem{at(1, 10, api.ErrSyntax)}}, {"stage [dst = .5]. stage id.", 1, []api.Problem{at(1, 14, api.ErrSyntax), at(1, 15, api.ErrSyntax)}}, {"stage [a in 5..4]. stage id.", 1, []api.Problem{at(1, 16, api.ErrArg)}},
		{"stage\n" + large + ". stage id.", 1, []api.Problem{at(2, 1, api.ErrLimit)}}, {"stage " + large + " then @ @. stage id.", 1, []api.Problem{at(1, 7, api.ErrLimit)}}, {"stage " + large, 0, []api.Problem{at(1, 7, api.ErrLimit)}},
		{"stage id then open c by a, b, c, d, e, 5. stage id then open c by a, b, c, d.", 1, []api.Problem{at(1, 37, api.ErrArg)}},
		{times(8, "stage id."), 8, nil}, {times(8, "stage id.") + "\nstage id. stage id. @", 8, []api.Problem{at(2, 1, api.ErrLimit)}}, {times(8, "stage id.") + "\n.", 8, []api.Problem{at(2, 1, api.ErrLimit)}}, {times(8, "stage id.") + "\n @", 8, []api.Problem{at(2, 2, api.ErrLimit)}},
		{times(7, "stage id.") + "\nstage. stage id.\nstage.", 8, []api.Problem{at(2, 6, api.ErrSyntax), at(3, 1, api.ErrLimit)}}, {times(7, "stage id.") + "\nstage. stage @", 7, []api.Problem{at(2, 6, api.ErrSyntax), at(2, 14, api.ErrSyntax)}},
		{times(49, ".") + " stage id.", 0, []api.Problem{}}, // two dots are a sign of their own: a run of dots is one stage with a problem
	} {
		if x.want != nil && len(x.want) == 0 {
			x.want = []api.Problem{at(1, 1, api.ErrSyntax)}
			x.stages = 1
		}
		p, problems := syntax.ParseProgram(x.source)
		if len(p) != x.stages || !slices.Equal(problems, x.want) {
			t.Errorf("P11.5: ParseProgram(%.60q) gives %d stages and the problems %v, want %d and %v", x.source, len(p), problems, x.stages, x.want)
		}
	}
}

func TestManyProblems(t *testing.T) {
	for _, wrong := range []int{48, 49, 50, 51, 60} {
		for _, right := range []int{0, 1, 8, 9} {
			for _, rightFirst := range []bool{false, true} {
				source := strings.Repeat("stage.\n", wrong) + strings.Repeat("stage id.\n", right)
				stages, line := min(right, 8), wrong+9
				if wrong >= 50 {
					stages = 0 // the reading ends before them
				}
				var want []api.Problem
				for i := range min(wrong, 50) {
					want = append(want, at(i+1, 6, api.ErrSyntax))
				}
				if right == 9 && wrong < 50 {
					want = append(want, at(line, 1, api.ErrLimit))
				}
				if rightFirst {
					source = strings.Repeat("stage id.\n", right) + strings.Repeat("stage.\n", wrong)
					stages = min(right, 8)
					for i := range want {
						want[i].Line += right
					}
					if right >= 8 {
						want = []api.Problem{at(9, 1, api.ErrLimit)}
					}
				}
				p, problems := syntax.ParseProgram(source)
				if len(p) != stages || !slices.Equal(problems, want) {
					t.Errorf("P11.5: %d wrong stages and %d right ones give %d stages and the problems %v, want %d and %v", wrong, right, len(p), problems, stages, want)
				}
			}
		}
	}
}

// programOf is the second way to ParseProgram: it follows the grammar.
func programOf(g grammar, l []api.Token) (api.Program, []api.Problem) {
	var p api.Program
	var problems []api.Problem
	for l[0].Kind != api.TokEnd {
		if len(problems) == 50 {
			break
		}
		n, e := g.read("stage", l)
		if len(p) == 8 {
			return p, append(problems, at(l[0].Line, l[0].Column, api.ErrLimit))
		}
		if e == api.OK {
			x, _, _ := syntax.ReadStage(l)
			p, l = append(p, x), l[n:]
			continue
		}
		problems = append(problems, at(l[n].Line, l[n].Column, e))
		rest := slices.IndexFunc(l[n:], func(t api.Token) bool { return t.Text == "." })
		if rest < 0 {
			break
		}
		l = l[n+rest+1:]
	}
	return p, problems
}

func TestRandomPrograms(t *testing.T) {
	m := maker{random(51)}
	g := readGrammar()
	for range 3000 {
		var texts []string
		for range m.r.IntN(12) {
			l := m.stageTexts(m.stage(1+m.r.IntN(6)), false)
			if m.r.IntN(3) == 0 {
				l = m.disturb(l)
			}
			texts = append(texts, l...)
		}
		source := m.joined(texts)
		p, problems := syntax.ParseProgram(source)
		want, wantProblems := programOf(g, tokensOf(t, source))
		if !syntax.SameProgram(p, want) || !slices.Equal(problems, wantProblems) {
			t.Fatalf("P11.5: ParseProgram(%q) gives %v and the problems %v, want %v and %v", source, p, problems, want, wantProblems)
		}
		if e := syntax.CheckProgram(p); e != api.OK {
			t.Fatalf("P11.6: the program of %q has the error %d", source, e)
		}
	}
}

func TestSeparators(t *testing.T) {
	m := maker{random(52)}
	for range 500 {
		p := m.program(1+m.r.IntN(8), 1+m.r.IntN(12))
		if syntax.CheckProgram(p) != api.OK {
			continue
		}
		var texts []string
		for _, tok := range tokensOf(t, syntax.PrintProgram(p)) {
			texts = append(texts, tok.Text)
		}
		if q, problems := syntax.ParseProgram(m.joined(texts)); len(problems) > 0 || !syntax.SameProgram(p, q) {
			t.Fatalf("P11.6: with other separators, the source of %v is that of %v, with the problems %v", p, q, problems)
		}
		texts = m.disturb(texts)
		one, problems := syntax.ParseProgram(strings.Join(texts, " "))
		two, others := syntax.ParseProgram(m.joined(texts))
		if !syntax.SameProgram(one, two) || !slices.EqualFunc(problems, others, func(a, b api.Problem) bool { return a.E == b.E }) {
			t.Fatalf("P11.6: with other separators, %q gives %v and %v instead of %v and %v", texts, two, others, one, problems)
		}
	}
}

func TestRecovery(t *testing.T) {
	m := maker{random(53)}
	found := 0
	for range 2000 {
		p := m.program(m.r.IntN(8), 1+m.r.IntN(8))
		var lines []string
		for _, x := range p {
			lines = append(lines, syntax.PrintStage(x))
		}
		wrong := m.disturb(m.stageTexts(m.stage(1+m.r.IntN(6)), false))
		wrong = append(slices.DeleteFunc(wrong, func(s string) bool { return s == "." }), ".")
		alone := strings.Join(wrong, " ")
		if right, problems := syntax.ParseProgram(alone); len(right) > 0 || len(problems) != 1 {
			continue
		}
		found++
		place := m.r.IntN(len(lines) + 1)
		source := strings.Join(slices.Insert(slices.Clone(lines), place, alone), "\n")
		_, problems := syntax.ParseProgram(alone)
		problems[0].Line += place
		if q, others := syntax.ParseProgram(source); !syntax.SameProgram(p, q) || !slices.Equal(problems, others) {
			t.Fatalf("P11.7: the program %q gives %v and the problems %v, want %v and %v", source, q, others, p, problems)
		}
	}
	if found < 500 {
		t.Errorf("P11.7: only %d stages have a problem", found)
	}
}

// spoilAll changes all elements of the lists of a policy.
func spoilAll(x api.Policy) {
	for _, arg := range x.Args {
		spoilAll(arg)
	}
	clear(x.Args)
	clear(x.Pred.Args)
}

func TestNewMemory(t *testing.T) {
	const source = "stage [not a = 1 or true]; (b := 2 + id*) then open c by a, b."
	first, _ := syntax.ParseProgram(source)
	text := syntax.PrintProgram(first)
	second, _ := syntax.ParseProgram(source)
	spoilAll(first[0].Policy)
	clear(first[0].Step.Key)
	if s := syntax.PrintProgram(second); s != text {
		t.Errorf("P11.5: a program is %q after another one of the same source was changed", s)
	}
	shared := second[0].Policy.Args
	_ = append(shared[:1], api.Policy{})
	third, _ := syntax.ParseProgram(source)
	if s := syntax.PrintProgram(third); s != text {
		t.Errorf("P11.5: ParseProgram gives %q after an earlier result was changed", s)
	}
}
