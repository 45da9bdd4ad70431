package typing_test

import (
	"slices"
	"testing"

	"interlace/api"
	"interlace/field"
	"interlace/syntax"
	"interlace/typing"
)

func TestFields(t *testing.T) {
	if field.Check(given()) != api.OK || field.Check(many()) != api.OK {
		t.Fatal("the fields of these tests are not right")
	}
}

func TestPred(t *testing.T) {
	unknown, large := eq("top", 1), eq("dst", 300)
	loop := []api.Pred{{Kind: api.PrNot}}
	loop[0].Args = loop
	for _, x := range []struct {
		x    api.Pred
		want api.Errno
	}{
		{eq("dst", 300), api.ErrArg}, {eq("top", 1), api.ErrName}, {prefix("kind", 1, 4), api.ErrArg}, // the chapter's examples
		{pred(api.PrTrue), api.OK}, {pred(api.PrFalse), api.OK}, {window(0, maxTick), api.OK}, {window(70000, 80000), api.OK},
		{eq("dst", 0), api.OK}, {eq("dst", 255), api.OK}, {eq("dst", 256), api.ErrArg}, {eq("kind", 7), api.OK}, {eq("kind", 8), api.ErrArg},
		{eq("whole", 65535), api.OK}, {eq("bit", 1), api.OK}, {eq("bit", 2), api.ErrArg}, {eq("tag", 8), api.ErrArg}, {eq("tag", 7), api.OK},
		{eq("port", 65535), api.OK}, {prefix("port", 65535, 16), api.OK}, {between("port", 0, 65535), api.OK},
		{prefix("kind", 7, 3), api.OK}, {prefix("kind", 7, 0), api.OK}, {prefix("kind", 8, 0), api.ErrArg}, {prefix("kind", 8, 4), api.ErrArg}, {prefix("kind", 0, 4), api.ErrArg},
		{prefix("kind", 0, 16), api.ErrArg}, {prefix("whole", 0, 16), api.OK}, {prefix("top", 0, 16), api.ErrName}, {prefix("dst", 256, 8), api.ErrArg}, {prefix("dst", 255, 8), api.OK}, {prefix("dst", 255, 9), api.ErrArg},
		{between("kind", 0, 7), api.OK}, {between("kind", 7, 7), api.OK}, {between("kind", 0, 8), api.ErrArg}, {between("kind", 8, 8), api.ErrArg}, {between("top", 0, 0), api.ErrName}, {between("top", 0, 65535), api.ErrName},
		{eq("top", 65535), api.ErrName}, {eq("ds", 1), api.ErrName}, {eq("dst_", 1), api.ErrName},
		{not(unknown), api.ErrName}, {not(large), api.ErrArg}, {and(unknown, large), api.ErrName}, {and(large, unknown), api.ErrArg}, {or(pred(api.PrTrue), large), api.ErrArg}, {or(large, pred(api.PrTrue)), api.ErrArg},
		{or(and(eq("dst", 1), not(large)), unknown), api.ErrArg}, {or(and(eq("dst", 1), not(eq("src", 1))), unknown), api.ErrName}, {or(and(eq("dst", 1), unknown), large), api.ErrName},
		{and(or(eq("dst", 255), between("src", 3, 9)), not(prefix("kind", 4, 1))), api.OK},
		// what syntax says comes first
		{api.Pred{}, api.ErrArg}, {api.Pred{Kind: api.PrKinds + 1}, api.ErrArg}, {eq("stage", 1), api.ErrArg}, {eq("", 1), api.ErrArg}, {eq("Top", 1), api.ErrArg}, {eq("dst", -1), api.ErrArg}, {eq("top", 65536), api.ErrArg},
		{and(unknown, eq("dst", 65536)), api.ErrArg}, {and(unknown, api.Pred{}), api.ErrArg}, {not(api.Pred{Kind: api.PrTrue, N: 1}), api.ErrArg}, {pred(api.PrNot), api.ErrArg}, {pred(api.PrAnd, unknown), api.ErrArg},
		{chained(19, eq("dst", 1), not), api.OK}, {chained(19, large, not), api.ErrArg}, {chained(19, unknown, not), api.ErrName}, {chained(20, unknown, not), api.ErrLimit}, {chained(20, api.Pred{}, not), api.ErrLimit}, {loop[0], api.ErrLimit},
	} {
		if e := typing.Pred(many(), x.x); e != x.want {
			t.Errorf("P12.1: Pred(%v) gives %d, want %d", x.x, e, x.want)
		}
	}
	if typing.Pred(nil, eq("port", 9)) != api.OK || typing.Pred(nil, eq("dst", 9)) != api.ErrName || typing.Pred(nil, pred(api.PrTrue)) != api.OK {
		t.Error("P12.1: predicates without fields")
	}
}

func TestPolicy(t *testing.T) {
	unknown, large := set("top", 1), set("dst", 256)
	loop := []api.Policy{{Kind: api.PoStar}}
	loop[0].Args = loop
	for _, x := range []struct {
		x    api.Policy
		want api.Errno
	}{
		{seq(filter(eq("dst", 5)), set("kind", 7)), api.OK}, {seq(filter(eq("dst", 5)), set("kind", 8)), api.ErrArg}, // the chapter's examples
		{id(), api.OK}, {drop(), api.OK}, {star(id()), api.OK}, {set("port", 65535), api.OK}, {set("port", 0), api.OK}, {set("dst", 255), api.OK}, {set("bit", 1), api.OK}, {set("bit", 2), api.ErrArg}, {set("whole", 65535), api.OK},
		{unknown, api.ErrName}, {large, api.ErrArg}, {set("top", 65535), api.ErrName}, {filter(window(5, maxTick)), api.OK}, {filter(eq("kind", 8)), api.ErrArg}, {filter(eq("top", 8)), api.ErrName}, {filter(prefix("kind", 0, 4)), api.ErrArg}, {filter(between("kind", 0, 8)), api.ErrArg},
		{union(unknown, large), api.ErrName}, {union(large, unknown), api.ErrArg}, {seq(id(), unknown), api.ErrName}, {seq(unknown, id()), api.ErrName}, {star(large), api.ErrArg},
		{seq(filter(and(eq("dst", 256), eq("top", 0))), unknown), api.ErrArg}, {seq(filter(and(eq("top", 0), eq("dst", 256))), large), api.ErrName}, {seq(filter(and(eq("dst", 255), eq("src", 0))), unknown), api.ErrName},
		{seq(seq(star(set("dst", 1)), filter(not(eq("kind", 9)))), unknown), api.ErrArg}, {seq(unknown, filter(eq("kind", 9))), api.ErrName},
		// what syntax says comes first
		{api.Policy{}, api.ErrArg}, {api.Policy{Kind: api.PoKinds + 1}, api.ErrArg}, {set("stage", 1), api.ErrArg}, {set("top", 65536), api.ErrArg}, {set("dst", -1), api.ErrArg}, {seq(unknown, api.Policy{}), api.ErrArg}, {seq(unknown, filter(api.Pred{})), api.ErrArg},
		{api.Policy{Kind: api.PoSet, Field: "top", Pred: eq("dst", 1)}, api.ErrArg}, {policy(api.PoStar), api.ErrArg}, {policy(api.PoSeq, unknown), api.ErrArg},
		{chained(19, set("dst", 1), star), api.OK}, {chained(19, unknown, star), api.ErrName}, {chained(20, unknown, star), api.ErrLimit}, {filter(chained(19, eq("top", 1), not)), api.ErrLimit}, {filter(chained(18, eq("top", 1), not)), api.ErrName}, {loop[0], api.ErrLimit},
	} {
		if e := typing.Policy(many(), x.x); e != x.want {
			t.Errorf("P12.1: Policy(%v) gives %d, want %d", x.x, e, x.want)
		}
	}
	if typing.Policy(nil, set("port", 9)) != api.OK || typing.Policy(nil, set("dst", 9)) != api.ErrName {
		t.Error("P12.1: policies without fields")
	}
}

func TestStep(t *testing.T) {
	step := func(kind int, key string, more api.Step) api.Step {
		more.Kind, more.Var = kind, "c"
		for _, name := range key {
			more.Key = append(more.Key, map[rune]string{'d': "dst", 's': "src", 'k': "kind", 'p': "port", 't': "top", 'u': "up", '!': "Dst", 'w': "stage"}[name])
		}
		return more
	}
	into := func(name string) api.Step { return api.Step{Field: name} }
	numbers := func(name string, n, m int) api.Step { return api.Step{Field: name, N: n, M: m} }
	for _, x := range []struct {
		x    api.Step
		want api.Errno
	}{
		{step(api.StCount, "ss", into("")), api.ErrArg}, {step(api.StTranslate, "s", numbers("kind", 1, 9)), api.ErrArg}, // the chapter's examples
		{api.Step{}, api.OK}, {api.Step{Key: []string{}}, api.OK}, {api.Step{Key: []string{"top"}}, api.ErrArg}, {api.Step{Var: "c"}, api.ErrArg}, {api.Step{Field: "top"}, api.ErrArg},
		{step(api.StCount, "s", into("")), api.OK}, {step(api.StCount, "sdkp", into("")), api.OK}, {step(api.StCount, "sdks", into("")), api.ErrArg}, {step(api.StCount, "pp", into("")), api.ErrArg}, {step(api.StCount, "sdd", into("")), api.ErrArg},
		{step(api.StCount, "s", into("kind")), api.OK}, {step(api.StCount, "s", into("s")), api.ErrName}, {step(api.StCount, "s", into("src")), api.OK}, {step(api.StCount, "s", into("port")), api.OK}, {step(api.StCount, "s", into("top")), api.ErrName},
		{step(api.StCount, "t", into("")), api.ErrName}, {step(api.StCount, "st", into("")), api.ErrName}, {step(api.StCount, "ts", into("kind")), api.ErrName}, {step(api.StCount, "sst", into("")), api.ErrName}, {step(api.StCount, "tt", into("")), api.ErrName}, {step(api.StCount, "ss", into("top")), api.ErrName},
		{step(api.StOpen, "sp", into("")), api.OK}, {step(api.StOpen, "ss", into("")), api.ErrArg}, {step(api.StOpen, "u", into("")), api.ErrName},
		{step(api.StCheck, "s", numbers("", maxTick, 0)), api.OK}, {step(api.StCheck, "ss", numbers("", 5, 0)), api.ErrArg}, {step(api.StCheck, "t", numbers("", 5, 0)), api.ErrName},
		{step(api.StTranslate, "s", numbers("kind", 1, 7)), api.OK}, {step(api.StTranslate, "s", numbers("kind", 8, 8)), api.ErrArg}, {step(api.StTranslate, "s", numbers("kind", 0, 8)), api.ErrArg}, {step(api.StTranslate, "s", numbers("port", 0, 65535)), api.OK}, {step(api.StTranslate, "s", numbers("dst", 0, 255)), api.OK}, {step(api.StTranslate, "s", numbers("dst", 0, 256)), api.ErrArg},
		{step(api.StTranslate, "s", numbers("top", 0, 9)), api.ErrName}, {step(api.StTranslate, "t", numbers("kind", 0, 9)), api.ErrName}, {step(api.StTranslate, "ss", numbers("kind", 0, 7)), api.ErrArg}, {step(api.StTranslate, "ss", numbers("top", 0, 7)), api.ErrName}, {step(api.StTranslate, "s", numbers("src", 0, 7)), api.OK},
		{step(api.StBack, "s", into("kind")), api.OK}, {step(api.StBack, "p", into("port")), api.OK}, {step(api.StBack, "s", into("top")), api.ErrName}, {step(api.StBack, "t", into("kind")), api.ErrName}, {step(api.StBack, "kk", into("kind")), api.ErrArg},
		{step(api.StToken, "s", numbers("", 65535, maxTick)), api.OK}, {step(api.StToken, "ss", numbers("", 1, 1)), api.ErrArg}, {step(api.StToken, "t", numbers("", 1, 1)), api.ErrName},
		// what syntax says comes first
		{step(api.StToken, "t", numbers("", 0, 1)), api.ErrArg}, {step(api.StCount, "!", into("")), api.ErrArg}, {step(api.StCount, "w", into("")), api.ErrArg}, {step(api.StCount, "t", into("Top")), api.ErrArg}, {step(api.StOpen, "t", into("kind")), api.ErrArg}, {step(api.StBack, "t", into("")), api.ErrArg},
		{step(7, "t", into("")), api.ErrArg}, {step(api.StCount, "tttt", into("")), api.ErrName}, {step(api.StCount, "ttttt", into("")), api.ErrArg}, {step(api.StCount, "", into("")), api.ErrArg}, {step(api.StTranslate, "t", numbers("kind", 3, 2)), api.ErrArg},
	} {
		if e := typing.Step(many(), x.x); e != x.want {
			t.Errorf("P12.2: Step(%v) gives %d, want %d", x.x, e, x.want)
		}
	}
	count := api.Step{Kind: api.StCount, Var: "dst", Key: []string{"port"}}
	if typing.Step(nil, count) != api.OK || typing.Step(nil, step(api.StCount, "d", into(""))) != api.ErrName {
		t.Error("P12.2: steps without fields")
	}
}

func TestProgram(t *testing.T) {
	for _, x := range []struct {
		source string
		want   api.Errno
	}{
		{"", api.OK}, {"stage id.", api.OK}, {"stage id. stage id. stage drop.", api.OK},
		// the chapter's examples
		{"stage id then open c by src. stage id then check c by dst within 5.", api.OK},
		{"stage id then open c by src. stage id then check c by kind within 5.", api.ErrType},
		{"stage id then count c by src. stage id then token c by src burst 1 each 1.", api.ErrType},
		// families
		{"stage id then count c by src. stage id then count c by src into kind.", api.OK},
		{"stage id then count c by src. stage id then open c by src.", api.ErrType},
		{"stage id then count c by src. stage id then check c by src within 1.", api.ErrType},
		{"stage id then count c by src. stage id then back c by src into kind.", api.ErrType},
		{"stage id then open c by src. stage id then translate c by src into kind from 0 to 0.", api.ErrType},
		{"stage id then token c by src burst 1 each 1. stage id then translate c by src into kind from 1 to 1.", api.ErrType},
		{"stage id then back c by src into kind. stage id then token c by src burst 1 each 1.", api.ErrType},
		{"stage id then check c by src within 5. stage id then open c by src. stage id then check c by src within 6.", api.OK},
		{"stage id then count a by src. stage id then open b by src. stage id then translate c by src into kind from 0 to 0. stage id then token d by src burst 1 each 1.", api.OK},
		{"stage id then count a by src. stage id then open b by src. stage id. stage id then check a by src within 5.", api.ErrType},
		// keys
		{"stage id then count c by src, kind. stage id then count c by dst, kind.", api.OK},
		{"stage id then count c by src, kind. stage id then count c by kind, src.", api.ErrType},
		{"stage id then count c by src, kind. stage id then count c by src.", api.ErrType},
		{"stage id then count c by src. stage id then count c by src, kind.", api.ErrType},
		{"stage id then count c by port. stage id then count c by whole.", api.OK},
		{"stage id then count c by port. stage id then count c by src.", api.ErrType},
		{"stage id then count c by tag. stage id then count c by kind into src.", api.OK},
		{"stage id then count c by src. stage id then count d by kind. stage id then count c by kind.", api.ErrType},
		{"stage id then translate c by src into kind from 1 to 7. stage id then back c by dst into bit.", api.OK},
		{"stage id then translate c by src into kind from 1 to 7. stage id then back c by kind into kind.", api.ErrType},
		// numbers
		{"stage id then translate c by src into kind from 1 to 7. stage id then translate c by src into dst from 1 to 7.", api.OK},
		{"stage id then translate c by src into kind from 1 to 7. stage id then translate c by src into kind from 1 to 6.", api.ErrType},
		{"stage id then translate c by src into kind from 1 to 7. stage id then translate c by src into kind from 2 to 7.", api.ErrType},
		{"stage id then translate c by src into kind from 0 to 0. stage id then translate c by src into kind from 0 to 1.", api.ErrType},
		{"stage id then back c by src into kind. stage id then translate c by src into kind from 0 to 1. stage id then translate c by src into kind from 0 to 0.", api.ErrType},
		{"stage id then translate c by src into kind from 1 to 7. stage id then back c by src into kind. stage id then translate c by src into kind from 1 to 6.", api.ErrType},
		{"stage id then back c by src into kind. stage id then translate c by src into kind from 1 to 7. stage id then back c by src into dst.", api.OK},
		{"stage id then token c by src burst 1 each 2. stage id. stage id then token c by src burst 1 each 2.", api.OK},
		{"stage id then token c by src burst 1 each 2. stage id then token c by src burst 1 each 1.", api.ErrType},
		{"stage id then token c by src burst 1 each 2. stage id then token c by src burst 2 each 2.", api.ErrType},
		{"stage id then token c by src burst 1 each 2. stage id then token d by src burst 2 each 1.", api.OK},
		// the first stage that does not fit, and in it the policy; only then the variables
		{"stage top := 1. stage dst := 256.", api.ErrName}, {"stage dst := 256. stage top := 1.", api.ErrArg},
		{"stage top := 1 then count c by src, src.", api.ErrName}, {"stage dst := 256 then count c by top.", api.ErrArg},
		{"stage id then count c by top. stage dst := 256.", api.ErrName}, {"stage id then count c by src, src. stage top := 1.", api.ErrArg},
		{"stage id then count c by src. stage id then open c by src. stage top := 1.", api.ErrName},
		{"stage id then count c by src. stage id then open c by src. stage id then count d by src into top.", api.ErrName},
		{"stage id then count c by src. stage id then open c by src, src.", api.ErrArg},
	} {
		if e := typing.Program(many(), parsed(t, x.source)); e != x.want {
			t.Errorf("P12.3: Program of %q gives %d, want %d", x.source, e, x.want)
		}
	}
	unknown := api.Stage{Policy: set("top", 1)}
	for _, x := range []struct {
		p    api.Program
		want api.Errno
	}{
		{make(api.Program, 9), api.ErrLimit}, {append(slices.Repeat(api.Program{unknown}, 8), api.Stage{}), api.ErrLimit}, {slices.Repeat(api.Program{unknown}, 8), api.ErrName}, {slices.Repeat(api.Program{{Policy: id()}}, 8), api.OK},
		{api.Program{unknown, {}}, api.ErrArg}, {api.Program{unknown, {Policy: chained(20, id(), star)}}, api.ErrLimit}, {api.Program{unknown, {Policy: id(), Step: api.Step{Var: "c"}}}, api.ErrArg},
		{api.Program{{Policy: id(), Step: api.Step{Key: []string{}}}, {Policy: id()}}, api.OK},
	} {
		if e := typing.Program(many(), x.p); e != x.want {
			t.Errorf("P12.3: Program(%v) gives %d, want %d", x.p, e, x.want)
		}
	}
}

// A part of a thing, as a field and what is asked of it.
type asked struct {
	field    string
	n, first int
}

func askedOfPred(x api.Pred) []asked {
	var l []asked
	switch x.Kind {
	case api.PrEq:
		l = append(l, asked{x.Field, x.N, 0})
	case api.PrPrefix:
		l = append(l, asked{x.Field, x.N, x.M})
	case api.PrRange:
		l = append(l, asked{x.Field, max(x.N, x.M), 0})
	}
	for _, arg := range x.Args {
		l = append(l, askedOfPred(arg)...)
	}
	return l
}

func askedOfPolicy(x api.Policy) []asked {
	var l []asked
	switch x.Kind {
	case api.PoSet:
		l = append(l, asked{x.Field, x.N, 0})
	case api.PoFilter:
		l = askedOfPred(x.Pred)
	}
	for _, arg := range x.Args {
		l = append(l, askedOfPolicy(arg)...)
	}
	return l
}

// errorOf returns the error of the first part that asks for what no field has.
func errorOf(l []asked) api.Errno {
	for _, x := range l {
		switch width := widthOf(x.field); {
		case width == 0:
			return api.ErrName
		case x.n>>width > 0 || x.first > width:
			return api.ErrArg
		}
	}
	return api.OK
}

func errorOfStep(s api.Step) api.Errno {
	seen := map[string]bool{}
	e := api.OK
	for _, name := range s.Key {
		if widthOf(name) == 0 {
			return api.ErrName
		}
		if seen[name] {
			e = api.ErrArg
		}
		seen[name] = true
	}
	if s.Field != "" && widthOf(s.Field) == 0 {
		return api.ErrName
	}
	if s.Kind == api.StTranslate && s.M > greatest(s.Field) {
		e = api.ErrArg
	}
	return e
}

// A sort is what all steps of a variable must have in common; the numbers are unknown for those that have none.
type sort struct {
	family, keys int
	widths       [4]int
}

func sortOf(s api.Step) sort {
	x := sort{family: []int{0, api.FamCounts, api.FamConnections, api.FamConnections, api.FamTranslations, api.FamTranslations, api.FamTokens}[s.Kind], keys: len(s.Key)}
	for i, name := range s.Key {
		x.widths[i] = widthOf(name)
	}
	return x
}

func errorOfSteps(p api.Program) api.Errno {
	sorts := map[string]sort{}
	numbers := map[string][2]int{}
	for _, s := range p {
		step := s.Step
		if step.Kind == 0 {
			continue
		}
		if before, known := sorts[step.Var]; known && before != sortOf(step) {
			return api.ErrType
		}
		sorts[step.Var] = sortOf(step)
		if step.Kind != api.StTranslate && step.Kind != api.StToken {
			continue
		}
		if before, known := numbers[step.Var]; known && before != [2]int{step.N, step.M} {
			return api.ErrType
		}
		numbers[step.Var] = [2]int{step.N, step.M}
	}
	return api.OK
}

func errorOfProgram(p api.Program) api.Errno {
	for _, s := range p {
		if e := errorOf(askedOfPolicy(s.Policy)); e != api.OK {
			return e
		}
		if e := errorOfStep(s.Step); e != api.OK {
			return e
		}
	}
	return errorOfSteps(p)
}

// first returns the first error.
func first(l ...api.Errno) api.Errno {
	for _, e := range l {
		if e != api.OK {
			return e
		}
	}
	return api.OK
}

// tally counts errors, and fails if one of them is too seldom for the test to say something about it.
type tally map[api.Errno]int

func (c tally) enough(t *testing.T, name string, least int, errors ...api.Errno) {
	t.Helper()
	for _, e := range errors {
		if c[e] < least {
			t.Errorf("%s: only %d random things have the error %d", name, c[e], e)
		}
	}
}

func TestRandomErrors(t *testing.T) {
	m := making(1, 12)
	preds, policies, steps := tally{}, tally{}, tally{}
	for range 20000 {
		x := m.pred(m.nodes())
		want := first(syntax.CheckPred(x), errorOf(askedOfPred(x)))
		if e := typing.Pred(many(), x); e != want {
			t.Fatalf("P12.1: Pred(%v) gives %d, want %d", x, e, want)
		}
		preds[want]++
		y := m.policy(m.nodes())
		want = first(syntax.CheckPolicy(y), errorOf(askedOfPolicy(y)))
		if e := typing.Policy(many(), y); e != want {
			t.Fatalf("P12.1: Policy(%v) gives %d, want %d", y, e, want)
		}
		policies[want]++
		s := m.step()
		want = first(syntax.CheckStep(s), errorOfStep(s))
		if e := typing.Step(many(), s); e != want {
			t.Fatalf("P12.2: Step(%v) gives %d, want %d", s, e, want)
		}
		steps[want]++
	}
	preds.enough(t, "P12.1 Pred", 50, api.OK, api.ErrName, api.ErrArg, api.ErrLimit)
	policies.enough(t, "P12.1 Policy", 100, api.OK, api.ErrName, api.ErrArg, api.ErrLimit)
	steps.enough(t, "P12.2", 100, api.OK, api.ErrName, api.ErrArg)
}

func TestRandomPrograms(t *testing.T) {
	seen := tally{}
	for i, m := range []maker{making(2, 0), making(3, 0), making(4, 100)} {
		for range 10000 {
			step := m.alike
			if i == 0 {
				step = m.step
			}
			p := m.program(m.r.IntN(10), m.nodes(), step)
			want := first(syntax.CheckProgram(p), errorOfProgram(p))
			if e := typing.Program(many(), p); e != want {
				t.Fatalf("P12.3: Program(%v) gives %d, want %d", p, e, want)
			}
			seen[want]++
		}
	}
	seen.enough(t, "P12.3", 500, api.OK, api.ErrName, api.ErrArg, api.ErrType, api.ErrLimit)
}

// A part of a policy that fits fits, and the whole does if its parts do.
func TestParts(t *testing.T) {
	m := making(5, 9)
	seen := tally{}
	for range 20000 {
		a, b := m.small(), m.small()
		fits := typing.Policy(many(), a) == api.OK && typing.Policy(many(), b) == api.OK
		whole := pick(m, union(a, b), seq(a, b), star(seq(b, a)))
		e := typing.Policy(many(), whole)
		if e != api.ErrLimit && (e == api.OK) != fits {
			t.Fatalf("P12.8: Policy(%v) gives %d, but for its parts %v", whole, e, fits)
		}
		seen[e]++
		c, d := m.smallPred(), m.smallPred()
		fits = typing.Pred(many(), c) == api.OK && typing.Pred(many(), d) == api.OK
		both := pick(m, and(c, d), or(c, d), not(and(c, d)))
		if e := typing.Pred(many(), both); e != api.ErrLimit && (e == api.OK) != fits {
			t.Fatalf("P12.8: Pred(%v) gives %d, but for its parts %v", both, e, fits)
		}
		if e := typing.Policy(many(), filter(both)); e != api.ErrLimit && (e == api.OK) != fits {
			t.Fatalf("P12.8: Policy of the filter of %v gives %d, but for its parts %v", both, e, fits)
		}
	}
	seen.enough(t, "P12.8", 100, api.OK, api.ErrName, api.ErrArg)
}

// renamed returns a program whose variables have other names.
func renamed(p api.Program) api.Program {
	q := slices.Clone(p)
	for i := range q {
		if q[i].Step.Kind != 0 {
			q[i].Step.Var += "_2"
		}
	}
	return q
}

func TestSomeStages(t *testing.T) {
	m := making(6, 0)
	fitting, joined := 0, 0
	for range 10000 {
		p := m.program(m.r.IntN(9), m.nodes(), m.alike)
		q := m.program(m.r.IntN(5), m.nodes(), m.alike)
		if typing.Program(many(), p) != api.OK {
			continue
		}
		fitting++
		var some api.Program
		for _, i := range m.r.Perm(len(p)) {
			if m.r.IntN(3) > 0 {
				some = append(some, p[i])
			}
		}
		if e := typing.Program(many(), some); e != api.OK {
			t.Fatalf("P12.10: some stages of a program that fits, %v, give %d", some, e)
		}
		if q = renamed(q); typing.Program(many(), q) != api.OK {
			continue
		}
		both := slices.Concat(p, q)
		want := api.OK
		if len(both) > 8 {
			want = api.ErrLimit
		} else {
			joined++
		}
		if e := typing.Program(many(), both); e != want {
			t.Fatalf("P12.10: two programs that fit, %v and %v, give %d together, want %d", p, q, e, want)
		}
	}
	if fitting < 1000 || joined < 300 {
		t.Errorf("P12.10: only %d random programs fit, and only %d together", fitting, joined)
	}
}
