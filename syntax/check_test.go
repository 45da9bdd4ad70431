package syntax_test

import (
	"math"
	"reflect"
	"slices"
	"strings"
	"testing"

	"interlace/api"
	"interlace/syntax"
	"interlace/token"
)

func TestLimits(t *testing.T) {
	got := []int{syntax.MaxNodes, syntax.MaxNesting, syntax.MaxStages, syntax.MaxKey, syntax.MaxProblems}
	if want := []int{200, 20, 8, 4, 50}; !slices.Equal(got, want) {
		t.Errorf("P11.1: the limits are %v, want %v", got, want)
	}
}

func TestPlain(t *testing.T) {
	for s, want := range map[string]bool{
		"a": true, "x_1": true, "": false, "port": false, "time": false, "any": false, "A": false, "a b": false, "9": false,
		strings.Repeat("a", 24): true, strings.Repeat("a", 25): false, "a\x00": false,
	} {
		if syntax.Plain(s) != want || token.Name(s) != want {
			t.Errorf("P11.1: Plain(%q) is %v", s, !want)
		}
	}
}

// A second way to forms: all that a form mentions is taken over into a bare thing, which must then be the whole thing.

func value(n int) bool { return n >= 0 && n <= 65535 }

func fieldNamed(s string) bool { return token.Name(s) || s == "port" }

func predForm(x api.Pred) bool {
	bare := api.Pred{Kind: x.Kind}
	right, args := false, 0
	switch x.Kind {
	case api.PrTrue, api.PrFalse:
		right = true
	case api.PrEq:
		bare.Field, bare.N = x.Field, x.N
		right = fieldNamed(x.Field) && value(x.N)
	case api.PrPrefix:
		bare.Field, bare.N, bare.M = x.Field, x.N, x.M
		right = fieldNamed(x.Field) && value(x.N) && x.M >= 0 && x.M <= 16
	case api.PrRange:
		bare.Field, bare.N, bare.M = x.Field, x.N, x.M
		right = fieldNamed(x.Field) && value(x.N) && value(x.M) && x.N <= x.M
	case api.PrTime:
		bare.N, bare.M = x.N, x.M
		right = x.N >= 0 && x.N < x.M && x.M <= maxTick
	case api.PrNot:
		right, args = true, 1
	case api.PrAnd, api.PrOr:
		right, args = true, 2
	}
	for _, arg := range x.Args {
		right = right && predForm(arg)
	}
	bare.Args = x.Args
	return right && len(x.Args) == args && reflect.DeepEqual(x, bare)
}

func policyForm(x api.Policy) bool {
	bare := api.Policy{Kind: x.Kind}
	right, args := false, 0
	switch x.Kind {
	case api.PoFilter:
		bare.Pred = x.Pred
		right = predForm(x.Pred)
	case api.PoSet:
		bare.Field, bare.N = x.Field, x.N
		right = fieldNamed(x.Field) && value(x.N)
	case api.PoStar:
		right, args = true, 1
	case api.PoUnion, api.PoSeq:
		right, args = true, 2
	}
	for _, arg := range x.Args {
		right = right && policyForm(arg)
	}
	if x.Kind != api.PoFilter && x.Pred.Args != nil && len(x.Pred.Args) == 0 {
		x.Pred.Args = nil // a list without elements is none
	}
	bare.Args = x.Args
	return right && len(x.Args) == args && reflect.DeepEqual(x, bare)
}

func stepForm(x api.Step) bool {
	if len(x.Key) == 0 {
		x.Key = nil
	}
	if reflect.DeepEqual(x, api.Step{}) {
		return true
	}
	bare := api.Step{Kind: x.Kind, Var: x.Var, Key: x.Key}
	right := false
	switch x.Kind {
	case api.StCount:
		bare.Field = x.Field
		right = x.Field == "" || fieldNamed(x.Field)
	case api.StOpen:
		right = true
	case api.StCheck:
		bare.N = x.N
		right = x.N >= 0 && x.N <= maxTick
	case api.StTranslate:
		bare.Field, bare.N, bare.M = x.Field, x.N, x.M
		right = fieldNamed(x.Field) && value(x.N) && value(x.M) && x.N <= x.M
	case api.StBack:
		bare.Field = x.Field
		right = fieldNamed(x.Field)
	case api.StToken:
		bare.N, bare.M = x.N, x.M
		right = value(x.N) && x.N > 0 && x.M > 0 && x.M <= maxTick
	}
	for _, field := range x.Key {
		right = right && fieldNamed(field)
	}
	return right && token.Name(x.Var) && len(x.Key) > 0 && len(x.Key) <= 4 && reflect.DeepEqual(x, bare)
}

func regexForm(x api.Regex) bool {
	args, right := map[int]int{api.ReEmpty: 0, api.ReAny: 0, api.ReNode: 0, api.ReSeq: 2, api.ReOr: 2, api.ReStar: 1}[x.Kind]
	if right = right && token.Name(x.Node) == (x.Kind == api.ReNode); x.Kind != api.ReNode {
		right = right && x.Node == ""
	}
	for _, arg := range x.Args {
		right = right && regexForm(arg)
	}
	return right && len(x.Args) == args
}

func errorOf(large, formed bool) api.Errno {
	switch {
	case large:
		return api.ErrLimit
	case !formed:
		return api.ErrArg
	}
	return api.OK
}

var strangeNumbers = []int{0, 1, -1, 15, 16, 17, 65535, 65536, maxTick - 1, maxTick, maxTick + 1, math.MaxInt, math.MinInt, math.MaxInt - 1}

var strangeNames = []string{"", "port", "dst", "time", "any", "Dst", "a b", "_a", "9", strings.Repeat("a", 24), strings.Repeat("a", 25), "\xff"}

// spoil changes something about a predicate, or one of its parts.
func (m maker) spoil(x *api.Pred) {
	x.Args = slices.Clone(x.Args)
	if len(x.Args) > 0 && m.r.IntN(3) > 0 {
		m.spoil(&x.Args[m.r.IntN(len(x.Args))])
		return
	}
	switch m.r.IntN(7) {
	case 0:
		x.Kind = m.r.IntN(api.PrKinds+3) - 1
	case 1:
		x.Field = pick(m, strangeNames...)
	case 2:
		x.N = pick(m, strangeNumbers...)
	case 3:
		x.M = pick(m, strangeNumbers...)
	case 4:
		x.Args = append(x.Args, m.pred(1))
	case 5:
		x.Args = x.Args[:max(0, len(x.Args)-1)]
	case 6:
		x.Kind, x.N, x.M = pick(m, strangeNumbers...), pick(m, strangeNumbers...), pick(m, strangeNumbers...)
	}
}

func (m maker) spoilPolicy(x *api.Policy) {
	x.Args = slices.Clone(x.Args)
	if len(x.Args) > 0 && m.r.IntN(3) > 0 {
		m.spoilPolicy(&x.Args[m.r.IntN(len(x.Args))])
		return
	}
	switch m.r.IntN(6) {
	case 0:
		x.Kind = m.r.IntN(api.PoKinds+3) - 1
	case 1:
		x.Field = pick(m, strangeNames...)
	case 2:
		x.N = pick(m, strangeNumbers...)
	case 3:
		m.spoil(&x.Pred)
	case 4:
		x.Args = append(x.Args, m.policy(1))
	case 5:
		x.Args = x.Args[:max(0, len(x.Args)-1)]
	}
}

func (m maker) spoilRegex(x *api.Regex) {
	x.Args = slices.Clone(x.Args)
	if len(x.Args) > 0 && m.r.IntN(3) > 0 {
		m.spoilRegex(&x.Args[m.r.IntN(len(x.Args))])
		return
	}
	switch m.r.IntN(4) {
	case 0:
		x.Kind = m.r.IntN(api.ReKinds+3) - 1
	case 1:
		x.Node = pick(m, strangeNames...)
	case 2:
		x.Args = append(x.Args, m.regex(1))
	case 3:
		x.Args = x.Args[:max(0, len(x.Args)-1)]
	}
}

func (m maker) spoilStep(x *api.Step) {
	x.Key = slices.Clone(x.Key)
	switch m.r.IntN(8) {
	case 0:
		x.Kind = m.r.IntN(api.StKinds+3) - 1
	case 1:
		x.Field = pick(m, strangeNames...)
	case 2:
		x.Var = pick(m, strangeNames...)
	case 3:
		x.N = pick(m, strangeNumbers...)
	case 4:
		x.M = pick(m, strangeNumbers...)
	case 5:
		x.Key = append(x.Key, m.field())
	case 6:
		x.Key = x.Key[:max(0, len(x.Key)-1)]
	case 7:
		if len(x.Key) > 0 {
			x.Key[m.r.IntN(len(x.Key))] = pick(m, strangeNames...)
		}
	}
}

// checkSpoilt compares the errors of random things with those that are expected.
func checkSpoilt[T any](t *testing.T, seed uint64, f family[T], spoil func(maker, *T), formed func(T) bool) {
	t.Helper()
	m := maker{random(seed)}
	seen := map[api.Errno]int{}
	for range 8000 {
		x := f.make(m, 1+m.r.IntN(pick(m, 3, 10, 30, 2000)))
		for range m.r.IntN(3) {
			spoil(m, &x)
		}
		want := errorOf(tooLarge(f.size(x)), formed(x))
		if e := f.check(x); e != want {
			t.Fatalf("P11.1: the check of the %s %v gives %d, want %d", f.name, x, e, want)
		}
		if s := f.print(x); (s != "") != (want == api.OK) {
			t.Fatalf("P11.2: the source of the %s %v, whose error is %d, is %q", f.name, x, want, s)
		}
		seen[want]++
	}
	for _, e := range []api.Errno{api.OK, api.ErrArg, api.ErrLimit} {
		if seen[e] < 200 {
			t.Errorf("P11.1: only %d random things of the kind %s have the error %d", seen[e], f.name, e)
		}
	}
}

func TestSpoilt(t *testing.T) {
	checkSpoilt(t, 1, preds(), maker.spoil, predForm)
	checkSpoilt(t, 2, policies(), maker.spoilPolicy, policyForm)
	checkSpoilt(t, 3, regexes(), maker.spoilRegex, regexForm)
	spoilStage := func(m maker, x *api.Stage) {
		if m.r.IntN(2) == 0 {
			m.spoilPolicy(&x.Policy)
		} else {
			m.spoilStep(&x.Step)
		}
	}
	checkSpoilt(t, 4, stages(), spoilStage, func(x api.Stage) bool { return policyForm(x.Policy) && stepForm(x.Step) })
	m := maker{random(5)}
	for range 30000 {
		x := m.step()
		for range m.r.IntN(3) {
			m.spoilStep(&x)
		}
		want := errorOf(false, stepForm(x))
		if e := syntax.CheckStep(x); e != want {
			t.Fatalf("P11.1: CheckStep(%v) gives %d, want %d", x, e, want)
		}
		if s := syntax.PrintStep(x); (s != "") != (want == api.OK && x.Kind != 0) {
			t.Fatalf("P11.2: PrintStep(%v), whose error is %d, is %q", x, want, s)
		}
	}
}

func TestCheckPred(t *testing.T) {
	for _, x := range []struct {
		x    api.Pred
		want api.Errno
	}{
		{api.Pred{}, api.ErrArg}, {pred(api.PrTrue), api.OK}, {pred(api.PrFalse), api.OK}, {api.Pred{Kind: 10}, api.ErrArg}, {api.Pred{Kind: -1}, api.ErrArg},
		{api.Pred{Kind: api.PrTrue, Args: []api.Pred{}}, api.OK}, {pred(api.PrTrue, pred(api.PrTrue)), api.ErrArg}, {api.Pred{Kind: api.PrTrue, N: 1}, api.ErrArg},
		{api.Pred{Kind: api.PrTrue, M: 1}, api.ErrArg}, {api.Pred{Kind: api.PrFalse, Field: "a"}, api.ErrArg},
		{eq("a", 0), api.OK}, {eq("port", 65535), api.OK}, {eq("a", 65536), api.ErrArg}, {eq("a", -1), api.ErrArg}, {eq("", 1), api.ErrArg}, {eq("time", 1), api.ErrArg},
		{api.Pred{Kind: api.PrEq, Field: "a", M: 1}, api.ErrArg}, {pred(api.PrEq), api.ErrArg},
		{prefix("a", 65535, 0), api.OK}, {prefix("port", 0, 16), api.OK}, {prefix("a", 0, 17), api.ErrArg}, {prefix("a", 0, -1), api.ErrArg}, {prefix("a", 65536, 1), api.ErrArg}, {prefix("A", 0, 1), api.ErrArg},
		{between("a", 0, 65535), api.OK}, {between("a", 5, 5), api.OK}, {between("a", 6, 5), api.ErrArg}, {between("a", -1, 5), api.ErrArg}, {between("a", 0, 65536), api.ErrArg}, {between("", 0, 1), api.ErrArg},
		{window(0, 1), api.OK}, {window(maxTick-1, maxTick), api.OK}, {window(5, 5), api.ErrArg}, {window(6, 5), api.ErrArg}, {window(-1, 5), api.ErrArg}, {window(0, maxTick+1), api.ErrArg}, {window(math.MaxInt, math.MaxInt), api.ErrArg},
		{window(math.MaxInt, math.MinInt), api.ErrArg}, {window(maxTick, maxTick), api.ErrArg}, {api.Pred{Kind: api.PrTime, Field: "time", N: 1, M: 2}, api.ErrArg}, {window(0, 0), api.ErrArg},
		{not(pred(api.PrTrue)), api.OK}, {pred(api.PrNot), api.ErrArg}, {not(api.Pred{}), api.ErrArg}, {pred(api.PrNot, pred(api.PrTrue), pred(api.PrTrue)), api.ErrArg},
		{and(pred(api.PrTrue), eq("a", 1)), api.OK}, {pred(api.PrAnd, pred(api.PrTrue)), api.ErrArg}, {or(pred(api.PrTrue), eq("a", -1)), api.ErrArg}, {or(eq("a", -1), pred(api.PrTrue)), api.ErrArg},
		{pred(api.PrOr, eq("a", 1), eq("a", 1), eq("a", 1)), api.ErrArg}, {api.Pred{Kind: api.PrOr, N: 1, Args: []api.Pred{eq("a", 1), eq("a", 1)}}, api.ErrArg},
	} {
		if e := syntax.CheckPred(x.x); e != x.want {
			t.Errorf("P11.1: CheckPred(%v) gives %d, want %d", x.x, e, x.want)
		}
	}
}

func TestCheckPolicyAndRegex(t *testing.T) {
	for _, x := range []struct {
		x    api.Policy
		want api.Errno
	}{
		{api.Policy{}, api.ErrArg}, {id(), api.OK}, {drop(), api.OK}, {filter(api.Pred{}), api.ErrArg}, {filter(eq("a", -1)), api.ErrArg}, {api.Policy{Kind: 6}, api.ErrArg},
		{api.Policy{Kind: api.PoFilter, Pred: eq("a", 1), N: 1}, api.ErrArg}, {api.Policy{Kind: api.PoFilter, Pred: eq("a", 1), Field: "a"}, api.ErrArg},
		{api.Policy{Kind: api.PoFilter, Pred: eq("a", 1), Args: []api.Policy{id()}}, api.ErrArg},
		{set("a", 0), api.OK}, {set("port", 65535), api.OK}, {set("a", 65536), api.ErrArg}, {set("a", -1), api.ErrArg}, {set("", 1), api.ErrArg}, {set("id", 1), api.ErrArg},
		{api.Policy{Kind: api.PoSet, Field: "a", Pred: pred(api.PrTrue)}, api.ErrArg}, {api.Policy{Kind: api.PoSet, Field: "a", Pred: api.Pred{Args: []api.Pred{}}}, api.OK},
		{api.Policy{Kind: api.PoSet, Field: "a", Pred: api.Pred{M: 1}}, api.ErrArg}, {api.Policy{Kind: api.PoSet, Field: "a", Pred: api.Pred{Args: make([]api.Pred, 1)}}, api.ErrArg},
		{star(id()), api.OK}, {policy(api.PoStar), api.ErrArg}, {policy(api.PoStar, id(), id()), api.ErrArg}, {star(api.Policy{}), api.ErrArg},
		{union(id(), set("a", 1)), api.OK}, {seq(id(), set("a", -1)), api.ErrArg}, {policy(api.PoSeq, id()), api.ErrArg}, {policy(api.PoUnion), api.ErrArg}, {policy(api.PoUnion, id(), id(), id()), api.ErrArg},
		{api.Policy{Kind: api.PoUnion, Pred: pred(api.PrTrue), Args: []api.Policy{id(), id()}}, api.ErrArg},
	} {
		if e := syntax.CheckPolicy(x.x); e != x.want {
			t.Errorf("P11.1: CheckPolicy(%v) gives %d, want %d", x.x, e, x.want)
		}
	}
	for _, x := range []struct {
		x    api.Regex
		want api.Errno
	}{
		{api.Regex{}, api.ErrArg}, {regex(api.ReEmpty), api.OK}, {regex(api.ReAny), api.OK}, {api.Regex{Kind: 7}, api.ErrArg}, {node("a"), api.OK}, {node(""), api.ErrArg}, {node("port"), api.ErrArg}, {node("any"), api.ErrArg},
		{api.Regex{Kind: api.ReAny, Node: "a"}, api.ErrArg}, {regex(api.ReAny, node("a")), api.ErrArg}, {regex(api.ReStar, node("a")), api.OK}, {regex(api.ReStar), api.ErrArg},
		{regex(api.ReSeq, node("a"), node("b")), api.OK}, {regex(api.ReSeq, node("a")), api.ErrArg}, {regex(api.ReOr, node("a"), node("")), api.ErrArg}, {regex(api.ReOr, node("a"), node("b"), node("c")), api.ErrArg},
		{api.Regex{Kind: api.ReStar, Node: "a", Args: []api.Regex{node("a")}}, api.ErrArg}, {api.Regex{Kind: api.ReNode, Node: "a", Args: []api.Regex{}}, api.OK},
	} {
		if e := syntax.CheckRegex(x.x); e != x.want {
			t.Errorf("P11.1: CheckRegex(%v) gives %d, want %d", x.x, e, x.want)
		}
	}
}

func TestCheckStep(t *testing.T) {
	step := func(kind int, field string, n, m int) api.Step {
		return api.Step{Kind: kind, Var: "c", Key: []string{"src"}, Field: field, N: n, M: m}
	}
	key := func(fields ...string) api.Step { return api.Step{Kind: api.StOpen, Var: "c", Key: fields} }
	for _, x := range []struct {
		x    api.Step
		want api.Errno
	}{
		{api.Step{}, api.OK}, {api.Step{Key: []string{}}, api.OK}, {api.Step{Var: "c"}, api.ErrArg}, {api.Step{Key: []string{"a"}}, api.ErrArg}, {api.Step{Field: "a"}, api.ErrArg}, {api.Step{N: 1}, api.ErrArg}, {api.Step{M: 1}, api.ErrArg},
		{step(0, "", 0, 0), api.ErrArg}, {step(7, "", 0, 0), api.ErrArg}, {step(-1, "", 0, 0), api.ErrArg},
		{step(api.StCount, "", 0, 0), api.OK}, {step(api.StCount, "port", 0, 0), api.OK}, {step(api.StCount, "id", 0, 0), api.ErrArg}, {step(api.StCount, "", 1, 0), api.ErrArg}, {step(api.StCount, "a", 0, 1), api.ErrArg},
		{step(api.StOpen, "", 0, 0), api.OK}, {step(api.StOpen, "a", 0, 0), api.ErrArg}, {step(api.StOpen, "", 1, 0), api.ErrArg},
		{step(api.StCheck, "", 0, 0), api.OK}, {step(api.StCheck, "", maxTick, 0), api.OK}, {step(api.StCheck, "", maxTick+1, 0), api.ErrArg}, {step(api.StCheck, "", -1, 0), api.ErrArg}, {step(api.StCheck, "", 1, 1), api.ErrArg}, {step(api.StCheck, "a", 1, 0), api.ErrArg},
		{step(api.StTranslate, "a", 0, 0), api.OK}, {step(api.StTranslate, "port", 0, 65535), api.OK}, {step(api.StTranslate, "", 0, 0), api.ErrArg}, {step(api.StTranslate, "a", 2, 1), api.ErrArg}, {step(api.StTranslate, "a", 0, 65536), api.ErrArg}, {step(api.StTranslate, "a", -1, 0), api.ErrArg},
		{step(api.StBack, "a", 0, 0), api.OK}, {step(api.StBack, "", 0, 0), api.ErrArg}, {step(api.StBack, "a", 1, 0), api.ErrArg}, {step(api.StBack, "a", 0, 1), api.ErrArg},
		{step(api.StToken, "", 1, 1), api.OK}, {step(api.StToken, "", 65535, maxTick), api.OK}, {step(api.StToken, "", 0, 1), api.ErrArg}, {step(api.StToken, "", 1, 0), api.ErrArg}, {step(api.StToken, "", 65536, 1), api.ErrArg}, {step(api.StToken, "", 1, maxTick+1), api.ErrArg}, {step(api.StToken, "a", 1, 1), api.ErrArg},
		{key(), api.ErrArg}, {key("a", "b", "port", "a"), api.OK}, {key("a", "b", "c", "d", "e"), api.ErrArg}, {key("a", ""), api.ErrArg}, {key("time"), api.ErrArg},
		{api.Step{Kind: api.StOpen, Key: []string{"a"}}, api.ErrArg}, {api.Step{Kind: api.StOpen, Var: "port", Key: []string{"a"}}, api.ErrArg},
	} {
		if e := syntax.CheckStep(x.x); e != x.want {
			t.Errorf("P11.1: CheckStep(%v) gives %d, want %d", x.x, e, x.want)
		}
	}
}

func TestCheckProgram(t *testing.T) {
	large := chained(20, set("a", 1), star)
	wrongStep := api.Step{Kind: 9}
	stage := func(x api.Policy, s api.Step) api.Stage { return api.Stage{Policy: x, Step: s} }
	right := stage(id(), api.Step{})
	for i, x := range []struct {
		x    api.Program
		want api.Errno
	}{
		{nil, api.OK}, {api.Program{}, api.OK}, {api.Program{right}, api.OK}, {slices.Repeat(api.Program{right}, 8), api.OK}, {slices.Repeat(api.Program{right}, 9), api.ErrLimit}, {make(api.Program, 9), api.ErrLimit},
		{make(api.Program, 8), api.ErrArg}, {api.Program{right, stage(large, api.Step{})}, api.ErrLimit}, {api.Program{stage(large, wrongStep)}, api.ErrLimit}, {api.Program{stage(id(), wrongStep), stage(large, api.Step{})}, api.ErrArg},
		{api.Program{stage(large, api.Step{}), stage(id(), wrongStep)}, api.ErrLimit}, {api.Program{right, stage(id(), wrongStep)}, api.ErrArg}, {api.Program{stage(set("a", -1), api.Step{}), stage(large, api.Step{})}, api.ErrArg},
	} {
		if e := syntax.CheckProgram(x.x); e != x.want {
			t.Errorf("P11.1: CheckProgram of the program %d gives %d, want %d", i, e, x.want)
		}
		if s := syntax.PrintProgram(x.x); x.want != api.OK && s != "" {
			t.Errorf("P11.2: the source of the wrong program %d is %q", i, s)
		}
	}
}

// checkSizes checks trees around the limits; wrong is a leaf that is not formed.
func checkSizes[T any](t *testing.T, f family[T], leaf, wrong T, one func(T) T, two func(a, b T) T) {
	t.Helper()
	leafNodes, leafDepth := f.size(leaf)
	for _, x := range []struct {
		what string
		x    T
		want api.Errno
	}{
		{"depth 20", chained(20-leafDepth, leaf, one), api.OK},
		{"depth 21", chained(21-leafDepth, leaf, one), api.ErrLimit},
		{"depth 20 with a wrong leaf", chained(19, wrong, one), api.ErrArg},
		{"depth 21 with a wrong leaf", chained(20, wrong, one), api.ErrLimit},
		{"depth 20 on the left", chained(20-leafDepth, leaf, func(x T) T { return two(x, leaf) }), api.OK},
		{"depth 21 on the left", chained(21-leafDepth, leaf, func(x T) T { return two(x, leaf) }), api.ErrLimit},
		{"depth 20 on the right", chained(20-leafDepth, leaf, func(x T) T { return two(leaf, x) }), api.OK},
		{"depth 21 on the right", chained(21-leafDepth, leaf, func(x T) T { return two(leaf, x) }), api.ErrLimit},
		{"depth 100000", chained(100000, leaf, one), api.ErrLimit},
		{"nodes without bound", chained(62, leaf, func(x T) T { return two(x, x) }), api.ErrLimit},
	} {
		if e := f.check(x.x); e != x.want {
			t.Errorf("P11.1: the check of a %s of %s gives %d, want %d", f.name, x.what, e, x.want)
		}
	}
	for nodes := 190; nodes < 210; nodes++ {
		leaves := (nodes + 1) / (leafNodes + 1)
		low := func(leaf T) T {
			x := two(balanced(leaves-1, leaf, two), leaf)
			n, _ := f.size(x)
			return chained(nodes-n, x, one)
		}
		want := api.OK
		if nodes > 200 {
			want = api.ErrLimit
		}
		x := low(leaf)
		if n, depth := f.size(x); n != nodes || depth > 20 {
			t.Fatalf("a %s of %d nodes has %d, and the depth %d", f.name, nodes, n, depth)
		}
		if e := f.check(x); e != want {
			t.Errorf("P11.1: the check of a %s of %d nodes gives %d, want %d", f.name, nodes, e, want)
		}
	}
}

func TestSizes(t *testing.T) {
	checkSizes(t, preds(), eq("a", 1), eq("a", -1), not, and)
	checkSizes(t, policies(), set("a", 1), set("a", -1), star, union)
	checkSizes(t, policies(), filter(eq("a", 1)), set("a", -1), star, seq)
	checkSizes(t, policies(), filter(not(and(eq("a", 1), not(eq("b", 2))))), set("a", -1), star, seq)
	checkSizes(t, regexes(), node("a"), node(""), func(x api.Regex) api.Regex { return regex(api.ReStar, x) }, func(a, b api.Regex) api.Regex { return regex(api.ReOr, a, b) })
}

func TestNodesOfFilters(t *testing.T) {
	hundred := balanced(100, eq("a", 1), or) // 199 nodes, depth 8
	for i, x := range []struct {
		x    api.Policy
		want api.Errno
	}{
		{filter(hundred), api.OK}, {filter(not(hundred)), api.ErrLimit}, {star(filter(hundred)), api.ErrLimit},
		{filter(chained(18, eq("a", 1), not)), api.OK}, {filter(chained(19, eq("a", 1), not)), api.ErrLimit}, {star(filter(chained(18, eq("a", 1), not))), api.ErrLimit},
		{api.Policy{Kind: api.PoSet, Field: "a", Pred: not(not(hundred))}, api.ErrArg}, // its Pred has nodes, but they are not nodes of the policy
		{api.Policy{Pred: not(not(hundred))}, api.ErrArg},
		{api.Policy{Kind: api.PoFilter, Pred: not(not(hundred)), N: 1}, api.ErrLimit},
		{api.Policy{Kind: api.PoFilter, Pred: eq("a", 1), Args: make([]api.Policy, 198)}, api.ErrArg},
		{api.Policy{Kind: api.PoFilter, Pred: eq("a", 1), Args: make([]api.Policy, 199)}, api.ErrLimit},
	} {
		if e := syntax.CheckPolicy(x.x); e != x.want {
			t.Errorf("P11.1: CheckPolicy of the policy %d gives %d, want %d", i, e, x.want)
		}
	}
	for i, x := range []struct {
		x    api.Pred
		want api.Errno
	}{{pred(api.PrTrue, make([]api.Pred, 199)...), api.ErrArg}, {pred(api.PrTrue, make([]api.Pred, 200)...), api.ErrLimit}, {api.Pred{Args: make([]api.Pred, 1<<20)}, api.ErrLimit}} {
		if e := syntax.CheckPred(x.x); e != x.want {
			t.Errorf("P11.1: CheckPred of the predicate %d gives %d, want %d", i, e, x.want)
		}
	}
}

func TestTreesWithoutEnd(t *testing.T) {
	p := api.Pred{Kind: api.PrNot, Args: make([]api.Pred, 1)}
	p.Args[0] = p
	q := api.Policy{Kind: api.PoSeq, Args: make([]api.Policy, 2)}
	q.Args[0], q.Args[1] = q, q
	r := api.Regex{Kind: api.ReStar, Args: make([]api.Regex, 1)}
	r.Args[0] = r
	for i, e := range []api.Errno{syntax.CheckPred(p), syntax.CheckPolicy(q), syntax.CheckPolicy(filter(p)), syntax.CheckRegex(r), syntax.CheckProgram(api.Program{{Policy: q}})} {
		if e != api.ErrLimit {
			t.Errorf("P11.1: the check of the tree %d gives %d, want %d", i, e, api.ErrLimit)
		}
	}
	if s := syntax.PrintPred(p) + syntax.PrintPolicy(q) + syntax.PrintRegex(r) + syntax.PrintStage(api.Stage{Policy: q}); s != "" {
		t.Errorf("P11.2: trees without an end have the sources %q", s)
	}
}
