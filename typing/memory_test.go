package typing_test

import (
	"reflect"
	"testing"

	"interlace/api"
	"interlace/syntax"
	"interlace/typing"
)

// addresses visits the addresses of all elements of the lists of a value.
func addresses(v reflect.Value, visit func(uintptr)) {
	switch v.Kind() {
	case reflect.Slice:
		for i := range v.Len() {
			visit(v.Index(i).Addr().Pointer())
			addresses(v.Index(i), visit)
		}
	case reflect.Struct:
		for i := range v.NumField() {
			addresses(v.Field(i), visit)
		}
	}
}

// overlap reports whether two lists of a value have an element in common.
func overlap(value any) bool {
	found, known := false, map[uintptr]bool{}
	addresses(reflect.ValueOf(value), func(at uintptr) {
		found = found || known[at]
		known[at] = true
	})
	return found
}

// Results are new memory, and arguments stay as they are.
func TestMemory(t *testing.T) {
	m := making(13, 30)
	for range 2000 {
		p, tick := m.smallProgram(), m.r.IntN(32)
		if overlap(p) {
			t.Fatal("this test needs programs without common parts")
		}
		before := syntax.PrintProgram(p)
		all := struct {
			given, frozen api.Program
			policies      []api.Policy
			preds         []api.Pred
			names         [][]string
			numbers       [][]int
			variables     []api.Variable
		}{given: p, frozen: typing.FreezeProgram(p, tick)}
		for _, s := range p {
			typing.Step(many(), s.Step)
			all.policies = append(all.policies, typing.Freeze(s.Policy, tick))
			all.preds = append(all.preds, typing.FreezePred(s.Policy.Pred, tick))
			all.names = append(all.names, typing.Reads(s.Policy), typing.Writes(s.Policy))
			all.numbers = append(all.numbers, typing.Ports(s.Policy))
		}
		all.numbers = append(all.numbers, typing.Boundaries(p))
		if typing.Program(many(), p) == api.OK {
			all.variables = typing.Variables(many(), p)
		}
		if overlap(all) {
			t.Fatalf("P12.1 to P12.7: results for %q at %d share memory", before, tick)
		}
		if syntax.PrintProgram(p) != before {
			t.Fatalf("P12.1 to P12.7: %q has become %q", before, syntax.PrintProgram(p))
		}
	}
}

// Arguments for which nothing is specified end the functions, too.
func TestStrange(t *testing.T) {
	p := api.Program{{Policy: api.Policy{Kind: api.PoStar}, Step: api.Step{Kind: 9, Var: "c", Key: []string{"top"}}}, {Policy: policy(api.PoSeq, api.Policy{}, filter(pred(api.PrAnd)))}, {Policy: policy(api.PoUnion), Step: api.Step{Kind: -1}}}
	deep := chained(60000, filter(window(3, 7)), star)
	for _, x := range []api.Policy{p[0].Policy, p[1].Policy, p[2].Policy, deep, filter(chained(60000, window(3, 7), not))} {
		typing.Reads(x)
		typing.Writes(x)
		typing.Ports(x)
		typing.Cost(x)
		typing.Boundaries(alone(x))
		typing.FreezePred(x.Pred, 5)
		typing.Freeze(x, 5)
	}
	typing.Variables(given(), p)
	typing.FreezeProgram(p, 5)
	strange := []api.Field{{Name: "dst", At: 7, Width: 99}}
	typing.Pred(strange, eq("dst", 1))
	typing.Policy(strange, set("dst", 1))
	typing.Step(strange, api.Step{Kind: api.StTranslate, Var: "c", Key: []string{"dst"}, Field: "dst"})
}
