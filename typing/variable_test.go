package typing_test

import (
	"slices"
	"strings"
	"testing"

	"interlace/api"
	"interlace/syntax"
	"interlace/typing"
)

func sameVariables(a, b []api.Variable) bool { return slices.EqualFunc(a, b, typing.SameVariable) }

func TestVariables(t *testing.T) {
	for _, x := range []struct {
		source string
		want   []api.Variable
	}{
		{"", nil}, {"stage id. stage dst := 1.", nil},
		{"stage id then count c by src, kind, port.", []api.Variable{{Name: "c", Family: api.FamCounts, Widths: []int{8, 3, 16}}}},
		{"stage id then open c by src. stage id then check c by dst within 5.", []api.Variable{{Name: "c", Family: api.FamConnections, Widths: []int{8}}}},
		{"stage id then check c by bit within 5.", []api.Variable{{Name: "c", Family: api.FamConnections, Widths: []int{1}}}},
		{"stage id then translate c by bit, src into kind from 2 to 7.", []api.Variable{{Name: "c", Family: api.FamTranslations, Widths: []int{1, 8}, N: 2, M: 7}}},
		{"stage id then back c by bit, src into kind.", []api.Variable{{Name: "c", Family: api.FamTranslations, Widths: []int{1, 8}}}},
		{"stage id then back c by src into kind. stage id then translate c by src into kind from 2 to 7. stage id then back c by src into kind.", []api.Variable{{Name: "c", Family: api.FamTranslations, Widths: []int{8}, N: 2, M: 7}}},
		{"stage id then translate c by src into kind from 0 to 0. stage id then back c by src into kind.", []api.Variable{{Name: "c", Family: api.FamTranslations, Widths: []int{8}}}},
		{"stage id then token c by whole burst 9 each 70000.", []api.Variable{{Name: "c", Family: api.FamTokens, Widths: []int{16}, N: 9, M: 70000}}},
		{"stage id then count b by src. stage id then open c10 by kind. stage id. stage id then count a by dst. stage id then open c9 by src. stage id then count b by dst. stage id then token c by bit burst 1 each 2.", []api.Variable{
			{Name: "a", Family: api.FamCounts, Widths: []int{8}}, {Name: "b", Family: api.FamCounts, Widths: []int{8}}, {Name: "c", Family: api.FamTokens, Widths: []int{1}, N: 1, M: 2},
			{Name: "c10", Family: api.FamConnections, Widths: []int{3}}, {Name: "c9", Family: api.FamConnections, Widths: []int{8}}}},
		{"stage id then count src by src.", []api.Variable{{Name: "src", Family: api.FamCounts, Widths: []int{8}}}},
	} {
		p := parsed(t, x.source)
		if typing.Program(many(), p) != api.OK {
			t.Fatalf("%q does not fit", x.source)
		}
		if got := typing.Variables(many(), p); !sameVariables(got, x.want) {
			t.Errorf("P12.4: the variables of %q are %v, want %v", x.source, got, x.want)
		}
	}
}

// variablesOf returns the variables of a program in the order of their names, each of them found by a search of its own.
func variablesOf(p api.Program) []api.Variable {
	var names []string
	for _, s := range p {
		if s.Step.Kind != 0 && !slices.Contains(names, s.Step.Var) {
			names = append(names, s.Step.Var)
		}
	}
	slices.SortFunc(names, strings.Compare)
	var vars []api.Variable
	for _, name := range names {
		v := api.Variable{Name: name}
		for _, s := range slices.Backward(p) {
			if s.Step.Var == name {
				sort := sortOf(s.Step)
				v.Family, v.Widths = sort.family, sort.widths[:sort.keys]
			}
			if s.Step.Var == name && (s.Step.Kind == api.StTranslate || s.Step.Kind == api.StToken) {
				v.N, v.M = s.Step.N, s.Step.M
			}
		}
		vars = append(vars, v)
	}
	return vars
}

func TestRandomVariables(t *testing.T) {
	m := making(7, 0)
	fitting, several := 0, 0
	for range 20000 {
		p := m.program(m.r.IntN(9), 2, m.alike)
		if typing.Program(many(), p) != api.OK {
			continue
		}
		fitting++
		got, want := typing.Variables(many(), p), variablesOf(p)
		if !sameVariables(got, want) {
			t.Fatalf("P12.4: the variables of %q are %v, want %v", syntax.PrintProgram(p), got, want)
		}
		if len(got) > 1 {
			several++
		}
	}
	if fitting < 2000 || several < 1000 {
		t.Errorf("P12.4: only %d random programs fit, and only %d of them have several variables", fitting, several)
	}
}

func TestSameVariable(t *testing.T) {
	v := api.Variable{Name: "c", Family: api.FamTokens, Widths: []int{8, 3}, N: 1, M: 2}
	if !typing.SameVariable(v, api.Variable{Name: "c", Family: api.FamTokens, Widths: []int{8, 3}, N: 1, M: 2}) {
		t.Error("P12.4: equal variables are not the same")
	}
	if !typing.SameVariable(api.Variable{}, api.Variable{Widths: []int{}}) {
		t.Error("P12.4: variables with different lists without elements are not the same")
	}
	for _, change := range []func(*api.Variable){
		func(v *api.Variable) { v.Name = "d" }, func(v *api.Variable) { v.Family = api.FamCounts }, func(v *api.Variable) { v.N = 0 }, func(v *api.Variable) { v.M = 1 },
		func(v *api.Variable) { v.Widths = []int{8} }, func(v *api.Variable) { v.Widths = []int{3, 8} }, func(v *api.Variable) { v.Widths = []int{8, 3, 0} }, func(v *api.Variable) { v.Widths = nil }, func(v *api.Variable) { v.Widths = []int{8, 4} },
	} {
		w := v
		change(&w)
		if typing.SameVariable(v, w) || typing.SameVariable(w, v) || !typing.SameVariable(w, w) {
			t.Errorf("P12.4: SameVariable of %v and %v", v, w)
		}
	}
}
