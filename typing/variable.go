package typing

import (
	"maps"
	"slices"

	"interlace/api"
)

// stepsOf returns the steps of a program, without zero steps.
func stepsOf(p api.Program) []api.Step {
	var steps []api.Step
	for _, s := range p {
		if s.Step.Kind != 0 {
			steps = append(steps, s.Step)
		}
	}
	return steps
}

// family returns the family of the steps of a kind.
func family(kind int) int {
	switch kind {
	case api.StCount:
		return api.FamCounts
	case api.StOpen, api.StCheck:
		return api.FamConnections
	case api.StTranslate, api.StBack:
		return api.FamTranslations
	case api.StToken:
		return api.FamTokens
	}
	return 0
}

// numbered reports whether N and M of a step are those of its variable.
func numbered(s api.Step) bool { return s.Kind == api.StTranslate || s.Kind == api.StToken }

// agree reports whether two steps can be those of one variable.
func agree(l []api.Field, s, t api.Step) bool {
	a, _ := widths(l, s.Key)
	b, _ := widths(l, t.Key)
	alike := !numbered(s) || !numbered(t) || s.N == t.N && s.M == t.M
	return family(s.Kind) == family(t.Kind) && slices.Equal(a, b) && alike
}

// Variables returns the variables of a program.
func Variables(l []api.Field, p api.Program) []api.Variable {
	found := map[string]api.Variable{}
	for _, s := range stepsOf(p) {
		v, known := found[s.Var]
		if !known {
			v = api.Variable{Name: s.Var, Family: family(s.Kind)}
			v.Widths, _ = widths(l, s.Key)
		}
		if numbered(s) { // the steps of a variable whose numbers these are all have the same ones
			v.N, v.M = s.N, s.M
		}
		found[s.Var] = v
	}
	var vars []api.Variable
	for _, name := range slices.Sorted(maps.Keys(found)) {
		vars = append(vars, found[name])
	}
	return vars
}

// SameVariable reports whether two variables are equal.
func SameVariable(a, b api.Variable) bool {
	return a.Name == b.Name && a.Family == b.Family && slices.Equal(a.Widths, b.Widths) && a.N == b.N && a.M == b.M
}
