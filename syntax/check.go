package syntax

import (
	"cmp"

	"interlace/api"
	"interlace/token"
)

const (
	maxValue  = 1<<16 - 1 // the greatest value of a field,
	valueBits = 16        // which has so many bits
)

// A span is the numbers from lo to hi.
type span struct{ lo, hi int }

func (s span) has(n int) bool { return s.lo <= n && n <= s.hi }

// Whether the things of a kind have a Field.
const (
	fieldNever = iota
	fieldPerhaps
	fieldAlways
)

// A form is what the things of a kind have: a Field, an N, an M, and so many Args. An N or M that they do not have is 0.
type form struct {
	known bool // whether there are such things
	field int
	n, m  span
	args  int
}

// predForm returns the form of the predicates of a kind. The numbers that M can be may depend on N.
func predForm(kind, n int) form {
	values := span{0, maxValue}
	switch kind {
	case api.PrTrue, api.PrFalse:
		return form{known: true}
	case api.PrEq:
		return form{known: true, field: fieldAlways, n: values}
	case api.PrPrefix:
		return form{known: true, field: fieldAlways, n: values, m: span{0, valueBits}}
	case api.PrRange:
		return form{known: true, field: fieldAlways, n: values, m: span{n, maxValue}}
	case api.PrTime:
		return form{known: true, n: span{0, api.MaxTick}, m: span{n + 1, api.MaxTick}}
	case api.PrNot:
		return form{known: true, args: 1}
	case api.PrAnd, api.PrOr:
		return form{known: true, args: 2}
	}
	return form{}
}

// policyForm returns the form of the policies of a kind.
func policyForm(kind int) form {
	switch kind {
	case api.PoFilter:
		return form{known: true}
	case api.PoSet:
		return form{known: true, field: fieldAlways, n: span{0, maxValue}}
	case api.PoStar:
		return form{known: true, args: 1}
	case api.PoUnion, api.PoSeq:
		return form{known: true, args: 2}
	}
	return form{}
}

// stepForm returns the form of the steps of a kind, but for their Var and their Key.
func stepForm(kind, n int) form {
	switch kind {
	case api.StCount:
		return form{known: true, field: fieldPerhaps}
	case api.StOpen:
		return form{known: true}
	case api.StCheck:
		return form{known: true, n: span{0, api.MaxTick}}
	case api.StTranslate:
		return form{known: true, field: fieldAlways, n: span{0, maxValue}, m: span{n, maxValue}}
	case api.StBack:
		return form{known: true, field: fieldAlways}
	case api.StToken:
		return form{known: true, n: span{1, maxValue}, m: span{1, api.MaxTick}}
	}
	return form{}
}

// regexForm returns the form of the regular expressions of a kind, but for their Node.
func regexForm(kind int) form {
	switch kind {
	case api.ReEmpty, api.ReAny, api.ReNode:
		return form{known: true}
	case api.ReStar:
		return form{known: true, args: 1}
	case api.ReSeq, api.ReOr:
		return form{known: true, args: 2}
	}
	return form{}
}

// fits reports whether a form is that of what has a field (or none), two numbers, and so many Args.
func (f form) fits(field string, n, m, args int) bool {
	named := f.field != fieldNever && fieldName(field)
	unnamed := f.field != fieldAlways && field == ""
	return f.known && (named || unnamed) && f.n.has(n) && f.m.has(m) && f.args == args
}

// Plain reports whether a string is a plain name.
func Plain(s string) bool { return token.Name(s) }

// fieldName reports whether a string is a field name.
func fieldName(s string) bool { return Plain(s) || s == portField }

// CheckPred checks a predicate.
func CheckPred(x api.Pred) api.Errno {
	var b budget
	return check(b.pred(x, 1), func() bool { return predFormed(x) })
}

// CheckPolicy checks a policy.
func CheckPolicy(x api.Policy) api.Errno {
	var b budget
	return check(b.policy(x, 1), func() bool { return policyFormed(x) })
}

// CheckRegex checks a regular expression.
func CheckRegex(x api.Regex) api.Errno {
	var b budget
	return check(b.regex(x, 1), func() bool { return regexFormed(x) })
}

// CheckStep checks a step.
func CheckStep(x api.Step) api.Errno { return check(true, func() bool { return stepFormed(x) }) }

// CheckProgram checks a program.
func CheckProgram(x api.Program) api.Errno {
	if len(x) > MaxStages {
		return api.ErrLimit
	}
	for _, s := range x {
		if e := cmp.Or(CheckPolicy(s.Policy), CheckStep(s.Step)); e != api.OK {
			return e
		}
	}
	return api.OK
}

// check returns the error of what is within the limits, or is not. Only what is within them is asked whether it is
// formed, since the Args of anything else may have no end.
func check(within bool, formed func() bool) api.Errno {
	switch {
	case !within:
		return api.ErrLimit
	case !formed():
		return api.ErrArg
	}
	return api.OK
}

// A budget is how many nodes of a tree were counted. Its methods report whether the nodes of a part are within the
// limits, when its first node is so deep in the whole.
type budget struct{ nodes int }

func (b *budget) node(depth int) bool {
	b.nodes++
	return b.nodes <= MaxNodes && depth <= MaxNesting
}

func (b *budget) pred(x api.Pred, depth int) bool {
	return b.node(depth) && every(x.Args, func(arg api.Pred) bool { return b.pred(arg, depth+1) })
}

func (b *budget) policy(x api.Policy, depth int) bool {
	return b.node(depth) && (x.Kind != api.PoFilter || b.pred(x.Pred, depth+1)) &&
		every(x.Args, func(arg api.Policy) bool { return b.policy(arg, depth+1) })
}

func (b *budget) regex(x api.Regex, depth int) bool {
	return b.node(depth) && every(x.Args, func(arg api.Regex) bool { return b.regex(arg, depth+1) })
}

// every reports whether something holds for all elements.
func every[T any](l []T, holds func(T) bool) bool {
	for _, x := range l {
		if !holds(x) {
			return false
		}
	}
	return true
}

func predFormed(x api.Pred) bool {
	return predForm(x.Kind, x.N).fits(x.Field, x.N, x.M, len(x.Args)) && every(x.Args, predFormed)
}

func policyFormed(x api.Policy) bool {
	filter := x.Kind == api.PoFilter && predFormed(x.Pred)
	other := x.Kind != api.PoFilter && SamePred(x.Pred, api.Pred{})
	return (filter || other) && policyForm(x.Kind).fits(x.Field, x.N, 0, len(x.Args)) && every(x.Args, policyFormed)
}

func stepFormed(x api.Step) bool {
	if x.Kind == 0 {
		return sameStep(x, api.Step{})
	}
	key := 1 <= len(x.Key) && len(x.Key) <= MaxKey && every(x.Key, fieldName)
	return key && Plain(x.Var) && stepForm(x.Kind, x.N).fits(x.Field, x.N, x.M, 0)
}

func regexFormed(x api.Regex) bool {
	node := x.Kind == api.ReNode && Plain(x.Node)
	other := x.Kind != api.ReNode && x.Node == ""
	return (node || other) && regexForm(x.Kind).fits("", 0, 0, len(x.Args)) && every(x.Args, regexFormed)
}
