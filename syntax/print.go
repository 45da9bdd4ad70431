package syntax

import (
	"slices"
	"strconv"
	"strings"

	"interlace/api"
)

// The levels of operators. What is printed for a level has operators of lower levels in parentheses only.
const (
	levelUnion  = iota // or, +, |
	levelJoint         // and, ;
	levelSingle        // not, *, and everything without operators
)

// A printed thing is its tokens for a level.
type printed func(level int) []string

// plain prints what needs no parentheses.
func plain(texts ...string) printed { return func(int) []string { return texts } }

// infix prints an operator of a level between two things; operators of the same level are grouped from the left.
func infix(own int, left printed, operator string, right printed) printed {
	return func(level int) []string {
		texts := slices.Concat(left(own), []string{operator}, right(own+1))
		if own < level {
			return enclose("(", texts, ")")
		}
		return texts
	}
}

// prefix prints an operator in front of a thing.
func prefix(operator string, x printed) printed {
	return func(int) []string { return enclose(operator, x(levelSingle)) }
}

// postfix prints an operator behind a thing.
func postfix(x printed, operator string) printed {
	return func(int) []string { return slices.Concat(x(levelSingle), []string{operator}) }
}

// enclose returns tokens with another one before them, and others behind them.
func enclose(before string, texts []string, behind ...string) []string {
	return slices.Concat([]string{before}, texts, behind)
}

// spaced returns tokens as a source.
func spaced(texts []string) string {
	var b strings.Builder
	for i, text := range texts {
		if i > 0 && apart(texts[i-1], text) {
			b.WriteByte(' ')
		}
		b.WriteString(text)
	}
	return b.String()
}

// apart reports whether there is a blank between two tokens.
func apart(before, after string) bool {
	switch after {
	case ")", "]", ",", ";", ".", "*", "/", "..":
		return false
	}
	switch before {
	case "(", "[", "/", "..":
		return false
	}
	return true
}

// PrintPred returns the source of a predicate.
func PrintPred(x api.Pred) string {
	if CheckPred(x) != api.OK {
		return ""
	}
	return spaced(predPrinted(x)(levelUnion))
}

// PrintPolicy returns the source of a policy.
func PrintPolicy(x api.Policy) string {
	if CheckPolicy(x) != api.OK {
		return ""
	}
	return spaced(policyPrinted(x)(levelUnion))
}

// PrintStep returns the source of a step.
func PrintStep(x api.Step) string {
	if CheckStep(x) != api.OK {
		return ""
	}
	return spaced(stepPrinted(x))
}

// PrintStage returns the source of a stage.
func PrintStage(x api.Stage) string {
	if CheckProgram(api.Program{x}) != api.OK {
		return ""
	}
	texts := enclose("stage", policyPrinted(x.Policy)(levelUnion))
	if x.Step.Kind != 0 {
		texts = append(texts, enclose("then", stepPrinted(x.Step))...)
	}
	return spaced(append(texts, "."))
}

// PrintProgram returns the source of a program.
func PrintProgram(x api.Program) string {
	if CheckProgram(x) != api.OK {
		return ""
	}
	var b strings.Builder
	for _, s := range x {
		b.WriteString(PrintStage(s) + "\n")
	}
	return b.String()
}

// PrintRegex returns the source of a regular expression.
func PrintRegex(x api.Regex) string {
	if CheckRegex(x) != api.OK {
		return ""
	}
	return spaced(regexPrinted(x)(levelUnion))
}

// predPrinted prints a predicate that is formed.
func predPrinted(x api.Pred) printed {
	arg := func(i int) printed { return predPrinted(x.Args[i]) }
	n, m := strconv.Itoa(x.N), strconv.Itoa(x.M)
	switch x.Kind {
	case api.PrTrue:
		return plain("true")
	case api.PrFalse:
		return plain("false")
	case api.PrEq:
		return plain(x.Field, "=", n)
	case api.PrPrefix:
		return plain(x.Field, "=", n, "/", m)
	case api.PrRange:
		return plain(x.Field, "in", n, "..", m)
	case api.PrTime:
		return plain("time", "in", n, "..", m)
	case api.PrNot:
		return prefix("not", arg(0))
	case api.PrAnd:
		return infix(levelJoint, arg(0), "and", arg(1))
	}
	return infix(levelUnion, arg(0), "or", arg(1))
}

// policyPrinted prints a policy that is formed.
func policyPrinted(x api.Policy) printed {
	arg := func(i int) printed { return policyPrinted(x.Args[i]) }
	switch x.Kind {
	case api.PoFilter:
		return plain(filterPrinted(x.Pred)...)
	case api.PoSet:
		return plain(x.Field, ":=", strconv.Itoa(x.N))
	case api.PoStar:
		return postfix(arg(0), "*")
	case api.PoSeq:
		return infix(levelJoint, arg(0), ";", arg(1))
	}
	return infix(levelUnion, arg(0), "+", arg(1))
}

// filterPrinted returns the tokens of the filter of a predicate.
func filterPrinted(x api.Pred) []string {
	switch x.Kind {
	case api.PrTrue:
		return []string{"id"}
	case api.PrFalse:
		return []string{"drop"}
	}
	return enclose("[", predPrinted(x)(levelUnion), "]")
}

// stepPrinted returns the tokens of a step that is formed.
func stepPrinted(x api.Step) []string {
	if x.Kind == 0 {
		return nil
	}
	texts := []string{stepWords[x.Kind], x.Var, "by", x.Key[0]}
	for _, field := range x.Key[1:] {
		texts = append(texts, ",", field)
	}
	if x.Field != "" {
		texts = append(texts, "into", x.Field)
	}
	n, m := strconv.Itoa(x.N), strconv.Itoa(x.M)
	switch x.Kind {
	case api.StCheck:
		texts = append(texts, "within", n)
	case api.StTranslate:
		texts = append(texts, "from", n, "to", m)
	case api.StToken:
		texts = append(texts, "burst", n, "each", m)
	}
	return texts
}

// regexPrinted prints a regular expression that is formed.
func regexPrinted(x api.Regex) printed {
	arg := func(i int) printed { return regexPrinted(x.Args[i]) }
	switch x.Kind {
	case api.ReEmpty:
		return plain("(", ")")
	case api.ReAny:
		return plain("any")
	case api.ReNode:
		return plain(x.Node)
	case api.ReStar:
		return postfix(arg(0), "*")
	case api.ReSeq:
		return infix(levelJoint, arg(0), ";", arg(1))
	}
	return infix(levelUnion, arg(0), "|", arg(1))
}
