package syntax

import (
	"interlace/api"
	"interlace/token"
)

// ParsePred returns the predicate of a source.
func ParsePred(source string) (api.Pred, api.Problem) { return parse(source, ReadPred) }

// ParsePolicy returns the policy of a source.
func ParsePolicy(source string) (api.Policy, api.Problem) { return parse(source, ReadPolicy) }

// ParseRegex returns the regular expression of a source.
func ParseRegex(source string) (api.Regex, api.Problem) { return parse(source, ReadRegex) }

// parse returns what a whole source says, if it can be read from the front of its tokens.
func parse[T any](source string, reading func([]api.Token) (T, int, api.Problem)) (T, api.Problem) {
	var none T
	l, problem := tokens(source)
	if problem.E != api.OK {
		return none, problem
	}
	x, used, problem := reading(l)
	if problem.E != api.OK {
		return none, problem
	}
	if left := l[used]; left.Kind != api.TokEnd {
		return none, api.Problem{Line: left.Line, Column: left.Column, E: api.ErrSyntax}
	}
	return x, api.Problem{}
}

// tokens returns the tokens of a source, or the problem that there are none.
func tokens(source string) ([]api.Token, api.Problem) {
	l, e := token.Tokens(source)
	if e != api.OK {
		return nil, api.Problem{Line: 1, Column: 1, E: e}
	}
	return l, api.Problem{}
}

// ParseProgram returns the stages of a source, and the problems.
func ParseProgram(source string) (api.Program, []api.Problem) {
	l, problem := tokens(source)
	if problem.E != api.OK {
		return nil, []api.Problem{problem}
	}
	var program api.Program
	var problems []api.Problem
	r := &reader{l: l}
	for r.next().Kind != api.TokEnd && len(problems) < MaxProblems {
		if len(program) == MaxStages {
			return program, append(problems, r.problem(api.ErrLimit))
		}
		stage, _, problem := read(r, r.stage)
		if problem.E == api.OK {
			program = append(program, stage)
			continue
		}
		problems = append(problems, problem)
		r.skip()
	}
	return program, problems
}

// skip goes on behind the next full stop, or at the end if there is none.
func (r *reader) skip() {
	for r.next().Kind != api.TokEnd && !r.accept(".") {
		r.at++
	}
}
