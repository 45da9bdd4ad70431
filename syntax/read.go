package syntax

import "interlace/api"

// A reader reads tokens from the front. Its methods panic with an api.Problem if there is not what they read; the next
// token is then the one with the problem.
type reader struct {
	l  []api.Token
	at int // the index of the next token
}

// ReadPred reads a predicate.
func ReadPred(l []api.Token) (api.Pred, int, api.Problem) {
	r := &reader{l: l}
	return read(r, r.wholePred)
}

// ReadPolicy reads a policy.
func ReadPolicy(l []api.Token) (api.Policy, int, api.Problem) {
	r := &reader{l: l}
	return read(r, r.wholePolicy)
}

// ReadStage reads a stage.
func ReadStage(l []api.Token) (api.Stage, int, api.Problem) {
	r := &reader{l: l}
	return read(r, r.stage)
}

// ReadRegex reads a regular expression.
func ReadRegex(l []api.Token) (api.Regex, int, api.Problem) {
	r := &reader{l: l}
	return read(r, r.wholeRegex)
}

// read returns what a method of a reader reads, and how many tokens were read then; or the problem with which it panics.
func read[T any](r *reader, thing func() T) (x T, used int, problem api.Problem) {
	defer func() { problem, _ = recover().(api.Problem) }()
	x = thing()
	used = r.at
	return x, used, problem
}

// whole reads a thing that must be within the limits.
func whole[T any](r *reader, thing func() T, check func(T) api.Errno) T {
	first := r.at
	x := thing()
	if check(x) == api.ErrLimit {
		r.at = first
		r.fail(api.ErrLimit)
	}
	return x
}

func (r *reader) wholePred() api.Pred { return whole(r, r.pred, CheckPred) }

func (r *reader) wholePolicy() api.Policy { return whole(r, r.policy, CheckPolicy) }

func (r *reader) wholeRegex() api.Regex { return whole(r, r.regex, CheckRegex) }

// next returns the next token, which is still to be read.
func (r *reader) next() api.Token {
	if r.at == len(r.l) {
		return api.Token{Kind: api.TokEnd} // the chapter does not say what tokens without an end are
	}
	return r.l[r.at]
}

// problem returns a problem at the next token.
func (r *reader) problem(e api.Errno) api.Problem {
	t := r.next()
	return api.Problem{Line: t.Line, Column: t.Column, E: e}
}

func (r *reader) fail(e api.Errno) { panic(r.problem(e)) }

// accept reads a word or a sign if it is the next token, and reports whether it was.
func (r *reader) accept(text string) bool {
	t := r.next()
	found := (t.Kind == api.TokWord || t.Kind == api.TokSign) && t.Text == text
	if found {
		r.at++
	}
	return found
}

// expect reads a word or a sign.
func (r *reader) expect(text string) {
	if !r.accept(text) {
		r.fail(api.ErrSyntax)
	}
}

// number reads a number of a span.
func (r *reader) number(s span) int {
	t := r.next()
	switch {
	case t.Kind != api.TokNumber:
		r.fail(api.ErrSyntax)
	case !s.has(t.N):
		r.fail(api.ErrArg)
	}
	r.at++
	return t.N
}

// acceptName reads a name if it is the next token.
func (r *reader) acceptName() (string, bool) {
	t := r.next()
	if t.Kind != api.TokName {
		return "", false
	}
	r.at++
	return t.Text, true
}

// acceptField reads a field name if it is the next token.
func (r *reader) acceptField() (string, bool) {
	if r.accept(portField) {
		return portField, true
	}
	return r.acceptName()
}

// required reads a text with a method that may find none.
func (r *reader) required(accept func() (string, bool)) string {
	s, found := accept()
	if !found {
		r.fail(api.ErrSyntax)
	}
	return s
}

func (r *reader) name() string { return r.required(r.acceptName) }

func (r *reader) field() string { return r.required(r.acceptField) }

// test reads a predicate without operators, if there is one.
func (r *reader) test() (api.Pred, bool) {
	switch {
	case r.accept("true"):
		return api.Pred{Kind: api.PrTrue}, true
	case r.accept("false"):
		return api.Pred{Kind: api.PrFalse}, true
	case r.accept("time"):
		r.expect("in")
		return r.between(api.Pred{Kind: api.PrTime}), true
	}
	field, found := r.acceptField()
	switch {
	case !found:
		return api.Pred{}, false
	case r.accept("in"):
		return r.between(api.Pred{Kind: api.PrRange, Field: field}), true
	}
	r.expect("=")
	return r.equal(field), true
}

// between completes a predicate by the first and the second number of a range or of a window of time.
func (r *reader) between(x api.Pred) api.Pred {
	x.N = r.number(predForm(x.Kind, 0).n)
	r.expect("..")
	x.M = r.number(predForm(x.Kind, x.N).m)
	return x
}

// equal reads the number that a field is, or with which it begins.
func (r *reader) equal(field string) api.Pred {
	x := api.Pred{Kind: api.PrEq, Field: field}
	x.N = r.number(predForm(x.Kind, 0).n)
	if r.accept("/") {
		x.Kind = api.PrPrefix
		x.M = r.number(predForm(x.Kind, x.N).m)
	}
	return x
}

// base reads a policy without operators, if there is one.
func (r *reader) base() (api.Policy, bool) {
	filter := func(x api.Pred) (api.Policy, bool) { return api.Policy{Kind: api.PoFilter, Pred: x}, true }
	switch {
	case r.accept("id"):
		return filter(api.Pred{Kind: api.PrTrue})
	case r.accept("drop"):
		return filter(api.Pred{Kind: api.PrFalse})
	case r.accept("["):
		x := r.pred()
		r.expect("]")
		return filter(x)
	}
	field, found := r.acceptField()
	if !found {
		return api.Policy{}, false
	}
	r.expect(":=")
	return api.Policy{Kind: api.PoSet, Field: field, N: r.number(policyForm(api.PoSet).n)}, true
}

// atom reads a regular expression without operators, if there is one.
func (r *reader) atom() (api.Regex, bool) {
	if r.accept("any") {
		return api.Regex{Kind: api.ReAny}, true
	}
	if name, found := r.acceptName(); found {
		return api.Regex{Kind: api.ReNode, Node: name}, true
	}
	first := r.at
	if r.accept("(") && r.accept(")") {
		return api.Regex{Kind: api.ReEmpty}, true
	}
	r.at = first // it can be a parenthesis around operators
	return api.Regex{}, false
}

func (r *reader) stage() api.Stage {
	r.expect("stage")
	x := api.Stage{Policy: r.wholePolicy()}
	if r.accept("then") {
		x.Step = r.step()
	}
	r.expect(".")
	return x
}

func (r *reader) step() api.Step {
	var x api.Step
	x.Kind = r.stepKind()
	x.Var = r.name()
	r.expect("by")
	x.Key = r.keys()
	switch x.Kind {
	case api.StCount:
		if r.accept("into") {
			x.Field = r.field()
		}
	case api.StCheck:
		x.N = r.stepNumber("within", stepForm(x.Kind, 0).n)
	case api.StTranslate:
		r.expect("into")
		x.Field = r.field()
		x.N = r.stepNumber("from", stepForm(x.Kind, 0).n)
		x.M = r.stepNumber("to", stepForm(x.Kind, x.N).m)
	case api.StBack:
		r.expect("into")
		x.Field = r.field()
	case api.StToken:
		x.N = r.stepNumber("burst", stepForm(x.Kind, 0).n)
		x.M = r.stepNumber("each", stepForm(x.Kind, x.N).m)
	}
	return x
}

// stepKind reads the word with which a step begins.
func (r *reader) stepKind() int {
	kind := 1
	for kind < len(stepWords) && !r.accept(stepWords[kind]) {
		kind++
	}
	if kind == len(stepWords) {
		r.fail(api.ErrSyntax)
	}
	return kind
}

// stepNumber reads a word and a number of a span behind it.
func (r *reader) stepNumber(word string, s span) int {
	r.expect(word)
	return r.number(s)
}

// keys reads the fields of a key.
func (r *reader) keys() []string {
	keys := []string{r.field()}
	for r.accept(",") {
		at := r.at
		key := r.field()
		if len(keys) == MaxKey {
			r.at = at
			r.fail(api.ErrArg)
		}
		keys = append(keys, key)
	}
	return keys
}
