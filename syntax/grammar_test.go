package syntax_test

import (
	"strings"

	"interlace/api"
)

// chapterGrammar is the grammar of the chapter. A second way to reading follows it with all stacks at once.
const chapterGrammar = `
pred    = conj { or conj }
conj    = neg { and neg }
neg     = not neg | test
test    = true | false | field "=" number [ "/" number ] | field in number ".." number | time in number ".." number | "(" pred ")"
field   = name | port
policy  = seq { "+" seq }
seq     = star { ";" star }
star    = base { "*" }
base    = id | drop | "[" pred "]" | field ":=" number | "(" policy ")"
stage   = stage policy [ then step ] "."
step    = count name by keys [ into field ] | open name by keys | check name by keys within number
        | translate name by keys into field from number to number | back name by keys into field
        | token name by keys burst number each number
keys    = field { "," field }
regex   = cat { "|" cat }
cat     = rep { ";" rep }
rep     = atom { "*" }
atom    = any | name | "(" ")" | "(" regex ")"
`

// A symbol is a word, a sign, a name or a number; or a rule; or what is there once or not at all, or any number of times.
type symbol struct {
	kind  int // of the tokens; 0 for a rule, -1 for [ ], -2 for { }
	text  string
	place int // of a number: the how manieth one of the grammar
	inner []*symbol
}

const (
	optional = -1
	repeated = -2
)

type grammar map[string][][]*symbol

// readGrammar reads the chapter's grammar.
func readGrammar() grammar {
	g := grammar{}
	text := strings.ReplaceAll(chapterGrammar, "\n        |", " |")
	lines := strings.Split(strings.TrimSpace(text), "\n")
	for _, line := range lines {
		g[strings.Fields(line)[0]] = nil
	}
	places := 0
	for _, line := range lines {
		parts := strings.Fields(line)
		rule := parts[0]
		open := [][]*symbol{nil}
		for _, part := range parts[2:] {
			last := len(open) - 1
			switch {
			case part == "|":
				g[rule] = append(g[rule], open[0])
				open = [][]*symbol{nil}
			case part == "{" || part == "[":
				open = append(open, nil)
			case part == "}" || part == "]":
				kind := map[string]int{"}": repeated, "]": optional}[part]
				open[last-1] = append(open[last-1], &symbol{kind: kind, inner: open[last]})
				open = open[:last]
			default:
				open[last] = append(open[last], g.symbol(part, rule, len(open[last]), places))
				if part == "number" {
					places++
				}
			}
		}
		g[rule] = append(g[rule], open[0])
	}
	return g
}

// symbol returns what a part of a rule stands for. (The first stage of the rule stage is the word.)
func (g grammar) symbol(part, rule string, index, place int) *symbol {
	_, isRule := g[part]
	switch {
	case part == "name":
		return &symbol{kind: api.TokName}
	case part == "number":
		return &symbol{kind: api.TokNumber, place: place}
	case part[0] == '"':
		return &symbol{kind: api.TokSign, text: strings.Trim(part, `"`)}
	case isRule && !(part == "stage" && rule == "stage" && index == 0):
		return &symbol{text: part}
	}
	return &symbol{kind: api.TokWord, text: part}
}

// A stack is the symbols that are still to come.
type stack struct {
	top  *symbol
	rest *stack
}

func (s *stack) push(l []*symbol) *stack {
	for i := len(l) - 1; i >= 0; i-- {
		s = &stack{l[i], s}
	}
	return s
}

// expand calls a function for the stacks, with a token at the top or empty, that a stack stands for.
func (g grammar) expand(s *stack, visit func(*stack)) {
	switch {
	case s == nil || s.top.kind > 0:
		visit(s)
	case s.top.kind == 0:
		for _, l := range g[s.top.text] {
			g.expand(s.rest.push(l), visit)
		}
	default:
		g.expand(s.rest, visit)
		if s.top.kind == repeated {
			s = &stack{s.top, s}
		}
		g.expand(s.rest.push(s.top.inner), visit)
	}
}

func (x *symbol) is(t api.Token) bool {
	return x.kind == t.Kind && (x.kind == api.TokName || x.kind == api.TokNumber || x.text == t.Text)
}

// inRange reports whether the number at a place of the grammar can be n, if before is the number that was read before it.
func inRange(place, n, before int) bool {
	ranges := [][2]int{
		{0, 65535}, {0, 16}, {0, 65535}, {before, 65535}, {0, maxTick}, {before + 1, maxTick}, {0, 65535}, {0, maxTick}, {0, 65535}, {before, 65535}, {1, 65535}, {1, maxTick},
	}
	return ranges[place][0] <= n && n <= ranges[place][1]
}

// read reads what a rule says from the front of tokens, and returns how many there are; or the index of the token with a
// problem, and the error. It knows no limits.
func (g grammar) read(rule string, l []api.Token) (int, api.Errno) {
	stacks := []*stack{{&symbol{text: rule}, nil}}
	before, keys := 0, -1 // keys is the number of keys since the word by
	for i, t := range l {
		ends := false
		var matched *symbol
		var next []*stack
		for _, s := range stacks {
			g.expand(s, func(s *stack) {
				if s == nil {
					ends = true
				} else if s.top.is(t) {
					matched = s.top
					next = append(next, s.rest)
				}
			})
		}
		isField := t.Kind == api.TokName || t.Text == "port"
		switch {
		case matched == nil && ends:
			return i, api.OK
		case matched == nil:
			return i, api.ErrSyntax
		case matched.kind == api.TokNumber && !inRange(matched.place, t.N, before):
			return i, api.ErrArg
		case keys == 4 && isField:
			return i, api.ErrArg
		case t.Kind == api.TokNumber:
			before = t.N
		}
		switch {
		case t.Text == "by":
			keys = 0
		case keys >= 0 && isField:
			keys++
		case t.Text != ",":
			keys = -1
		}
		stacks = next
	}
	return len(l), api.ErrSyntax
}
