package syntax

import "interlace/api"

// An operator is the word or the sign of a kind of trees.
type operator struct {
	text string
	kind int
}

// A notation says how the trees of a type T are written: with one operator for one operand, which stands before or behind
// it, and two operators that stand between two operands. Of these, joint binds more than union, and single more than both.
type notation[T any] struct {
	single, joint, union operator
	before               bool // whether single stands before its operand
	tree                 func(kind int, args ...T) T
	leaf                 func() (T, bool) // reads a tree without operators, if there is one
}

// A part is what was read of an expression, or of what is in a parenthesis: how many times single stands before the next
// operand, and the first operands (at most one of each) of joint and of union.
type part[T any] struct {
	singles      int
	joint, union []T
}

// expression reads an expression. Open parentheses are kept in a list instead of being left to recursion, since there can
// be many of them in one another.
func expression[T any](r *reader, n notation[T]) T {
	open := []part[T]{{}}
	for {
		last := len(open) - 1
		open[last].singles = r.count(n.before, n.single.text)
		x, found := n.leaf()
		if !found {
			r.expect("(")
			open = append(open, part[T]{})
			continue
		}
		x, more := n.operand(r, &open[last], x)
		for ; !more && last > 0; last-- {
			r.expect(")")
			x, more = n.operand(r, &open[last-1], x)
		}
		if !more {
			return x
		}
		open = open[:last+1]
	}
}

// count reads a word or a sign any number of times, if it can be here, and returns how many times it was there.
func (r *reader) count(possible bool, text string) int {
	times := 0
	for possible && r.accept(text) {
		times++
	}
	return times
}

// operand adds an operand to a part, with the operators behind it. It returns the whole part, or reports that there is more
// of it, since an operator was read that has another operand.
func (n notation[T]) operand(r *reader, p *part[T], x T) (whole T, more bool) {
	for range p.singles + r.count(!n.before, n.single.text) {
		x = n.tree(n.single.kind, x)
	}
	x = n.join(n.joint, p.joint, x)
	p.joint = nil
	if r.accept(n.joint.text) {
		p.joint = []T{x}
		return whole, true
	}
	x = n.join(n.union, p.union, x)
	if r.accept(n.union.text) {
		p.union = []T{x}
		return whole, true
	}
	return x, false
}

// join returns the tree of an operator with two operands, or the second one alone if there is no first one.
func (n notation[T]) join(o operator, first []T, x T) T {
	if len(first) == 0 {
		return x
	}
	return n.tree(o.kind, first[0], x)
}

func (r *reader) pred() api.Pred {
	return expression(r, notation[api.Pred]{
		single: operator{"not", api.PrNot},
		joint:  operator{"and", api.PrAnd},
		union:  operator{"or", api.PrOr},
		before: true,
		tree:   func(kind int, args ...api.Pred) api.Pred { return api.Pred{Kind: kind, Args: args} },
		leaf:   r.test,
	})
}

func (r *reader) policy() api.Policy {
	return expression(r, notation[api.Policy]{
		single: operator{"*", api.PoStar},
		joint:  operator{";", api.PoSeq},
		union:  operator{"+", api.PoUnion},
		tree:   func(kind int, args ...api.Policy) api.Policy { return api.Policy{Kind: kind, Args: args} },
		leaf:   r.base,
	})
}

func (r *reader) regex() api.Regex {
	return expression(r, notation[api.Regex]{
		single: operator{"*", api.ReStar},
		joint:  operator{";", api.ReSeq},
		union:  operator{"|", api.ReOr},
		tree:   func(kind int, args ...api.Regex) api.Regex { return api.Regex{Kind: kind, Args: args} },
		leaf:   r.atom,
	})
}
