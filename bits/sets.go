package bits

import (
	"iter"
	"math/bits"
	"slices"

	"interlace/api"
)

// pieces visits patterns of which no two overlap, and which together match what p matches and q does not. The two have
// to overlap. Each piece is p with some of the bits that only q fixes: the last of them the other way round.
func pieces(p, q api.Pattern) iter.Seq[api.Pattern] {
	return func(yield func(api.Pattern) bool) {
		rest := p
		for w, value := range ones(without(q.Mask, p.Mask)) {
			rest.Mask[w] |= value
			piece := rest
			piece.Bits[w] |= value &^ q.Bits[w]
			if !yield(piece) {
				return
			}
			rest.Bits[w] |= value & q.Bits[w]
		}
	}
}

// Minus returns what p matches and q does not.
func Minus(p, q api.Pattern) []api.Pattern {
	if !overlap(&p, &q) {
		return []api.Pattern{p}
	}
	return slices.Collect(pieces(p, q))
}

// MinusAll returns what p matches and no element of a list does.
func MinusAll(p api.Pattern, l []api.Pattern) ([]api.Pattern, api.Errno) {
	return minusAll(p, l, MaxPatterns)
}

// minusAll is MinusAll for another greatest number of patterns.
func minusAll(p api.Pattern, l []api.Pattern, most int) ([]api.Pattern, api.Errno) {
	if most < 1 {
		return nil, api.ErrLimit
	}
	left := []api.Pattern{p}
	for k := range l {
		if !overlap(&p, &l[k]) {
			continue
		}
		var next []api.Pattern
		for i := range left {
			if overlap(&left[i], &l[k]) {
				next = slices.AppendSeq(next, pieces(left[i], l[k]))
			} else {
				next = append(next, left[i])
			}
			if len(next) > most { // the other patterns only add to it
				return nil, api.ErrLimit
			}
		}
		left = next
	}
	return left, api.OK
}

// Sum returns the same set by patterns that do not overlap.
func Sum(l []api.Pattern) ([]api.Pattern, api.Errno) {
	var sum, parts []api.Pattern
	for _, p := range l {
		left, e := minusAll(p, parts, MaxPatterns-len(sum))
		if e != api.OK {
			return nil, e
		}
		if len(left) == 0 {
			continue // those before it take all of it away, so that nothing is left for it to take from later ones
		}
		parts = append(parts, p)
		sum = append(sum, left...)
	}
	return sum, api.OK
}

// beyond returns a head that is greater than all right ones.
func beyond() api.Head { return api.Head{maxWord + 1} }

// Outside returns the least head that p matches and no element of a list does.
func Outside(p api.Pattern, l []api.Pattern) (api.Head, bool) {
	h := leastOutside(p, l, beyond())
	if h == beyond() {
		return api.Head{}, false
	}
	return h, true
}

// leastOutside returns the least head that p matches and no element of a list does, if it is less than a bound; else the
// bound. It decides bit after bit: a bit is 0 if some head that has been found says so, or a further one can be found.
func leastOutside(p api.Pattern, l []api.Pattern, bound api.Head) api.Head {
	if CompareHeads(Least(p), bound) >= 0 {
		return bound
	}
	seek := seeker(p, l)
	part, ok := seek(p)
	if !ok {
		return bound
	}
	h := Least(part)
	for w, value := range ones(without(full(), p.Mask)) {
		p.Mask[w] |= value
		if h[w]&value == 0 {
			continue
		}
		if part, ok := seek(p); ok {
			h = Least(part)
			continue
		}
		p.Bits[w] |= value
		if CompareHeads(Least(p), bound) >= 0 {
			return bound
		}
	}
	return h
}

// seeker returns a function that seeks a part of a pattern, which lies within p, that no element of a list overlaps.
//
// A pattern is divided by the element that leaves the fewest pieces of it. If a piece has no such part, the search tells
// which fixed bits are the reason. If they are fixed in the whole pattern as well, it has no such part either, and its
// other pieces need not be searched: words that do not depend on each other are searched one after the other, rather
// than in all combinations.
func seeker(p api.Pattern, l []api.Pattern) func(api.Pattern) (api.Pattern, bool) {
	var near []int // a stack: the elements that overlap p, then those of them that overlap a piece, and so on
	for k := range l {
		if overlap(&p, &l[k]) {
			near = append(near, k)
		}
	}
	var seek func(p api.Pattern, among []int) (part api.Pattern, reason api.Head, ok bool)
	seek = func(p api.Pattern, among []int) (part api.Pattern, reason api.Head, ok bool) {
		start, best := len(near), -1
		defer func() { near = near[:start] }()
		near, best = overlapping(near, &p, l, among)
		if best < 0 {
			return p, api.Head{}, true
		}
		reason, among = l[best].Mask, near[start:]
		for piece := range pieces(p, l[best]) {
			found, why, ok := seek(piece, among)
			if ok {
				return found, api.Head{}, true
			}
			if meet(why, p.Mask) == why {
				return api.Pattern{}, why, false
			}
			reason = join(reason, why)
		}
		return api.Pattern{}, meet(reason, p.Mask), false
	}
	all := near
	return func(p api.Pattern) (api.Pattern, bool) {
		part, _, ok := seek(p, all)
		return part, ok
	}
}

// overlapping appends to a list those among some elements of l that overlap p. It also returns the one that fixes the
// fewest bits that p does not fix: -1 if there are none. (Of an element that covers p, it is known that no other one is
// better.)
func overlapping(near []int, p *api.Pattern, l []api.Pattern, among []int) ([]int, int) {
	best, fewest := -1, Bits+1
	for _, k := range among {
		n, ok := excess(p, &l[k])
		if !ok {
			continue
		}
		near = append(near, k)
		if n < fewest {
			best, fewest = k, n
		}
		if n == 0 {
			break
		}
	}
	return near, best
}

// excess returns the number of the bits that q fixes and p does not; false if the two do not overlap.
func excess(p, q *api.Pattern) (int, bool) {
	n := 0
	for w := range p.Mask {
		if (p.Bits[w]^q.Bits[w])&p.Mask[w]&q.Mask[w] != 0 {
			return 0, false
		}
		n += bits.OnesCount16(uint16(q.Mask[w] &^ p.Mask[w]))
	}
	return n, true
}

// SameSet reports whether two lists stand for the same set; it returns the least head for which they differ.
func SameSet(a, b []api.Pattern) (api.Head, bool) {
	least := leastOf(a, b, beyond())
	least = leastOf(b, a, least)
	if least == beyond() {
		return api.Head{}, true
	}
	return least, false
}

// leastOf returns the least head of a that is not in b, if it is less than a bound; else the bound.
func leastOf(a, b []api.Pattern, bound api.Head) api.Head {
	for _, p := range a {
		bound = leastOutside(p, b, bound)
	}
	return bound
}
