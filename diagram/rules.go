package diagram

import (
	"slices"

	"interlace/api"
	"interlace/bits"
	"interlace/field"
)

// A move is what a draft makes of a bit: which drafts follow if it is kept, and if it is set to 0, and to 1.
type move struct {
	keep draft
	sets [2]draft
}

// A turn says what drafts make of a bit, for the heads in which it is 0, for those in which it is 1, or for all heads: for
// all only if the moves are the same, and if no draft gives a head by a set that it gives by keeping the bit, too.
type turn struct {
	bit   int32
	match api.Pattern
	from  []draft // in increasing order
	moves []move
	next  *tree
}

// A tree says what drafts make of heads, turn by turn: each way through it ends with one of count choices.
type tree struct {
	turns []turn
	count int
}

// A planner makes trees for sets of drafts, those that may follow for a head: a choice is for all of them.
type planner struct {
	operations
	trees map[string]*tree
}

// Rules returns choices. Their mods are made at last, since they can be very many, also where there are too many choices.
func (s *Store) Rules(a int) (l []api.Choice, e api.Errno) {
	defer func() {
		if recover() != nil { // there are too many choices
			l, e = nil, api.ErrLimit
		}
	}()
	whole := s.draft(s.known(a))
	if whole == none {
		return nil, api.OK
	}
	p := planner{s.drafts.operations(), map[string]*tree{}}
	p.tree([]draft{whole}).visit(func(match api.Pattern, turns []turn) {
		mods := mods(turns, whole)
		for i, m := range mods {
			mods[i] = s.widened(m, match)
		}
		slices.SortFunc(mods, func(m, n api.Mod) int { return bits.Compare(api.Pattern(m), api.Pattern(n)) })
		l = append(l, api.Choice{Match: match, Mods: mods})
	})
	return l, api.OK
}

// tree returns the tree of some drafts, which are in increasing order. It panics if there are too many choices: there are
// at least as many in the end.
func (p planner) tree(from []draft) *tree {
	key := make([]byte, 0, 4*len(from))
	bit := int32(bits.Bits)
	for _, a := range from {
		key = append(key, byte(a), byte(a>>8), byte(a>>16), byte(a>>24))
		bit = min(bit, p.bit(a))
	}
	if bit == bits.Bits {
		return &tree{count: 1}
	}
	x, known := p.trees[string(key)]
	if known {
		return x
	}
	x = &tree{}
	for _, t := range p.turns(from, bit) {
		following := t.following()
		if len(following) == 0 {
			continue
		}
		t.next = p.tree(following)
		x.turns = append(x.turns, t)
		x.count += t.next.count
		if x.count > api.MaxRules {
			panic(api.ErrLimit)
		}
	}
	p.trees[string(key)] = x
	return x
}

// turns returns one turn for a bit, if it can be for all heads, and otherwise two. If it is for all heads, what leads from
// 1 to 0 is a set to 0, which must also be among what leads from 0 to 0, and so on; what is left there keeps the bit.
func (p planner) turns(from []draft, bit int32) []turn {
	all := turn{bit: bit, from: from}
	var one [2]turn
	for x := range one {
		one[x] = turn{bit: bit, from: from, match: field.Equal(bitField(bit), x)}
	}
	free := true
	for _, a := range from {
		then := p.then(a, bit)
		keep := p.minus(then[0], then[2])
		free = free && keep == p.minus(then[3], then[1]) && p.minus(then[2], then[0]) == none && p.minus(then[1], then[3]) == none
		all.moves = append(all.moves, move{keep, [2]draft{then[2], then[1]}})
		one[0].moves = append(one[0].moves, move{then[0], [2]draft{1: then[1]}})
		one[1].moves = append(one[1].moves, move{then[3], [2]draft{then[2]}})
	}
	if free {
		return []turn{all}
	}
	return one[:]
}

// following returns the drafts that follow a turn, in increasing order.
func (t turn) following() []draft {
	var l []draft
	for _, m := range t.moves {
		l = append(l, m.keep, m.sets[0], m.sets[1])
	}
	slices.Sort(l)
	l = slices.Compact(l)
	if len(l) > 0 && l[0] == none {
		l = l[1:]
	}
	return l
}

// visit visits the ways through a tree: the turns of each, and the heads that they are for.
func (x *tree) visit(see func(match api.Pattern, turns []turn)) {
	var turns []turn
	var walk func(x *tree, match api.Pattern)
	walk = func(x *tree, match api.Pattern) {
		if len(x.turns) == 0 {
			see(match, turns)
		}
		for _, t := range x.turns {
			narrow, _ := bits.And(match, t.match)
			turns = append(turns, t)
			walk(t.next, narrow)
			turns = turns[:len(turns)-1]
		}
	}
	walk(x, api.Pattern{})
}

// mods returns what some turns make of heads, for a draft. It does not follow drafts that some later turn ends.
func mods(turns []turn, whole draft) []api.Mod {
	type place struct {
		turn int
		a    draft
	}
	after := func(p place) move {
		t := turns[p.turn]
		k, _ := slices.BinarySearch(t.from, p.a)
		return t.moves[k]
	}
	var lives func(p place) bool
	lives = remembered(func(p place) bool {
		if p.a == none || p.turn == len(turns) {
			return p.a != none
		}
		m := after(p)
		return lives(place{p.turn + 1, m.keep}) || lives(place{p.turn + 1, m.sets[0]}) || lives(place{p.turn + 1, m.sets[1]})
	})
	var l []api.Mod
	var walk func(p place, m api.Mod)
	walk = func(p place, m api.Mod) {
		switch {
		case !lives(p):
			return
		case p.turn == len(turns):
			l = append(l, m)
			return
		}
		next := after(p)
		walk(place{p.turn + 1, next.keep}, m)
		for y, a := range next.sets {
			if a != none {
				walk(place{p.turn + 1, a}, bits.Then(m, field.Mod(bitField(turns[p.turn].bit), y)))
			}
		}
	}
	walk(place{0, whole}, api.Mod{})
	return l
}

// widened returns a mod that does the same to the heads of a pattern. If it sets a bit of a field of which all bits are
// known afterwards, it sets the whole field, so that the same is done in the same way for other patterns.
func (s *Store) widened(m api.Mod, p api.Pattern) api.Mod {
	known := bits.Then(api.Mod(p), m)
	for _, f := range s.fields {
		if field.Get(f, m.Mask) != 0 && field.Get(f, known.Mask) == field.Max(f) {
			m = bits.Then(m, field.Mod(f, field.Get(f, known.Bits)))
		}
	}
	return m
}
