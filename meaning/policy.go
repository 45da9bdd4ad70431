package meaning

import (
	"interlace/api"
	"interlace/field"
)

// An action is the row of a part of a policy: it says which heads this gives for a head. Of a simple one this is at most
// one head, which is found at once.
type action struct {
	gives  func(h api.Head) ([]api.Head, api.Errno)
	simple bool
}

// tableOf returns the table of a policy at a tick, and the index of the whole policy. The first action is for what is
// missing or of no kind.
func tableOf(l []api.Field, p api.Policy, tick int) (*table, int) {
	t := &table{answers: map[question][]api.Head{}}
	add := func(simple bool, gives func(h api.Head) ([]api.Head, api.Errno)) int {
		t.actions = append(t.actions, action{gives, simple})
		return len(t.actions) - 1
	}
	none := add(true, func(api.Head) ([]api.Head, api.Errno) { return nil, api.OK })
	var fill func(x api.Policy) int
	fill = func(x api.Policy) int {
		args := [2]int{none, none}
		for i := range min(len(args), len(x.Args)) {
			args[i] = fill(x.Args[i])
		}
		a, b := args[0], args[1]
		switch x.Kind {
		case api.PoFilter:
			row := testOf(l, x.Pred, tick)
			return add(true, func(h api.Head) ([]api.Head, api.Errno) { return only(row.holds(h), h), api.OK })
		case api.PoSet:
			f, _ := field.Find(l, x.Field)
			return add(true, func(h api.Head) ([]api.Head, api.Errno) { return only(true, field.Set(f, h, x.N)), api.OK })
		case api.PoUnion:
			return add(false, func(h api.Head) ([]api.Head, api.Errno) { return t.union(a, b, h) })
		case api.PoSeq:
			return add(false, func(h api.Head) ([]api.Head, api.Errno) { return t.seq(a, b, h) })
		case api.PoStar:
			own := len(t.actions)
			return add(false, func(h api.Head) ([]api.Head, api.Errno) { return t.star(own, a, h) })
		}
		return none
	}
	whole := fill(p)
	return t, whole
}

// only returns the set of a head, or the empty one.
func only(given bool, h api.Head) []api.Head {
	if !given {
		return nil
	}
	return []api.Head{h}
}

// union returns which heads one of two actions gives for a head.
func (t *table) union(a, b int, h api.Head) ([]api.Head, api.Errno) {
	some, e := t.ask(a, h)
	if e != api.OK {
		return nil, e
	}
	others, e := t.ask(b, h)
	if e != api.OK {
		return nil, e
	}
	return joined(some, others), api.OK
}

// seq returns which heads the second one of two actions gives for those that the first one gives for a head.
func (t *table) seq(a, b int, h api.Head) ([]api.Head, api.Errno) {
	between, e := t.ask(a, h)
	if e != api.OK {
		return nil, e
	}
	return t.image(b, between)
}

// image returns which heads an action gives for one of some heads.
func (t *table) image(a int, heads []api.Head) ([]api.Head, api.Errno) {
	var all []api.Head
	for _, h := range heads {
		some, e := t.ask(a, h)
		if e != api.OK {
			return nil, e
		}
		if all = joined(all, some); len(all) > MaxHeads {
			return nil, api.ErrLimit
		}
	}
	return all, api.OK
}

// star returns which heads come from a head by an action, any number of times. Answers of the star itself, which has the
// index own, are made use of: what comes from a head of such an answer is in it.
func (t *table) star(own, a int, h api.Head) ([]api.Head, api.Errno) {
	all := []api.Head{h}
	var done []api.Head // what comes from these is in all
	var e api.Errno
	for fresh := all; len(fresh) > 0; fresh = missing(all, done) {
		for _, g := range fresh {
			if In(done, g) {
				continue
			}
			next, known := t.answers[question{own, g}]
			if known {
				done = joined(done, next)
			} else if next, e = t.ask(a, g); e != api.OK {
				return nil, e
			}
			if all = joined(all, next); len(all) > MaxHeads {
				return nil, api.ErrLimit
			}
		}
		done = joined(done, fresh)
	}
	return all, api.OK
}

// rounds returns how many times an action has to be taken until all heads have come that come from a head by it.
func (t *table) rounds(a int, h api.Head) (int, api.Errno) {
	all := []api.Head{h}
	fresh := all
	for n := 0; ; n++ {
		next, e := t.image(a, fresh)
		if e != api.OK {
			return 0, e
		}
		fresh = missing(next, all)
		if len(fresh) == 0 {
			return n, api.OK
		}
		if all = joined(all, fresh); len(all) > MaxHeads {
			return 0, api.ErrLimit
		}
	}
}
