package meaning

import "interlace/api"

// A table remembers so many heads at most. An answer without heads counts as some, too, since it takes as much room.
const (
	maxKept   = 1 << 21
	keptAlone = 3
)

// A table has an action for each part of a policy, behind those of its Args. It remembers answers: there are many ways to
// come to the same head, and for each of them what follows would be asked again.
type table struct {
	actions []action
	answers map[question][]api.Head
	kept    int // how many heads are remembered
}

// A question is which heads the action with an index gives for a head.
type question struct {
	action int
	head   api.Head
}

// ask returns which heads an action gives for a head, or ErrLimit if these, or those of a set that is needed for them, are
// too many.
func (t *table) ask(a int, h api.Head) ([]api.Head, api.Errno) {
	if t.actions[a].simple {
		return t.actions[a].gives(h)
	}
	q := question{a, h}
	heads, known := t.answers[q]
	if known {
		return heads, api.OK
	}
	heads, e := t.actions[a].gives(h)
	if e != api.OK || len(heads) > MaxHeads {
		return nil, api.ErrLimit
	}
	t.keep(q, heads)
	return heads, api.OK
}

// keep remembers an answer, and forgets the others if they become too many.
func (t *table) keep(q question, heads []api.Head) {
	room := keptAlone + len(heads)
	if t.kept+room > maxKept {
		clear(t.answers)
		t.kept = 0
	}
	t.answers[q] = heads
	t.kept += room
}
