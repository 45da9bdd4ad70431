package equiv

import (
	"interlace/api"
	"interlace/bits"
	"interlace/diagram"
)

// A desk is where a question is asked: it has a store of its own, and a tick.
type desk struct {
	store *diagram.Store
	tick  int
}

// ask asks a question with a new store. The first error ends it.
func ask(l []api.Field, tick int, question func(d desk) (api.Head, bool)) (h api.Head, yes bool, e api.Errno) {
	defer func() {
		x := recover()
		if x == nil {
			return
		}
		h, yes, e = api.Head{}, false, api.ErrArg
		if first, known := x.(api.Errno); known {
			e = first
		}
	}()
	h, yes = question(desk{diagram.New(l, Room), tick})
	return h, yes, api.OK
}

// must returns what a call returned with OK, and panics with its error otherwise.
func must[T any](x T, e api.Errno) T {
	if e != api.OK {
		panic(e)
	}
	return x
}

// policy returns the diagram of a policy.
func (d desk) policy(x api.Policy) int { return must(d.store.Policy(x, d.tick)) }

// domain returns the filter of the heads for which a policy gives something.
func (d desk) domain(x api.Policy) int { return must(d.store.Domain(d.policy(x))) }

// filter returns the filter of a predicate without parts.
func (d desk) filter(kind int) int { return must(d.store.Filter(api.Pred{Kind: kind}, d.tick)) }

// same answers whether two diagrams are the same.
func (d desk) same(a, b int) (api.Head, bool) {
	h, differ := d.store.Differ(a, b)
	return h, !differ
}

// least is the least one of some heads, if there is one.
type least struct {
	head  api.Head
	found bool
}

func (x *least) take(h api.Head) {
	if !x.found || bits.CompareHeads(h, x.head) < 0 {
		*x = least{h, true}
	}
}

// answer answers whether there is no head.
func (x *least) answer() (api.Head, bool) { return x.head, !x.found }
