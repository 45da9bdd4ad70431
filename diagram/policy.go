package diagram

import (
	"interlace/api"
	"interlace/field"
)

// A maker makes drafts of policies for some fields at a tick.
type maker struct {
	operations
	fields []api.Field
	tick   int
}

// pred returns the draft of a filter.
func (m maker) pred(p api.Pred) draft {
	arg := func(i int) draft {
		if i >= len(p.Args) {
			return none
		}
		return m.pred(p.Args[i])
	}
	f, _ := field.Find(m.fields, p.Field)
	switch p.Kind {
	case api.PrTrue:
		return same
	case api.PrEq:
		return m.filter(field.Equal(f, p.N))
	case api.PrPrefix:
		return m.filter(field.Prefix(f, p.N, p.M))
	case api.PrRange:
		all := none
		for _, x := range field.Range(f, p.N, p.M) {
			all = m.union(all, m.filter(x))
		}
		return all
	case api.PrTime:
		if p.N <= m.tick && m.tick < p.M {
			return same
		}
	case api.PrNot:
		return m.minus(same, arg(0))
	case api.PrAnd:
		return m.seq(arg(0), arg(1))
	case api.PrOr:
		return m.union(arg(0), arg(1))
	}
	return none
}

// set returns the draft of a set.
func (m maker) set(name string, n int) draft {
	f, _ := field.Find(m.fields, name)
	return m.mod(field.Mod(f, n))
}

// policy returns the draft of a policy.
func (m maker) policy(x api.Policy) draft {
	arg := func(i int) draft {
		if i >= len(x.Args) {
			return none
		}
		return m.policy(x.Args[i])
	}
	switch x.Kind {
	case api.PoFilter:
		return m.pred(x.Pred)
	case api.PoSet:
		return m.set(x.Field, x.N)
	case api.PoUnion:
		return m.union(arg(0), arg(1))
	case api.PoSeq:
		return m.seq(arg(0), arg(1))
	case api.PoStar:
		return m.star(arg(0))
	}
	return none
}
