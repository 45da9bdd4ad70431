package typing

import (
	"slices"

	"interlace/api"
)

// rebuilt returns what a function gives for each element, in order.
func rebuilt[T any](l []T, build func(T) T) []T {
	var built []T
	for _, x := range l {
		built = append(built, build(x))
	}
	return built
}

// FreezePred returns what a predicate is at a tick.
func FreezePred(x api.Pred, tick int) api.Pred {
	var freeze func(api.Pred) api.Pred
	freeze = func(x api.Pred) api.Pred {
		switch {
		case x.Kind != api.PrTime:
			x.Args = rebuilt(x.Args, freeze)
			return x
		case x.N <= tick && tick < x.M:
			return api.Pred{Kind: api.PrTrue}
		}
		return api.Pred{Kind: api.PrFalse}
	}
	return freeze(x)
}

// Freeze returns what a policy is at a tick.
func Freeze(x api.Policy, tick int) api.Policy {
	var freeze func(api.Policy) api.Policy
	freeze = func(x api.Policy) api.Policy {
		x.Pred = FreezePred(x.Pred, tick)
		x.Args = rebuilt(x.Args, freeze)
		return x
	}
	return freeze(x)
}

// FreezeProgram returns what a program is at a tick.
func FreezeProgram(p api.Program, tick int) api.Program {
	return rebuilt(p, func(s api.Stage) api.Stage {
		s.Policy = Freeze(s.Policy, tick)
		s.Step.Key = slices.Clone(s.Step.Key)
		return s
	})
}

// Boundaries returns the ticks at which a program may change.
func Boundaries(p api.Program) []int {
	var ticks []int
	for _, s := range p {
		for test := range testParts(s.Policy) {
			if test.Kind == api.PrTime {
				ticks = append(ticks, test.N, test.M)
			}
		}
	}
	return ordered(ticks)
}
