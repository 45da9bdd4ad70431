package typing

import (
	"iter"

	"interlace/api"
)

// parts visits the parts of a tree: itself, and then those of its Args, in order.
func parts[T any](x T, args func(T) []T) iter.Seq[T] {
	return func(yield func(T) bool) { visit(x, args, yield) }
}

// visit visits the parts of a tree, and reports whether all of them were wanted.
func visit[T any](x T, args func(T) []T, yield func(T) bool) bool {
	if !yield(x) {
		return false
	}
	for _, arg := range args(x) {
		if !visit(arg, args, yield) {
			return false
		}
	}
	return true
}

// predParts visits the parts of a predicate.
func predParts(x api.Pred) iter.Seq[api.Pred] {
	return parts(x, func(x api.Pred) []api.Pred { return x.Args })
}

// policyParts visits the parts of a policy that are policies.
func policyParts(x api.Policy) iter.Seq[api.Policy] {
	return parts(x, func(x api.Policy) []api.Policy { return x.Args })
}

// testParts visits the parts of a policy that are predicates.
func testParts(x api.Policy) iter.Seq[api.Pred] {
	return func(yield func(api.Pred) bool) {
		for filter := range policyParts(x) {
			if filter.Kind != api.PoFilter {
				continue
			}
			for test := range predParts(filter.Pred) {
				if !yield(test) {
					return
				}
			}
		}
	}
}
