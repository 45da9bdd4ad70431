package meaning

import (
	"iter"
	"slices"

	"interlace/api"
	"interlace/bits"
)

// merged visits the heads of two sets in increasing order, each once.
func merged(a, b []api.Head) iter.Seq[api.Head] {
	return func(yield func(api.Head) bool) {
		x, y := a, b // the heads that are left
		for len(x) > 0 || len(y) > 0 {
			order := first(x, y)
			least := y
			if order <= 0 {
				least, x = x, x[1:]
			}
			if order >= 0 {
				y = y[1:]
			}
			if !yield(least[0]) {
				return
			}
		}
	}
}

// first compares the first heads of two sets, of which one may be empty: this one counts as greater.
func first(a, b []api.Head) int {
	switch {
	case len(a) == 0:
		return 1
	case len(b) == 0:
		return -1
	}
	return bits.CompareHeads(a[0], b[0])
}

// Merge returns the heads of two sets.
func Merge(a, b []api.Head) []api.Head {
	both := make([]api.Head, 0, len(a)+len(b))
	for h := range merged(a, b) {
		both = append(both, h)
	}
	return both
}

// joined returns the heads of two sets: one of these itself if it has all of them, so that equal sets share memory.
func joined(a, b []api.Head) []api.Head {
	if len(a) < len(b) {
		a, b = b, a
	}
	lacking := func(h api.Head) bool { return !In(a, h) }
	if slices.Equal(a, b) || !slices.ContainsFunc(b, lacking) {
		return a
	}
	return Merge(a, b)
}

// missing returns the heads of a set that are not in another one.
func missing(heads, known []api.Head) []api.Head {
	return slices.DeleteFunc(slices.Clone(heads), func(h api.Head) bool { return In(known, h) })
}

// In reports whether a head is in a set.
func In(heads []api.Head, h api.Head) bool {
	_, found := slices.BinarySearchFunc(heads, h, bits.CompareHeads)
	return found
}
