package equiv

import (
	"slices"

	"interlace/api"
	"interlace/bits"
)

// given returns patterns of all heads that some choices give, each pattern once.
func given(l []api.Choice) []api.Pattern {
	var images []api.Pattern
	for _, c := range l {
		for _, m := range c.Mods {
			images = append(images, bits.Image(c.Match, m))
		}
	}
	slices.SortFunc(images, bits.Compare)
	return slices.Compact(images)
}

// For each pattern there may be so many comparisons before it is worth while to look for a bit that divides the patterns.
const fewPairs = 64

// common answers whether no head is in both lists. Instead of comparing all pairs of patterns, it divides them by bits, as
// long as this leaves clearly fewer pairs: so it never compares many more pairs than there are.
func common(a, b []api.Pattern) (api.Head, bool) {
	var first least
	var search func(a, b []api.Pattern, bit int)
	search = func(a, b []api.Pattern, bit int) {
		pairs := len(a) * len(b)
		if pairs > fewPairs*(len(a)+len(b)) {
			for ; bit < bits.Bits; bit++ {
				left := count(a, bit, 0)*count(b, bit, 0) + count(a, bit, 1)*count(b, bit, 1)
				if left <= pairs/4*3 {
					search(part(a, bit, 0), part(b, bit, 0), bit+1)
					search(part(a, bit, 1), part(b, bit, 1), bit+1)
					return
				}
			}
		}
		for _, p := range a {
			for _, q := range b {
				if both, overlap := bits.And(p, q); overlap {
					first.take(bits.Least(both))
				}
			}
		}
	}
	search(a, b, 0)
	return first.answer()
}

// has reports whether a pattern matches a head in which a bit is x.
func has(p api.Pattern, bit, x int) bool {
	return bits.Bit(p.Mask, bit) == 0 || bits.Bit(p.Bits, bit) == x
}

// count returns how many patterns match heads in which a bit is x.
func count(l []api.Pattern, bit, x int) int {
	n := 0
	for _, p := range l {
		if has(p, bit, x) {
			n++
		}
	}
	return n
}

// part returns the patterns that match heads in which a bit is x.
func part(l []api.Pattern, bit, x int) []api.Pattern {
	var some []api.Pattern
	for _, p := range l {
		if has(p, bit, x) {
			some = append(some, p)
		}
	}
	return some
}
