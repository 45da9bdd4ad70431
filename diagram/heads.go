package diagram

import (
	"slices"

	"interlace/api"
	"interlace/bits"
	"interlace/field"
)

// bitField returns the field of one bit.
func bitField(bit int32) api.Field { return api.Field{At: int(bit), Width: 1} }

// giver returns a function that reports whether a draft gives something for a head.
func (d *drafts) giver(h api.Head) func(a draft) bool {
	var gives func(a draft) bool
	work := remembered(func(a draft) bool {
		bit := d.bit(a)
		x := bits.Bit(h, int(bit))
		then := d.then(a, bit)
		return gives(then[2*x]) || gives(then[2*x+1])
	})
	gives = func(a draft) bool { return a == same || a != none && work(a) }
	return gives
}

// Gives reports whether a diagram gives a head.
func (s *Store) Gives(a int, h api.Head) bool {
	x := s.draft(s.known(a))
	return s.drafts.giver(h)(x)
}

// Eval returns the heads that a diagram gives. It does not follow drafts that give nothing, so that each way that it
// follows ends with a head.
func (s *Store) Eval(a int, h api.Head) ([]api.Head, api.Errno) {
	whole := s.draft(s.known(a))
	gives := s.drafts.giver(h)
	var heads []api.Head
	var follow func(a draft, g api.Head)
	follow = func(a draft, g api.Head) {
		switch {
		case len(heads) > MaxHeads || !gives(a):
			return
		case a == same:
			heads = append(heads, g)
			return
		}
		bit := s.drafts.bit(a)
		then := s.drafts.then(a, bit)
		x := bits.Bit(h, int(bit))
		for y := range 2 {
			follow(then[2*x+y], field.Set(bitField(bit), g, y))
		}
	}
	follow(whole, h)
	if len(heads) > MaxHeads {
		return nil, api.ErrLimit
	}
	return heads, api.OK
}

// Differ returns the least head for which two diagrams differ.
func (s *Store) Differ(a, b int) (api.Head, bool) {
	type pair struct{ a, b draft }
	whole := pair{s.draft(s.known(a)), s.draft(s.known(b))}
	if whole.a == whole.b {
		return api.Head{}, false
	}
	var least func(p pair) api.Head
	least = remembered(func(p pair) api.Head {
		bit := min(s.drafts.bit(p.a), s.drafts.bit(p.b))
		if bit == bits.Bits { // none and same differ for all heads
			return api.Head{}
		}
		left, right := s.drafts.then(p.a, bit), s.drafts.then(p.b, bit)
		x := 0
		if left[0] == right[0] && left[1] == right[1] {
			x = 1
		}
		var rest []api.Head
		for i := 2 * x; i < 2*x+2; i++ {
			if left[i] != right[i] {
				rest = append(rest, least(pair{left[i], right[i]}))
			}
		}
		return field.Set(bitField(bit), slices.MinFunc(rest, bits.CompareHeads), x)
	})
	return least(whole), true
}
