package equiv_test

import (
	"slices"
	"testing"

	"interlace/api"
	"interlace/bits"
	"interlace/equiv"
	"interlace/field"
)

// A box is heads in which some fields have values of a range: all fields of wide by number, of which the last one is 0.
type box map[int][2]int

const values = 10

// policy returns a policy that gives the heads of a box.
func (b box) policy() api.Policy {
	var l []api.Policy
	for i := range 7 {
		if r, set := b[i]; set {
			l = append(l, choice(letter(i), r[0], r[1]))
		}
	}
	return all(api.PoSeq, l...)
}

// together returns the least head of two boxes, if there is one.
func (b box) together(c box) (h api.Head, ok bool) {
	for i, f := range wide()[:7] {
		from, to := max(b[i][0], c[i][0]), field.Max(f)+1
		for _, x := range []box{b, c} {
			if r, set := x[i]; set {
				to = min(to, r[1])
			}
		}
		if from >= to {
			return api.Head{}, false
		}
		h = field.Set(f, h, from)
	}
	return h, true
}

// box returns a random box of hundred patterns.
func (m maker) box() box {
	b := box{}
	for len(b) < 2 {
		i := pick(m, 0, 1, 2, 4)
		from := m.r.IntN(3) * 8
		b[i] = [2]int{from, from + values}
	}
	return b
}

// boxes returns a policy that gives the heads of some boxes, each of them for other heads.
func boxes(l []box) api.Policy {
	var each []api.Policy
	for i, b := range l {
		each = append(each, seq(filter(eq("fh", i)), b.policy()))
	}
	return seq(all(api.PoUnion, each...), set("fh", 0))
}

// Policies that give many heads which are known, some with any value of a field.
func TestBoxes(t *testing.T) {
	m := making(40, wide(), 8)
	distinct, other := 0, 0
	for range 60 {
		var left, right []box
		for range 3 {
			left, right = append(left, m.box()), append(right, m.box())
		}
		if m.r.IntN(2) == 0 { // one field keeps them apart
			for i := range 3 {
				left[i], right[i] = box{0: {0, values}, 1 + i: {5, 5 + values}}, box{0: {values, 2 * values}, 1 + i: {5, 5 + values}}
			}
			if m.r.IntN(2) == 0 {
				right[m.r.IntN(3)][0] = [2]int{values - 1, 2*values - 1}
			}
		}
		var common []api.Head
		for _, b := range left {
			for _, c := range right {
				if h, ok := b.together(c); ok {
					common = append(common, h)
				}
			}
		}
		p, q, want := boxes(left), boxes(right), api.Head{}
		fits(t, wide(), p)
		if len(common) > 0 {
			want = slices.MinFunc(common, bits.CompareHeads)
			other++
		} else {
			distinct++
		}
		if h, yes, e := equiv.Distinct(wide(), p, q, 0); h != want || yes != (len(common) == 0) || e != api.OK {
			t.Fatalf("P15.5: Distinct of the boxes %v and %v is %v, %v and %d, want %v", left, right, h, yes, e, want)
		}
	}
	if distinct < 10 || other < 30 {
		t.Errorf("P15.5: %d pairs of boxes are distinct, and %d are not", distinct, other)
	}
}
