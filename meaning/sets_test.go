package meaning_test

import (
	"slices"
	"testing"

	"interlace/api"
	"interlace/bits"
	"interlace/meaning"
)

// isSet reports whether heads are in strictly increasing order.
func isSet(heads []api.Head) bool {
	for i := range heads {
		if i > 0 && bits.CompareHeads(heads[i-1], heads[i]) >= 0 {
			return false
		}
	}
	return true
}

// setOf returns heads as a set.
func setOf(heads ...api.Head) []api.Head {
	l := slices.SortedFunc(slices.Values(heads), bits.CompareHeads)
	return slices.Compact(l)
}

func TestMerge(t *testing.T) {
	a, b, c, d := api.Head{0, 7}, api.Head{1}, api.Head{1, 9: 1}, api.Head{65535}
	for _, x := range []struct{ a, b, want []api.Head }{
		{nil, nil, nil}, {nil, []api.Head{}, nil}, {[]api.Head{a}, nil, []api.Head{a}}, {nil, []api.Head{a}, []api.Head{a}}, {[]api.Head{a}, []api.Head{a}, []api.Head{a}},
		{[]api.Head{a}, []api.Head{b}, []api.Head{a, b}}, {[]api.Head{b}, []api.Head{a}, []api.Head{a, b}}, {[]api.Head{a, b, c}, []api.Head{b, c, d}, []api.Head{a, b, c, d}},
		{[]api.Head{a, c}, []api.Head{b, d}, []api.Head{a, b, c, d}}, {[]api.Head{c, d}, []api.Head{a, b}, []api.Head{a, b, c, d}}, {[]api.Head{a, d}, []api.Head{b, c}, []api.Head{a, b, c, d}}, {[]api.Head{b}, []api.Head{a, b, c, d}, []api.Head{a, b, c, d}},
	} {
		if got := meaning.Merge(x.a, x.b); !slices.Equal(got, x.want) {
			t.Errorf("P13.5: Merge(%v, %v) is %v, want %v", x.a, x.b, got, x.want)
		}
	}
	// Heads are compared as a whole; that they are in no field, or that they are many, does not matter.
	var odd, even, all []api.Head
	for i := range 1000 {
		h := api.Head{i / 300, 3: 4, 9: i % 300}
		all = append(all, h)
		if i%2 == 0 {
			even = append(even, h)
		} else {
			odd = append(odd, h)
		}
	}
	if !isSet(all) || !slices.Equal(meaning.Merge(odd, even), all) || !slices.Equal(meaning.Merge(all, odd), all) {
		t.Error("P13.5: Merge of many heads")
	}
}

func TestIn(t *testing.T) {
	heads := []api.Head{{0, 7}, {1}, {1, 9: 1}, {1, 9: 3}, {65535}}
	for i, h := range heads {
		if !meaning.In(heads, h) || meaning.In(slices.Delete(slices.Clone(heads), i, i+1), h) {
			t.Errorf("P13.5: In of %v", h)
		}
	}
	for _, h := range []api.Head{{}, {0, 6}, {0, 8}, {1, 9: 2}, {1, 1}, {2}, {65535, 9: 1}} {
		if meaning.In(heads, h) || meaning.In(nil, h) {
			t.Errorf("P13.5: %v is in a set without it", h)
		}
	}
}

func TestRandomSets(t *testing.T) {
	m := making(1, many(), 2)
	for range 3000 {
		sets := [2][]api.Head{}
		in := map[api.Head][2]bool{}
		for i := range sets {
			var heads []api.Head
			for range m.r.IntN(12) {
				h := api.Head{m.r.IntN(3), 4: m.r.IntN(3), 9: m.r.IntN(2)}
				heads = append(heads, h)
				is := in[h]
				is[i] = true
				in[h] = is
			}
			sets[i] = setOf(heads...)
		}
		got := meaning.Merge(sets[0], sets[1])
		if !isSet(got) || len(got) != len(in) {
			t.Fatalf("P13.5: Merge(%v, %v) is %v", sets[0], sets[1], got)
		}
		for range 20 {
			h := api.Head{m.r.IntN(3), 4: m.r.IntN(3), 9: m.r.IntN(2)}
			want, known := in[h]
			if meaning.In(sets[0], h) != want[0] || meaning.In(sets[1], h) != want[1] || meaning.In(got, h) != known || slices.Contains(got, h) != known {
				t.Fatalf("P13.5: %v in %v, in %v, in %v", h, sets[0], sets[1], got)
			}
		}
	}
}
