package diagram_test

import (
	"math/bits"
	"slices"
	"testing"

	"interlace/api"
	"interlace/field"
	"interlace/meaning"
)

// The second way: a world of heads that stand for all of them, and for each policy a matrix that says which heads of the
// world come of which.

// world are the fields of the world. Policies have values of the port from 0 to 3.
func world() []api.Field {
	return []api.Field{{Name: "b", At: 64, Width: 2}, {Name: "a", At: 18, Width: 2}, {Name: "c", At: 143, Width: 1}}
}

const heads = 18 * 32

// headOf returns the head with a number; heads with greater numbers are greater. All bits of no field are 0. The ports from
// 4 on are the least ones of those that the same tests hold for, since these tests are for less than 4, or for a prefix
// of such a number.
func headOf(number int) api.Head {
	port := number >> 5
	if port >= 4 {
		port = 1 << (port - 2)
	}
	return api.Head{port, number >> 3 & 3 << 12, 4: number >> 1 & 3 << 14, 8: number & 1}
}

func numberOf(t *testing.T, h api.Head) int {
	t.Helper()
	port := h[0]
	if port >= 4 {
		port = bits.Len(uint(port)) + 1
	}
	number := port<<5 | h[1]>>12<<3 | h[4]>>14<<1 | h[8]
	if headOf(number) != h {
		t.Fatalf("%v is no head of the world", h)
	}
	return number
}

func TestWorld(t *testing.T) {
	var all []api.Head
	for h := range heads {
		all = append(all, headOf(h))
		if numberOf(t, headOf(h)) != h {
			t.Fatalf("the head %d of the world has the number %d", h, numberOf(t, headOf(h)))
		}
	}
	if !isSet(all) || all[heads-1] != (api.Head{32768, 0x3000, 4: 0xc000, 8: 1}) {
		t.Fatal("the heads of the world are not in order")
	}
}

// A line is the heads that come of one, as bits.
type line [heads / 64]uint64

func (x *line) add(h int) { x[h/64] |= 1 << (h % 64) }

func (x *line) has(h int) bool { return x[h/64]>>(h%64)&1 == 1 }

func (x *line) join(y *line) {
	for i := range x {
		x[i] |= y[i]
	}
}

func (x *line) set() []api.Head {
	var l []api.Head
	for h := range heads {
		if x.has(h) {
			l = append(l, headOf(h))
		}
	}
	return l
}

// A matrix has a line for each head.
type matrix [heads]line

func unit() *matrix {
	m := &matrix{}
	for h := range heads {
		m[h].add(h)
	}
	return m
}

func (m *matrix) union(n *matrix) *matrix {
	both := *m
	for h := range heads {
		both[h].join(&n[h])
	}
	return &both
}

func (m *matrix) seq(n *matrix) *matrix {
	both := &matrix{}
	for h := range heads {
		for g := range heads {
			if m[h].has(g) {
				both[h].join(&n[g])
			}
		}
	}
	return both
}

// star finds what comes of each head as all paths of a graph are found.
func (m *matrix) star() *matrix {
	all := m.union(unit())
	for between := range heads {
		for h := range heads {
			if all[h].has(between) {
				all[h].join(&all[between])
			}
		}
	}
	return all
}

func (m *matrix) domain() *matrix {
	all := unit()
	for h := range heads {
		if m[h] == (line{}) {
			all[h] = line{}
		}
	}
	return all
}

// differ returns the least head for which two matrices differ.
func (m *matrix) differ(n *matrix) (api.Head, bool) {
	for h := range heads {
		if m[h] != n[h] {
			return headOf(h), true
		}
	}
	return api.Head{}, false
}

func matrixOfPred(t *testing.T, p api.Pred, tick int) *matrix {
	t.Helper()
	m := unit()
	for h := range heads {
		if !meaning.Holds(world(), p, headOf(h), tick) {
			m[h] = line{}
		}
	}
	return m
}

func matrixOfSet(t *testing.T, name string, n int) *matrix {
	t.Helper()
	m := &matrix{}
	f, _ := field.Find(world(), name)
	for h := range heads {
		m[h].add(numberOf(t, field.Set(f, headOf(h), n)))
	}
	return m
}

// matrixOf returns the matrix of a policy.
func matrixOf(t *testing.T, x api.Policy, tick int) *matrix {
	t.Helper()
	switch x.Kind {
	case api.PoFilter:
		return matrixOfPred(t, x.Pred, tick)
	case api.PoSet:
		return matrixOfSet(t, x.Field, x.N)
	case api.PoUnion:
		return matrixOf(t, x.Args[0], tick).union(matrixOf(t, x.Args[1], tick))
	case api.PoSeq:
		return matrixOf(t, x.Args[0], tick).seq(matrixOf(t, x.Args[1], tick))
	}
	return matrixOf(t, x.Args[0], tick).star()
}

// The matrices agree with the definition of layer 13.
func TestMatrices(t *testing.T) {
	m := making(1, world(), 4)
	for range 200 {
		x, tick := m.fitting(12), m.tick()
		whole := matrixOf(t, x, tick)
		for range 5 {
			h := m.r.IntN(heads)
			if want, e := meaning.Eval(world(), x, headOf(h), tick); e == api.OK && !slices.Equal(whole[h].set(), want) {
				t.Fatalf("the matrix of %v says %v for %v, not %v", x, whole[h].set(), headOf(h), want)
			}
		}
	}
}
