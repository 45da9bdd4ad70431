package meaning_test

import (
	"fmt"
	"math/bits"
	"slices"
	"strings"
	"testing"

	"interlace/api"
	"interlace/meaning"
	"interlace/syntax"
	"interlace/typing"
)

// The second way to Eval: in a world of few heads, what a policy gives is worked out for all of them at once, as a matrix.

// world are the fields of a world of 1024 heads: 8 values of a, 8 of b, 2 of c, and the ports 0 to 7.
func world() []api.Field {
	return []api.Field{{Name: "a", At: 18, Width: 3}, {Name: "b", At: 64, Width: 3}, {Name: "c", At: 143, Width: 1}}
}

const heads = 1024

// headOf returns the head with a number; heads with greater numbers are greater. Bits that are in no field are in use, too.
func headOf(number int) api.Head {
	return api.Head{number >> 7, 0x4001 | number>>4&7<<11, 3: 77, 4: 0x0fff | number>>1&7<<13, 8: 0xaaaa | number&1, 9: 5}
}

func numberOf(h api.Head) int {
	number := h[0]<<7 | h[1]>>11&7<<4 | h[4]>>13<<1 | h[8]&1
	if headOf(number) != h {
		panic(fmt.Sprint("no head of the world: ", h))
	}
	return number
}

// A row is the heads that come of one, as bits.
type row [heads / 64]uint64

func (r *row) add(h int)      { r[h/64] |= 1 << (h % 64) }
func (r *row) has(h int) bool { return r[h/64]>>(h%64)&1 == 1 }

func (r *row) join(s *row) {
	for i := range r {
		r[i] |= s[i]
	}
}

func (r *row) count() int {
	n := 0
	for _, x := range r {
		n += bits.OnesCount64(x)
	}
	return n
}

func (r *row) each(visit func(h int)) {
	for h := range heads {
		if r.has(h) {
			visit(h)
		}
	}
}

func (r *row) set() []api.Head {
	var l []api.Head
	r.each(func(h int) { l = append(l, headOf(h)) })
	return l
}

// A matrix has a row for each head, and the heads for which a set is too large.
type matrix struct {
	rows  [heads]row
	large [heads]bool
}

// matrixOf returns the matrix of a policy.
func matrixOf(x api.Policy, tick int) *matrix {
	m := &matrix{}
	switch x.Kind {
	case api.PoFilter:
		for h := range heads {
			if truth(world(), x.Pred, headOf(h), tick) {
				m.rows[h].add(h)
			}
		}
	case api.PoSet:
		for h := range heads {
			m.rows[h].add(numberOf(with(world(), headOf(h), x.Field, x.N)))
		}
	case api.PoUnion:
		a, b := matrixOf(x.Args[0], tick), matrixOf(x.Args[1], tick)
		for h := range heads {
			m.rows[h] = a.rows[h]
			m.rows[h].join(&b.rows[h])
			m.large[h] = a.large[h] || b.large[h]
		}
	case api.PoSeq:
		a, b := matrixOf(x.Args[0], tick), matrixOf(x.Args[1], tick)
		for h := range heads {
			m.large[h] = a.large[h]
			a.rows[h].each(func(g int) {
				m.rows[h].join(&b.rows[g])
				m.large[h] = m.large[h] || b.large[g]
			})
		}
	case api.PoStar:
		m = closed(matrixOf(x.Args[0], tick))
	}
	for h := range heads {
		m.large[h] = m.large[h] || m.rows[h].count() > 256
	}
	return m
}

// closed returns the matrix of a star, found as all paths of a graph are.
func closed(a *matrix) *matrix {
	m := &matrix{rows: a.rows}
	for h := range heads {
		m.rows[h].add(h)
	}
	for between := range heads {
		for h := range heads {
			if m.rows[h].has(between) {
				m.rows[h].join(&m.rows[between])
			}
		}
	}
	for h := range heads {
		m.rows[h].each(func(g int) { m.large[h] = m.large[h] || a.large[g] })
	}
	return m
}

// image returns which heads come of one of some heads, and whether they, or a set that is needed for them, are too large.
func (m *matrix) image(heads []int) (all row, large bool) {
	for _, h := range heads {
		all.join(&m.rows[h])
		large = large || m.large[h]
	}
	return all, large || all.count() > 256
}

// rounds returns how many times a matrix has to be taken until a head has come to all heads of its star.
func (m *matrix) rounds(h int) int {
	var all row
	all.add(h)
	for n := 0; ; n++ {
		next := all
		all.each(func(g int) { next.join(&m.rows[g]) })
		if next == all {
			return n
		}
		all = next
	}
}

// digits returns the value of a field in binary digits, cut out of those of the head.
func digits(l []api.Field, name string, h api.Head) string {
	var b strings.Builder
	for _, x := range h {
		fmt.Fprintf(&b, "%016b", x)
	}
	if name == "port" {
		return b.String()[:16]
	}
	i := slices.IndexFunc(l, func(f api.Field) bool { return f.Name == name })
	return b.String()[l[i].At : l[i].At+l[i].Width]
}

// truth is the second way to Holds, which compares digits.
func truth(l []api.Field, x api.Pred, h api.Head, tick int) bool {
	arg := func(i int) bool { return truth(l, x.Args[i], h, tick) }
	switch x.Kind {
	case api.PrTrue, api.PrFalse:
		return x.Kind == api.PrTrue
	case api.PrNot:
		return arg(0) == false
	case api.PrAnd, api.PrOr:
		left, right := arg(0), arg(1)
		return left && right || x.Kind == api.PrOr && left != right
	case api.PrTime:
		return !(tick < x.N) && !(tick >= x.M)
	}
	value := digits(l, x.Field, h)
	written := func(n int) string { return fmt.Sprintf("%0*b", len(value), n) }
	switch x.Kind {
	case api.PrEq:
		return value == written(x.N)
	case api.PrPrefix:
		return value[:x.M] == written(x.N)[:x.M]
	}
	return written(x.N) <= value && value <= written(x.M)
}

// choice returns a policy that sets a field to one of some values.
func (m maker) choice(name string, values int) api.Policy {
	x := set(name, m.r.IntN(values))
	for n := range values {
		x = union(x, set(name, n))
	}
	return x
}

// broad returns a random policy that fits and may give very many heads of the world.
func (m maker) broad() api.Policy {
	for {
		if x := m.broadOrLarge(); typing.Policy(world(), x) == api.OK {
			return x
		}
	}
}

func (m maker) broadOrLarge() api.Policy {
	x := pick(m, id(), m.fitting(9))
	for _, name := range pick(m, []string{"a", "b"}, []string{"a", "b", "c"}, []string{"b", "port"}, []string{"a", "b", "c", "port"}) {
		values := 2
		if name != "c" {
			values = 3 + m.r.IntN(6)
		}
		x = pick(m, seq(x, m.choice(name, values)), seq(m.choice(name, values), x), union(x, m.choice(name, values)))
	}
	switch m.r.IntN(6) {
	case 0:
		return star(x)
	case 1:
		return star(union(m.fitting(9), pick(m, x, star(x))))
	case 2:
		return pick(m, union, seq)(x, m.fitting(9))
	}
	few := seq(set("a", 3), seq(set("b", 5), set("port", 1))) // there are at most two heads behind it
	return pick(m, seq(x, few), seq(pick(m, union, seq)(m.fitting(9), x), few), seq(x, seq(m.fitting(9), few)), star(seq(x, few)))
}

// moves returns a random policy whose star goes through some heads, one way or another.
func (m maker) moves() api.Policy {
	x := seq(filter(eq("a", m.r.IntN(8))), set("a", m.r.IntN(8)))
	for range 2 + m.r.IntN(12) {
		y := seq(filter(eq("a", m.r.IntN(8))), set("a", m.r.IntN(8)))
		if m.r.IntN(4) == 0 {
			y = seq(y, set("b", m.r.IntN(3)))
		}
		x = union(x, y)
	}
	return seq(m.choice("a", 1+m.r.IntN(8)), pick(m, star(x), star(union(star(x), m.fitting(3)))))
}

func TestWorld(t *testing.T) {
	last := api.Head{}
	for h := range heads {
		head := headOf(h)
		if numberOf(head) != h || h > 0 && !isSet([]api.Head{last, head}) {
			t.Fatal("the heads of the world are not in order")
		}
		last = head
	}
}

func TestRandomPolicies(t *testing.T) {
	m := making(2, world(), 8)
	large, unseen, many, several := 0, 0, 0, 0
	for i := range 300 {
		x, tick := m.fitting(40), m.tick()
		switch i % 4 {
		case 0, 1:
			x = m.broad()
		case 2:
			x = m.moves()
		}
		want := matrixOf(x, tick)
		for range 8 {
			h := m.r.IntN(heads)
			got, e := meaning.Eval(world(), x, headOf(h), tick)
			if want.large[h] {
				large++
				if want.rows[h].count() <= 256 {
					unseen++
				}
				if e != api.ErrLimit || len(got) != 0 {
					t.Fatalf("P13.2: %q gives %d heads and %d for %v, want ErrLimit", syntax.PrintPolicy(x), len(got), e, headOf(h))
				}
				continue
			}
			if set := want.rows[h].set(); e != api.OK || !slices.Equal(got, set) {
				t.Fatalf("P13.2: %q gives %v and %d for %v, want %v", syntax.PrintPolicy(x), got, e, headOf(h), set)
			}
			if len(got) > 100 {
				many++
			} else if len(got) > 1 {
				several++
			}
		}
	}
	if large < 50 || unseen < 10 || many < 30 || several < 1000 {
		t.Errorf("P13.2: only %d random sets are too large, %d of them on the way; %d have many heads, %d several", large, unseen, many, several)
	}
}

func TestRandomImages(t *testing.T) {
	m := making(3, world(), 8)
	large, several := 0, 0
	for i := range 200 {
		x, tick := m.fitting(30), m.tick()
		switch i % 4 {
		case 0, 1:
			x = m.broad()
		case 2:
			x = m.moves()
		}
		want := matrixOf(x, tick)
		for range 6 {
			var some []int
			for range m.r.IntN(5) {
				some = append(some, m.r.IntN(heads))
			}
			given := setOf()
			for _, h := range some {
				given = setOf(append(given, headOf(h))...)
			}
			all, tooLarge := want.image(some)
			got, e := meaning.Image(world(), x, given, tick)
			if tooLarge && (len(got) != 0 || e != api.ErrLimit) || !tooLarge && (!slices.Equal(got, all.set()) || e != api.OK) {
				t.Fatalf("P13.3: Image of %q for %v is %v and %d, want %v (too large: %v)", syntax.PrintPolicy(x), given, got, e, all.set(), tooLarge)
			}
			if tooLarge {
				large++
			} else if len(got) > 2 {
				several++
			}
		}
	}
	if large < 20 || several < 200 {
		t.Errorf("P13.3: only %d random images are too large, and %d have several heads", large, several)
	}
}

func TestRandomRounds(t *testing.T) {
	m := making(4, world(), 8)
	large, long := 0, 0
	for i := range 200 {
		x, tick := m.fitting(60), m.tick()
		if i%3 == 0 {
			x = m.broad()
		}
		once := matrixOf(x, tick)
		whole := closed(once)
		for range 6 {
			h := m.r.IntN(heads)
			n, e := meaning.Rounds(world(), x, headOf(h), tick)
			tooLarge := whole.large[h] || whole.rows[h].count() > 256
			if tooLarge && (n != 0 || e != api.ErrLimit) || !tooLarge && (n != once.rounds(h) || e != api.OK) {
				t.Fatalf("P13.4: Rounds of %q for %v is %d and %d, want %d (too large: %v)", syntax.PrintPolicy(x), headOf(h), n, e, once.rounds(h), tooLarge)
			}
			if tooLarge {
				large++
			} else if n > 2 {
				long++
			}
		}
	}
	if large < 20 || long < 50 {
		t.Errorf("P13.4: only %d random stars are too large, and %d take several rounds", large, long)
	}
}
