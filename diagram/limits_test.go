package diagram_test

import (
	"slices"
	"strings"
	"testing"

	"interlace/api"
	"interlace/bits"
	"interlace/diagram"
	"interlace/meaning"
	"interlace/syntax"
)

// choice returns the diagram that sets a field to one of the values below n.
func (b bench) choice(name string, n int) int {
	b.t.Helper()
	id := b.drop()
	for v := range n {
		id = b.union(id, b.set(name, v))
	}
	return id
}

// chain returns the diagram of a sequence.
func (b bench) chain(l ...int) int {
	b.t.Helper()
	id := b.id()
	for _, x := range l {
		id = b.seq(id, x)
	}
	return id
}

// others returns the source of a filter of the heads in which none of some fields, named by letters, is 1.
func others(letters string) string {
	var l []string
	for _, c := range letters {
		l = append(l, "not f"+string(c)+" = 1")
	}
	return "[" + strings.Join(l, " and ") + "]"
}

// wide are fields of 10, 10, 10, 4, 11, 14, 13 and 2 bits, with the names fa, fb and so on.
func wide() []api.Field {
	var l []api.Field
	for i, width := range []int{10, 10, 10, 4, 11, 14, 13, 2} {
		l = append(l, api.Field{Name: letter(i), At: 16 + 16*i, Width: width})
	}
	return l
}

func TestMostHeads(t *testing.T) {
	b := benchOf(t, many(), plenty)
	for i, x := range []struct{ id, want int }{
		{b.chain(b.choice("whole", 10), b.choice("dst", 10), b.choice("src", 10)), 1000},
		{b.chain(b.choice("whole", 7), b.choice("dst", 11), b.choice("src", 13)), 1001},
		{b.chain(b.choice("whole", 10), b.choice("dst", 11), b.choice("src", 10), b.parsed("[not dst = 9]")), 1000},
		{b.union(b.chain(b.choice("whole", 40), b.choice("dst", 25)), b.set("whole", 39)), 1000},
		{b.union(b.chain(b.choice("whole", 40), b.choice("dst", 25)), b.set("port", 1)), 1001},
		{b.choice("whole", 1000), 1000}, {b.choice("whole", 1001), 1001},
		{b.chain(b.choice("whole", 30), b.choice("dst", 30), b.choice("src", 30), b.choice("port", 30)), 810000},
	} {
		got, e := b.Eval(x.id, api.Head{77, 0, 3: 4000})
		if x.want > diagram.MaxHeads {
			if len(got) > 0 || e != api.ErrLimit {
				t.Errorf("P14.4: %d: there are %d heads and %d, want ErrLimit", i, len(got), e)
			}
		} else if len(got) != x.want || e != api.OK || !isSet(got) {
			t.Errorf("P14.4: %d: there are %d heads and %d, want %d", i, len(got), e, x.want)
		}
		if !b.Gives(x.id, api.Head{77}) {
			t.Errorf("P14.4: %d: there is nothing", i)
		}
	}
	if diagram.MaxHeads != 1000 {
		t.Error("P14.4: MaxHeads is", diagram.MaxHeads)
	}
}

// Of many ways only those count that end with a head.
func TestDeadEnds(t *testing.T) {
	b := benchOf(t, sixteen(), plenty)
	id := b.id()
	for i := range 15 {
		id = b.seq(id, b.choice(letter(i), 7))
	}
	id = b.seq(id, b.parsed("[not fp = 0]"))
	if got, e := b.Eval(id, api.Head{}); len(got) > 0 || e != api.OK || b.Gives(id, api.Head{}) {
		t.Errorf("P14.4: there are %d heads and %d", len(got), e)
	}
	if h := with(sixteen(), api.Head{}, "fp", 1); !b.Gives(id, h) {
		t.Errorf("P14.4: there is nothing for %v", h)
	} else if got, e := b.Eval(id, h); len(got) > 0 || e != api.ErrLimit {
		t.Errorf("P14.4: there are %d heads and %d", len(got), e)
	}
	// the zero head has none, but only the last field says so
	for i := range 15 {
		id = b.seq(id, b.set(letter(i), 3))
	}
	if got, e := b.Eval(id, api.Head{}); len(got) > 0 || e != api.OK {
		t.Errorf("P14.4: there are %d heads and %d", len(got), e)
	}
}

// To leave out one value of each of some fields takes as many patterns as the product of their widths: the heads in which
// one bit of each field is wrong need patterns of their own.
func TestMostChoices(t *testing.T) {
	b := benchOf(t, wide(), plenty)
	for _, x := range []struct {
		letters string
		want    int
	}{{"", 1}, {"a", 10}, {"ad", 40}, {"abcd", 4000}, {"efgh", 4004}, {"abcde", 44000}, {"abcdefgh", 44000 * 14 * 13 * 2}} {
		source := "[true]"
		if x.letters != "" {
			source = others(x.letters)
		}
		l, e := b.Rules(b.parsed(source))
		if x.want > api.MaxRules {
			if len(l) > 0 || e != api.ErrLimit {
				t.Errorf("P14.6: %s has %d choices and %d, want ErrLimit", source, len(l), e)
			}
		} else if len(l) != x.want || e != api.OK {
			t.Errorf("P14.6: %s has %d choices and %d, want %d", source, len(l), e, x.want)
		}
	}
	// there are too many also where each of them would have very many mods
	mods := b.chain(b.choice("fe", 20), b.choice("fg", 20), b.choice("fh", 4), b.choice("port", 20))
	if l, e := b.Rules(b.seq(b.parsed("[fe = 1]"), mods)); len(l) != 1 || e != api.OK || len(l[0].Mods) != 32000 {
		t.Errorf("P14.6: there are %d choices and %d", len(l), e)
	}
	more := b.chain(b.parsed(others("abcdf")), mods, b.choice("fa", 100), b.choice("fb", 100), b.choice("fc", 100))
	if l, e := b.Rules(more); len(l) > 0 || e != api.ErrLimit {
		t.Errorf("P14.6: there are %d choices and %d, want ErrLimit", len(l), e)
	}
}

// Very many mods for some heads do not matter for others.
func TestModsOfOthers(t *testing.T) {
	l := []api.Field{{Name: "bit", At: 32, Width: 1}}
	for i := range 4 {
		l = append(l, api.Field{Name: letter(i), At: 16 + 4*i, Width: 4}, api.Field{Name: letter(4 + i), At: 48 + 16*i, Width: []int{10, 10, 10, 3}[i]})
	}
	b := benchOf(t, l, plenty)
	every := b.filter(eq("bit", 1))
	for i := range 4 {
		every = b.seq(every, b.choice(letter(i), 16))
	}
	choices, e := b.Rules(b.union(every, b.seq(b.filter(eq("bit", 0)), b.parsed(others("efgh")))))
	if len(choices) != 3001 || e != api.OK {
		t.Fatalf("P14.6: there are %d choices and %d", len(choices), e)
	}
	for _, c := range choices {
		if want := bits.Bit(c.Match.Bits, 32)*65535 + 1; len(c.Mods) != want {
			t.Fatalf("P14.6: there are %d mods for %v, want %d", len(c.Mods), c.Match, want)
		}
	}
}

// There are few choices where few are enough.
func TestFewChoices(t *testing.T) {
	b := benchOf(t, given(), plenty)
	for _, x := range []struct {
		source string
		want   int
	}{
		{"drop", 0}, {"id", 1}, {"dst := 1", 1}, {"[dst = 3]", 1}, {"[dst = 16/4]", 1}, {"[not dst = 3]", 8}, {"[dst in 1..254]", 14},
		{"[kind = 1 or kind = 3 or kind = 5 or kind = 7]", 1}, {"[dst = 1 and src = 2 or dst = 3 and src = 2]", 1}, {"[dst = 3]; (kind := 1 + kind := 2)", 1},
		{"port := 1 + port := 2 + port := 3", 1}, {"[kind = 1]; port := 1 + [kind = 2]; port := 2", 2}, {"[kind = 1]; port := 1 + [not kind = 1]; port := 2", 4},
		{"[src = 1]; dst := 2 + [not src = 1]", 9}, {"id + kind := 3", 4}, {"[kind in 3..5]; kind := 4 + [not kind in 3..5]", 5}, {"dst := 1; dst := 2 + dst := 2; src := 3", 9},
		{"[kind = 0]; kind := 2 + [kind = 1]; kind := 3", 1}, {"[kind = 0]; kind := 2 + [kind = 1]; kind := 3 + [kind = 4]; kind := 5", 2}, {"[kind = 0]; (kind := 2 + kind := 5) + [kind = 4]; (kind := 6 + kind := 1)", 2},
	} {
		id := b.parsed(x.source)
		l, e := b.Rules(id)
		if len(l) != x.want || e != api.OK {
			t.Errorf("P14.6: %s has %d choices and %d, want %d: %v", x.source, len(l), e, x.want, l)
		}
		formed(t, x.source, l)
		for n := range 1 << 9 {
			h := first(n&3, n>>2&3, n>>4&3, n>>6&7)
			if want, e := b.Eval(id, h); e != api.OK || !slices.Equal(chosen(l, h), want) {
				t.Fatalf("P14.6: the choices of %s give %v for %v, want %v", x.source, chosen(l, h), h, want)
			}
		}
	}
}

// In a store with little room the same comes as in a large one, or ErrFull, and then nothing has changed.
func TestFullStores(t *testing.T) {
	heads := making(20, many(), 5)
	var some []api.Head
	for range 10 {
		some = append(some, heads.head())
	}
	check := func(b bench, ids []int, all []api.Policy) {
		t.Helper()
		for i, id := range ids {
			for _, h := range some {
				want, limit := meaning.Eval(many(), all[i], h, 0)
				if got, e := b.Eval(id, h); limit == api.OK && (e != api.OK || !slices.Equal(got, want)) {
					t.Fatalf("P14.2: %s gives %v and %d for %v in a store of %d nodes, want %v", syntax.PrintPolicy(all[i]), got, e, h, b.Len(), want)
				}
			}
		}
	}
	refused := map[string]int{}
	for most := 2; most < 150; most += 1 + most/16 {
		m := making(21, many(), 5)
		b := benchOf(t, many(), most)
		ids, all := []int{b.drop()}, []api.Policy{filter(pred(api.PrFalse))}
		full := map[string]int{}
		for range 300 {
			x, y, z := m.fitting(6), m.fittingPred(4), m.field()
			i, j, n := m.r.IntN(len(ids)), m.r.IntN(len(ids)), m.value(z)
			before := b.Len()
			var id int
			var e api.Errno
			name := pick(m, "Policy", "Filter", "Set", "Union", "Seq", "Star", "Domain")
			switch name {
			case "Policy":
				id, e = b.Policy(x, 0)
			case "Filter":
				x = filter(y)
				id, e = b.Filter(y, 0)
			case "Set":
				x = set(z.Name, n)
				id, e = b.Set(z.Name, n)
			case "Union":
				x = policy(api.PoUnion, all[i], all[j])
				id, e = b.Union(ids[i], ids[j])
			case "Seq":
				x = policy(api.PoSeq, all[i], all[j])
				id, e = b.Seq(ids[i], ids[j])
			case "Star":
				x = policy(api.PoStar, all[i])
				id, e = b.Star(ids[i])
			case "Domain":
				id, e = b.Domain(ids[i])
			}
			switch {
			case e == api.ErrFull:
				full[name]++
				if id != 0 || b.Len() != before {
					t.Fatalf("P14.2: %s returns %d and ErrFull, and there are %d nodes instead of %d", name, id, b.Len(), before)
				}
			case e != api.OK || b.Len() > most:
				t.Fatalf("P14.2: %s returns %d, with %d of %d nodes", name, e, b.Len(), most)
			case name != "Domain" && syntax.CheckPolicy(x) == api.OK:
				ids, all = append(ids, id), append(all, x)
			}
		}
		check(b, ids, all)
		for name, n := range full {
			refused[name] += n
		}
	}
	if len(refused) < 6 { // a domain may need fewer nodes than its diagram, always
		t.Errorf("P14.2: there is ErrFull for %v only", refused)
	}
}

// A store that has no room for a diagram has room for others, and later calls do not depend on the one that failed.
func TestAfterFull(t *testing.T) {
	b, c := benchOf(t, sixteen(), 40), benchOf(t, sixteen(), 40)
	for i := range 16 {
		x := parsed(t, sixteen(), "[f"+string(rune('a'+i))+" = 1]; fa := 2")
		before := b.Len()
		for range 3 {
			if id, e := b.Policy(apart(0, 4, 1, 2), 0); id != 0 || e != api.ErrFull || b.Len() != before {
				t.Fatalf("P14.2: %d and %d, with %d nodes, of which there were %d", id, e, b.Len(), before)
			}
		}
		p, e := b.Policy(x, 0)
		q, f := c.Policy(x, 0)
		if p != q || e != f || b.Len() != c.Len() {
			t.Fatalf("P14.2: a store in which a call failed returns %d and %d, another one %d and %d", p, e, q, f)
		}
	}
	if b.Len() < 15 {
		t.Errorf("P14.2: there are only %d nodes", b.Len())
	}
}

// Different diagrams have different nodes, so that each store is full at some time.
func TestEveryStoreGetsFull(t *testing.T) {
	for _, most := range []int{2, 3, 10, 50, 200} {
		s := diagram.New(given(), most)
		ids := map[int]bool{}
		for n := range 256 {
			id, e := s.Filter(eq("dst", n), 0)
			if e == api.OK {
				ids[id] = true
			} else if e != api.ErrFull {
				t.Fatalf("P14.2: the filter %d returns %d, with %d nodes", n, e, s.Len())
			}
			if s.Len() > most || s.Len() < len(ids) {
				t.Fatalf("P14.1: there are %d of at most %d nodes for %d filters", s.Len(), most, len(ids))
			}
		}
		if most < 50 && len(ids) > most || most > 50 && len(ids) < 10 {
			t.Errorf("P14.1: a store of at most %d nodes has %d filters", most, len(ids))
		}
	}
}

// apart returns a policy that sets, for each of n fields from one on, either this field or the one that is eight further.
func apart(first, n, v, w int) api.Policy {
	either := func(i int) api.Policy {
		return policy(api.PoUnion, set(letter(i), v), set(letter(i+8), w))
	}
	x := either(first)
	for i := first + 1; i < first+n; i++ {
		x = policy(api.PoSeq, x, either(i))
	}
	return x
}

// middle are sixteen fields of 60 bits together, of which the two in the middle are wide.
func middle() []api.Field {
	l := sixteen()
	for i := range l {
		l[i].At, l[i].Width = 16+4*i, 2
	}
	l[7].At, l[7].Width, l[8].At, l[8].Width = 64, 16, 80, 16
	for i := 9; i < 16; i++ {
		l[i].At = 96 + 4*(i-9)
	}
	return l
}

// Each of eight fields is kept, set, or both, which matters for a field far behind it: a diagram remembers all of this.
func TestRoom(t *testing.T) {
	for i, l := range [][]api.Field{sixteen(), middle(), sixteen()} {
		b := benchOf(t, l, plenty)
		var left, right []int
		for v := range 4 {
			for _, first := range []int{0, 4} {
				x := apart(first, 4, v, (v+1)%4)
				if i == 2 {
					x = policy(api.PoStar, twice(first, v, (v+1)%4))
				}
				if nodes := nodesOf(x); nodes > 16 {
					t.Fatalf("%s has %d nodes", syntax.PrintPolicy(x), nodes)
				}
				if first == 0 {
					left = append(left, b.of(x))
				} else {
					right = append(right, b.of(x))
				}
			}
		}
		var ids []int
		for i := range 12 {
			ids = append(ids, b.seq(left[i/4], right[i%4]))
		}
		nodes := b.Len()
		if nodes < 100000 {
			t.Errorf("P14.7: the diagrams %d have only %d nodes", i, nodes)
		}
		for i, id := range ids {
			if again := b.seq(right[i%4], left[i/4]); again != id || b.Len() != nodes {
				t.Fatalf("P14.3: the same diagram has the ids %d and %d, and there are %d nodes instead of %d", id, again, b.Len(), nodes)
			}
		}
	}
}

// twice returns a policy that sets one of four fields, and the one that is eight further, too.
func twice(first, v, w int) api.Policy {
	both := func(i int) api.Policy { return policy(api.PoSeq, set(letter(i), v), set(letter(i+8), w)) }
	x := both(first)
	for i := first + 1; i < first+4; i++ {
		x = policy(api.PoUnion, x, both(i))
	}
	return x
}

// nodesOf returns the number of nodes of a policy.
func nodesOf(x api.Policy) int {
	n := 1
	for _, y := range x.Args {
		n += nodesOf(y)
	}
	if x.Kind == api.PoFilter {
		n += testsOf(x.Pred)
	}
	return n
}

func testsOf(x api.Pred) int {
	n := 1
	for _, y := range x.Args {
		n += testsOf(y)
	}
	return n
}

// Twenty calls for random policies do not fill a store.
func TestRandomRoom(t *testing.T) {
	m := making(22, sixteen(), 6)
	greatest := 0
	for range 60 {
		b := benchOf(t, sixteen(), plenty)
		var ids []int
		for i := range 8 {
			x := m.fitting(16)
			for i%2 == 0 && nodesOf(x) < 12 {
				x = policy(pick(m, api.PoUnion, api.PoSeq, api.PoSeq), x, policy(api.PoUnion, m.fitting(1), m.fitting(1)))
			}
			ids = append(ids, b.of(x))
		}
		for range 12 {
			p, q := pick(m, ids...), pick(m, ids...)
			pick(m, b.union, b.seq, b.seq, func(p, _ int) int { return b.star(p) }, func(p, _ int) int { return b.domain(p) })(p, q)
		}
		greatest = max(greatest, b.Len())
	}
	if greatest < 1000 {
		t.Errorf("P14.7: twenty calls make only %d nodes", greatest)
	}
}

// What is made on the way takes no room when a call is done, so that a diagram fits into a store that has room for it alone.
func TestNodesOnTheWay(t *testing.T) {
	x := policy(api.PoSeq, apart(0, 6, 1, 2), filter(eq("fp", 3)))
	empty := policy(api.PoSeq, x, filter(pred(api.PrFalse)))
	b := benchOf(t, sixteen(), plenty)
	if b.of(empty); b.Len() != 0 {
		t.Fatalf("P14.2: the diagram that gives nothing makes %d nodes", b.Len())
	}
	b.of(x)
	most := b.Len()
	c := benchOf(t, sixteen(), most)
	for range 3 {
		c.of(empty)
		c.of(x)
		c.union(c.of(x), c.seq(c.of(x), c.domain(c.of(empty))))
	}
	if c.Len() != most {
		t.Errorf("P14.2: there are %d nodes instead of %d", c.Len(), most)
	}
	if id, e := diagram.New(sixteen(), most-1).Policy(x, 0); id != 0 || e != api.ErrFull {
		t.Errorf("P14.2: %d nodes are enough: %d and %d", most-1, id, e)
	}
}

// Questions about diagrams are answered however large these are: only what makes diagrams returns ErrFull.
func TestQuestionsInNearlyFullStores(t *testing.T) {
	b := benchOf(t, middle(), 21500)
	one := b.seq(b.of(apart(0, 4, 1, 2)), b.of(apart(4, 4, 1, 2)))
	other := b.seq(b.of(apart(0, 4, 2, 1)), b.of(apart(4, 4, 2, 1)))
	b.id()
	if h, differ := b.Differ(one, other); h != (api.Head{}) || !differ {
		t.Errorf("P14.5: two diagrams differ for %v, %v", h, differ)
	}
	if h := with(middle(), api.Head{}, "fa", 1); !b.Gives(one, h) || !b.Gives(other, h) {
		t.Errorf("P14.4: there is nothing for %v", h)
	}
	if got, e := b.Eval(one, api.Head{}); e != api.OK || len(got) != 256 {
		t.Errorf("P14.4: there are %d heads and %d", len(got), e)
	}
	before := b.Len()
	if id, e := b.Seq(b.of(apart(0, 4, 1, 2)), b.of(apart(4, 4, 2, 1))); id != 0 || e != api.ErrFull || b.Len() != before {
		t.Errorf("P14.2: a full store returns %d and %d, with %d nodes instead of %d", id, e, b.Len(), before)
	}
	if again := b.seq(b.of(apart(4, 4, 1, 2)), b.of(apart(0, 4, 1, 2))); again != one {
		t.Errorf("P14.3: the same diagram has the ids %d and %d", one, again)
	}
}
