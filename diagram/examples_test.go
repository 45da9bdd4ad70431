package diagram_test

import (
	"slices"
	"testing"

	"interlace/api"
	"interlace/bits"
)

// first returns a head of the chapter's fields.
func first(port, dst, src, kind int) api.Head {
	return api.Head{port, dst<<8 | src, kind << 12}
}

func TestExamples(t *testing.T) {
	b := benchOf(t, given(), 1000)
	one, three := b.set("dst", 1), b.filter(eq("dst", 3))
	if b.seq(one, b.set("dst", 2)) != b.set("dst", 2) {
		t.Error("P14.3: a set twice")
	}
	if b.union(b.filter(eq("dst", 1)), b.filter(pred(api.PrNot, eq("dst", 1)))) != b.id() {
		t.Error("P14.3: a filter and its complement")
	}
	kinds := b.union(b.set("kind", 1), b.set("kind", 2))
	got, e := b.Eval(b.star(kinds), api.Head{})
	if want := []api.Head{first(0, 0, 0, 0), first(0, 0, 0, 1), first(0, 0, 0, 2)}; e != api.OK || !slices.Equal(got, want) {
		t.Errorf("P14.4: Eval is %v and %d", got, e)
	}
	if h, differ := b.Differ(three, b.id()); h != (api.Head{}) || !differ {
		t.Errorf("P14.5: Differ is %v, %v", h, differ)
	}
	if h, differ := b.Differ(one, b.set("dst", 1)); h != (api.Head{}) || differ {
		t.Errorf("P14.5: Differ is %v, %v", h, differ)
	}
	l, e := b.Rules(b.seq(three, kinds))
	formed(t, "the example", l)
	for _, c := range l {
		if len(c.Mods) != 2 || c.Match.Mask[1]&0xff00 != 0xff00 || c.Match.Bits[1]&0xff00 != 0x0300 {
			t.Errorf("P14.6: the choice %v", c)
		}
	}
	for kind := range 8 {
		if got, want := chosen(l, first(9, 3, 77, kind)), []api.Head{first(9, 3, 77, 1), first(9, 3, 77, 2)}; e != api.OK || !slices.Equal(got, want) {
			t.Errorf("P14.6: the choices give %v and %d", got, e)
		}
	}
}

func TestEmptyStore(t *testing.T) {
	b := benchOf(t, nil, 2)
	id, drop := b.id(), b.drop()
	if id == drop || b.star(drop) != id || b.domain(id) != id || b.union(id, drop) != id || b.seq(id, drop) != drop {
		t.Error("P14.2: the filters of PrTrue and PrFalse")
	}
	h := api.Head{1, 2, 3, 4, 5, 6, 7, 8, 9, 10}
	if got, e := b.Eval(id, h); e != api.OK || !slices.Equal(got, []api.Head{h}) || !b.Gives(id, h) {
		t.Errorf("P14.4: the filter of PrTrue gives %v and %d", got, e)
	}
	if got, e := b.Eval(drop, h); e != api.OK || len(got) > 0 || b.Gives(drop, h) {
		t.Errorf("P14.4: the filter of PrFalse gives %v and %d", got, e)
	}
	if g, differ := b.Differ(id, drop); g != (api.Head{}) || !differ {
		t.Errorf("P14.5: the filters differ for %v, %v", g, differ)
	}
	if l, e := b.Rules(id); e != api.OK || len(l) != 1 || l[0].Match != (api.Pattern{}) || !slices.Equal(l[0].Mods, []api.Mod{{}}) {
		t.Errorf("P14.6: the filter of PrTrue has the choices %v and %d", l, e)
	}
	if l, e := b.Rules(drop); e != api.OK || len(l) > 0 {
		t.Errorf("P14.6: the filter of PrFalse has the choices %v and %d", l, e)
	}
	// without fields there is still the port
	c := benchOf(t, nil, plenty)
	if got, e := c.Eval(c.parsed("[port in 1..5]; port := 65535"), h); e != api.OK || !slices.Equal(got, []api.Head{{65535, 2, 3, 4, 5, 6, 7, 8, 9, 10}}) {
		t.Errorf("P14.4: a set of the port gives %v and %d", got, e)
	}
}

func TestDifferences(t *testing.T) {
	b := benchOf(t, given(), plenty)
	for _, x := range []struct {
		p, q string
		want api.Head
	}{
		{"[dst = 3]", "drop", first(0, 3, 0, 0)}, {"drop", "[dst = 3 and port in 7..9]", first(7, 3, 0, 0)},
		{"kind := 1", "id", first(0, 0, 0, 0)}, {"kind := 0", "id", first(0, 0, 0, 1)}, {"kind := 0", "[not kind = 5]; kind := 0", first(0, 0, 0, 5)},
		{"port := 0", "id", first(1, 0, 0, 0)}, {"[port = 65535]", "[port = 65535 and not kind = 7]", first(65535, 0, 0, 7)},
		{"dst := 1 + src := 2", "dst := 1", first(0, 0, 0, 0)}, {"[dst in 1..255]; dst := 0 + id", "id", first(0, 1, 0, 0)},
		{"id + dst := 0", "id + dst := 0; [not src = 9]", first(0, 1, 9, 0)}, {"[dst = 2]; kind := 1 + [src = 1]", "[dst = 2]; kind := 1", first(0, 0, 1, 0)},
		{"[kind = 4/1]", "[kind in 5..7]", first(0, 0, 0, 4)}, {"[dst = 128 and src = 1 or dst = 1 and src = 255]", "drop", first(0, 1, 255, 0)},
	} {
		p, q := b.parsed(x.p), b.parsed(x.q)
		for _, ids := range [][2]int{{p, q}, {q, p}} {
			if h, differ := b.Differ(ids[0], ids[1]); h != x.want || !differ {
				t.Errorf("P14.5: %s and %s differ for %v, %v, want %v", x.p, x.q, h, differ, x.want)
			}
		}
		if h, differ := b.Differ(p, b.parsed(x.p)); h != (api.Head{}) || differ {
			t.Errorf("P14.5: %s differs from itself for %v", x.p, h)
		}
	}
}

func TestDomains(t *testing.T) {
	b := benchOf(t, given(), plenty)
	for _, x := range []struct{ source, want string }{
		{"[dst = 3]; kind := 1", "[dst = 3]"}, {"kind := 1; [kind = 2]", "drop"}, {"kind := 1; [kind = 1]", "id"}, {"[dst = 1]; dst := 2 + [dst = 2]; src := 0", "[dst in 1..2]"},
		{"([dst = 1]; dst := 2)*", "id"}, {"(kind := 1 + kind := 2); [kind = 2 and src = 4]", "[src = 4]"},
	} {
		if got, want := b.domain(b.parsed(x.source)), b.parsed(x.want); got != want {
			t.Errorf("P14.2: the domain of %s is not %s", x.source, x.want)
		}
	}
}

// Where all bits of a field are known behind a set, the whole field is set.
func TestWholeSets(t *testing.T) {
	b := benchOf(t, given(), plenty)
	whole := api.Mod{Mask: api.Head{65535}, Bits: api.Head{1}}
	for _, source := range []string{"port := 1", "[port = 0]; port := 1", "[port in 2..3]; port := 1", "[dst = 1 and port = 5]; port := 1 + [dst = 2 and port = 77]; port := 1", "port := 1 + [port = 3 and src = 2]; port := 1"} {
		l, e := b.Rules(b.parsed(source))
		if e != api.OK || len(l) == 0 {
			t.Errorf("P14.6: %s has the choices %v and %d", source, l, e)
		}
		for _, c := range l {
			if !slices.Equal(c.Mods, []api.Mod{whole}) {
				t.Errorf("P14.6: %s has the choice %v", source, c)
			}
		}
	}
}

func TestOrderOfMods(t *testing.T) {
	b := benchOf(t, given(), plenty)
	l, e := b.Rules(b.parsed("[kind = 0]; (id + kind := 3 + port := 9 + port := 2 + kind := 5 + (port := 2; kind := 1))"))
	if e != api.OK {
		t.Fatal("P14.6: the error is", e)
	}
	formed(t, "a policy with six heads", l)
	if got := chosen(l, first(1, 2, 3, 0)); len(got) != 6 || !slices.IsSortedFunc(got, bits.CompareHeads) {
		t.Errorf("P14.6: the choices give %v", got)
	}
}
