package meaning_test

import (
	"slices"
	"strings"
	"testing"

	"interlace/api"
	"interlace/meaning"
	"interlace/syntax"
)

func TestHolds(t *testing.T) {
	h := example
	h[3], h[8], h[9] = 40000, 1, 7
	for _, x := range []struct {
		source string
		tick   int
		want   bool
	}{
		// the chapter's examples
		{"dst = 18 and src in 50..60", 0, true}, {"dst = 16/4", 0, true}, {"time in 3..5", 4, true}, {"time in 3..5", 5, false},
		{"true", 0, true}, {"false", 0, false}, {"not true", 0, false}, {"not false", 0, true}, {"not not true", 0, true},
		{"dst = 18", 0, true}, {"dst = 17", 0, false}, {"dst = 52", 0, false}, {"src = 52", 0, true}, {"kind = 7", 0, true}, {"kind = 6", 0, false}, {"port = 5", 0, true}, {"port = 4", 0, false}, {"whole = 40000", 0, true}, {"bit = 1", 0, true}, {"bit = 0", 0, false},
		// 18 is 00010010: the first bits of both numbers count
		{"dst = 255/0", 0, true}, {"dst = 0/3", 0, true}, {"dst = 16/3", 0, true}, {"dst = 0/4", 0, false}, {"dst = 31/4", 0, true}, {"dst = 32/2", 0, true}, {"dst = 64/2", 0, false}, {"dst = 19/7", 0, true}, {"dst = 16/7", 0, false}, {"dst = 19/8", 0, false}, {"dst = 18/8", 0, true},
		{"kind = 7/3", 0, true}, {"kind = 4/1", 0, true}, {"kind = 3/1", 0, false}, {"kind = 0/0", 0, true}, {"port = 4/15", 0, true}, {"port = 4/16", 0, false}, {"port = 0/13", 0, true}, {"port = 0/14", 0, false}, {"bit = 1/1", 0, true}, {"bit = 0/1", 0, false}, {"bit = 0/0", 0, true}, {"whole = 32768/1", 0, true},
		{"dst in 18..18", 0, true}, {"dst in 0..18", 0, true}, {"dst in 18..255", 0, true}, {"dst in 0..17", 0, false}, {"dst in 19..255", 0, false}, {"port in 5..65535", 0, true}, {"port in 6..65535", 0, false}, {"kind in 0..7", 0, true}, {"kind in 0..6", 0, false}, {"whole in 39999..40001", 0, true},
		{"time in 3..5", 2, false}, {"time in 3..5", 3, true}, {"time in 0..1", 0, true}, {"time in 0..1", 1, false}, {"time in 0..1073741824", 0, true}, {"time in 0..1073741824", maxTick - 1, true}, {"time in 0..1073741824", maxTick, false}, {"time in 1073741823..1073741824", maxTick - 1, true}, {"not time in 3..5", 5, true},
		{"true and true", 0, true}, {"true and false", 0, false}, {"false and true", 0, false}, {"false and false", 0, false}, {"true or true", 0, true}, {"true or false", 0, true}, {"false or true", 0, true}, {"false or false", 0, false},
		{"not (dst = 18 and src = 52)", 0, false}, {"not dst = 18 or src = 52", 0, true}, {"dst = 18 or src = 1 and kind = 1", 0, true}, {"(dst = 18 or src = 1) and kind = 1", 0, false},
	} {
		if got := meaning.Holds(many(), parsedPred(t, many(), x.source), h, x.tick); got != x.want {
			t.Errorf("P13.1: %q at %d: %v", x.source, x.tick, got)
		}
	}
	if !meaning.Holds(nil, eq("port", 5), example, 0) || meaning.Holds(nil, eq("port", 4), example, 0) {
		t.Error("P13.1: the port without fields")
	}
	if !meaning.Holds(many(), chained(18, eq("dst", 18), not), h, 0) || meaning.Holds(many(), chained(19, eq("dst", 18), not), h, 0) {
		t.Error("P13.1: deep predicates")
	}
}

func TestRandomHolds(t *testing.T) {
	m := making(5, many(), 1<<16)
	holds := 0
	for range 20000 {
		x, h, tick := m.fittingPred(20), m.head(), m.tick()
		got := meaning.Holds(many(), x, h, tick)
		if got != truth(many(), x, h, tick) {
			t.Fatalf("P13.1: %q for %v at %d: %v", syntax.PrintPred(x), h, tick, got)
		}
		if given, e := meaning.Eval(many(), filter(x), h, tick); e != api.OK || got != slices.Equal(given, setOf(h)) || !got && len(given) > 0 {
			t.Fatalf("P13.2: the filter of %q gives %v and %d for %v at %d", syntax.PrintPred(x), given, e, h, tick)
		}
		if got {
			holds++
		}
	}
	if holds < 5000 || holds > 15000 {
		t.Errorf("P13.1: %d of the random predicates hold", holds)
	}
}

func TestEval(t *testing.T) {
	kind := func(n int) api.Head { return with(many(), example, "kind", n) }
	at := func(h api.Head, dst, src int) api.Head {
		return with(many(), with(many(), h, "dst", dst), "src", src)
	}
	for _, x := range []struct {
		source string
		want   []api.Head
	}{
		// the chapter's examples
		{"kind := 2 + kind := 3", setOf(kind(2), kind(3))}, {"[kind = 7]; kind := 1; [kind = 7]", nil}, {"([kind = 7]; kind := 1 + [kind = 1]; kind := 4)*", setOf(kind(1), kind(4), kind(7))},
		{"id", setOf(example)}, {"drop", nil}, {"[dst = 18]", setOf(example)}, {"[dst = 17]", nil}, {"kind := 7", setOf(example)}, {"kind := 0", setOf(kind(0))},
		{"port := 65535", setOf(api.Head{65535, 0x1234, 0x7000})}, {"port := 0", setOf(api.Head{0, 0x1234, 0x7000})}, {"dst := 255", setOf(api.Head{5, 0xff34, 0x7000})}, {"src := 0", setOf(api.Head{5, 0x1200, 0x7000})}, {"bit := 1", setOf(api.Head{5, 0x1234, 0x7000, 8: 1})}, {"whole := 40000", setOf(api.Head{5, 0x1234, 0x7000, 40000})}, {"tag := 5", setOf(api.Head{5, 0x1234, 0x7000, 4: 0x2800})},
		{"kind := 3 + kind := 2", setOf(kind(2), kind(3))}, {"id + id", setOf(example)}, {"kind := 1 + kind := 1", setOf(kind(1))}, {"id + drop", setOf(example)}, {"drop + drop", nil}, {"[kind = 7] + [kind = 6]", setOf(example)}, {"port := 6 + dst := 0 + id", setOf(api.Head{6, 0x1234, 0x7000}, api.Head{5, 0x0034, 0x7000}, example)},
		{"kind := 1; kind := 2", setOf(kind(2))}, {"dst := 3; src := 4", setOf(at(example, 3, 4))}, {"(dst := 1 + dst := 2); (src := 1 + src := 2)", setOf(at(example, 1, 1), at(example, 1, 2), at(example, 2, 1), at(example, 2, 2))}, {"(dst := 1 + dst := 2); [dst = 2]; src := 9", setOf(at(example, 2, 9))}, {"(dst := 1 + dst := 2); dst := 3", setOf(at(example, 3, 52))}, {"drop; kind := 1", nil}, {"kind := 1; drop", nil},
		{"[kind = 7]; kind := 1 + [kind = 1]; kind := 4", setOf(kind(1))}, {"[kind = 7]; kind := 1; [kind = 1]; kind := 4", setOf(kind(4))},
		{"drop*", setOf(example)}, {"id*", setOf(example)}, {"(kind := 1)*", setOf(kind(1), kind(7))}, {"(kind := 1)**", setOf(kind(1), kind(7))}, {"[kind = 6]*", setOf(example)}, {"(kind := 1)*; [kind = 7]", setOf(kind(7))}, {"([kind = 7]; kind := 6 + [kind = 6]; kind := 5 + [kind = 5]; kind := 7)*", setOf(kind(5), kind(6), kind(7))}, {"(kind := 1 + kind := 2)*; (src := 0)*", setOf(kind(1), kind(2), kind(7), with(many(), kind(1), "src", 0), with(many(), kind(2), "src", 0), with(many(), kind(7), "src", 0))},
		{"([kind = 7]; kind := 6; [kind = 6]; kind := 5 + [kind = 6]; kind := 0)*", setOf(kind(5), kind(7))}, {"([kind = 7]; (kind := 6 + kind := 3) + [kind = 6]; drop + [kind = 3]; (dst := 1)*)*", setOf(kind(3), kind(6), kind(7), with(many(), kind(3), "dst", 1))},
		{"[time in 3..5]; kind := 1 + [time in 5..9]; kind := 2", setOf(kind(1))},
	} {
		got, e := meaning.Eval(many(), parsed(t, many(), x.source), example, 4)
		if e != api.OK || !slices.Equal(got, x.want) {
			t.Errorf("P13.2: %q gives %v and %d, want %v", x.source, got, e, x.want)
		}
	}
	if got, e := meaning.Eval(nil, set("port", 7), api.Head{5, 9: 3}, 0); e != api.OK || !slices.Equal(got, setOf(api.Head{7, 9: 3})) {
		t.Errorf("P13.2: the port without fields: %v and %d", got, e)
	}
	if meaning.MaxHeads != 256 {
		t.Errorf("P13.2: MaxHeads is %d", meaning.MaxHeads)
	}
}

// choices returns the source of a policy that sets each of some fields of sixteen to each of the numbers 1 to n.
func choices(fields string, n int) string {
	var factors []string
	for _, f := range fields {
		var values []string
		for v := range n {
			values = append(values, "f"+string(f)+" := "+string(rune('1'+v)))
		}
		factors = append(factors, "("+strings.Join(values, " + ")+")")
	}
	return "(" + strings.Join(factors, "; ") + ")"
}

// zeros returns the source of a policy that sets some fields of sixteen to 0.
func zeros(fields string) string {
	var l []string
	for _, f := range fields {
		l = append(l, "f"+string(f)+" := 0")
	}
	return "(" + strings.Join(l, "; ") + ")"
}

// one returns the source of a policy that sets one of some fields of sixteen to a number.
func one(fields, n string) string {
	var l []string
	for _, f := range fields {
		l = append(l, "f"+string(f)+" := "+n)
	}
	return "(" + strings.Join(l, " + ") + ")"
}

func TestLimit(t *testing.T) {
	most, most2 := choices("abcd", 4), choices("abcdefgh", 2) // 256 heads
	large := "(" + most + " + id)"                            // 257, for a head in which these fields are 0
	step := "(" + one("abcdefgh", "1") + " + id)"             // its star gives 256 heads
	for _, x := range []struct {
		source string
		want   int // -1: ErrLimit
	}{
		{most, 256}, {large, -1}, {choices("abcdefghijklmnop", 4), -1}, {"(" + one("abcdefgh", "1") + " + " + one("abcdefgh", "2") + " + (" + one("ijklmnop", "1") + " + " + one("ijklmnop", "2") + "))*", -1}, {"(" + choices("abcdefghijklmnop", 4) + ")*", -1}, {most2, 256}, {"(" + most2 + " + id)", -1}, {most + "; id", 256}, {"id; " + most, 256},
		// unions
		{most + " + " + most, 256}, {most + " + drop", 256}, {most + " + fa := 1; fb := 1; fc := 1; fd := 1", 256}, {most + " + fa := 1", -1}, {choices("abc", 5) + " + " + choices("efg", 5), 250}, {choices("abc", 5) + " + " + choices("efg", 5) + " + " + choices("ab", 2), 254}, {choices("abc", 5) + " + " + choices("efg", 5) + " + " + choices("ab", 3), -1},
		{"drop + " + large, -1}, {large + "; drop + id", -1}, {"[fa = 9]; " + large + " + id", 1}, {"drop; " + large + " + id", 1},
		// sequences: the sets of the first Arg, and those of the second one for each of its heads
		{large + "; drop", -1}, {large + "; " + zeros("abcd"), -1}, {most + "; " + zeros("abcd"), 1}, {"drop; " + large, 0}, {"[fa = 1]; " + large, 0}, {"[fa = 0]; " + large, -1}, {"fa := 3; [fa = 1]; " + large, 0},
		{choices("a", 2) + "; ([fa = 2]; " + large + "; drop)", -1}, {choices("a", 2) + "; ([fa = 3]; " + large + "; drop)", 0},
		{most + "; (fe := 1 + fe := 2); " + zeros("abcde"), -1}, {most + "; ((fe := 1 + fe := 2); " + zeros("abcde") + ")", 1}, {most + "; (([fa = 1]; " + choices("efgh", 4) + "); " + zeros("abcdefgh") + ")", 1}, {most + "; ([fa = 1]; " + choices("efgh", 4) + "); " + zeros("abcdefgh"), -1},
		{most + "; ([fa = 4 and fd = 4]; (" + choices("efgh", 4) + " + id); drop)", -1}, {most + "; ([fa = 5]; (" + choices("efgh", 4) + " + id); drop)", 0}, {most + "; ((fa := 4 + fa := 1); [fb = 1])", 32},
		// stars
		{step + "*", 256}, {"(" + step + " + fi := 1)*", -1}, {"(" + step + " + [fi = 1]; fi := 2)*", 256}, {"fi := 1; (" + step + " + [fi = 1]; fi := 2)*", -1}, {"(" + step + "*)*", 256}, {"(" + step + "*; " + zeros("abcdefgh") + ")*", 1}, {"(fi := 1 + " + step + "*; " + zeros("abcdefghi") + ")*", 2}, {"(fi := 1 + (" + step + " + fi := 1)*; " + zeros("abcdefghi") + ")*", -1},
		{"(" + large + "; " + zeros("abcd") + ")*", -1}, {"([fa = 1]; (" + large + "; drop))*", 1}, {"(fa := 1 + [fa = 1]; (" + large + " + fe := 1); drop)*", -1}, {"(fa := 1 + [fa = 2]; (" + large + " + fe := 1); drop)*", 2}, {"(" + most + ")*; drop", -1}, {"([fa = 0]; " + most + " + " + zeros("abcd") + ")*", -1}, {"(" + choices("abc", 6) + ")*", 217}, {"(" + choices("abc", 6) + ")*; (id + fe := 1); drop", -1},
	} {
		got, e := meaning.Eval(sixteen(), parsed(t, sixteen(), x.source), api.Head{}, 0)
		if x.want < 0 && (len(got) > 0 || e != api.ErrLimit) || x.want >= 0 && (len(got) != x.want || e != api.OK || !isSet(got)) {
			t.Errorf("P13.2: %q gives %d heads and %d, want %d", x.source, len(got), e, x.want)
		}
	}
}

func TestImage(t *testing.T) {
	var all []api.Head
	for n := range 300 {
		all = append(all, api.Head{n, 9: 3})
	}
	fa := func(n int) api.Head { return with(sixteen(), api.Head{9: 3}, "fa", n) }
	for _, x := range []struct {
		source string
		given  []api.Head
		want   []api.Head
		e      api.Errno
	}{
		{"id", nil, nil, api.OK}, {choices("abcde", 4), nil, nil, api.OK}, {"id", all[:1], all[:1], api.OK}, {"id", all[5:9], all[5:9], api.OK}, {"drop", all, nil, api.OK},
		{"id", all[:256], all[:256], api.OK}, {"id", all[:257], nil, api.ErrLimit}, {"id", all, nil, api.ErrLimit},
		{"port := 0", all, all[:1], api.OK}, {"[port in 17..272]", all, all[17:273], api.OK}, {"[port in 17..273]", all, nil, api.ErrLimit}, {"port := 7 + port := 3", all, []api.Head{all[3], all[7]}, api.OK},
		{"[port = 1]; port := 9 + [port = 2]; (port := 8 + port := 9)", all[:4], []api.Head{all[8], all[9]}, api.OK}, {"port := 0; (fa := 1 + fa := 2)", all[4:9], []api.Head{fa(1), fa(2)}, api.OK},
		{"[port in 0..127]; port := 0; " + choices("abcd", 4) + "; (" + zeros("abcd") + ")", all, all[:1], api.OK}, {"[port = 200]; (" + choices("abcd", 4) + " + id); drop", all, nil, api.ErrLimit}, {"[port = 200]; (" + choices("abcd", 4) + " + id); drop", all[:200], nil, api.OK},
		{"(port := 4)*", all[3:5], all[3:5], api.OK}, {"([port = 1]; port := 2 + [port = 2]; port := 3)*", []api.Head{all[1], all[7]}, []api.Head{all[1], all[2], all[3], all[7]}, api.OK},
	} {
		got, e := meaning.Image(sixteen(), parsed(t, sixteen(), x.source), x.given, 0)
		if e != x.e || !slices.Equal(got, x.want) {
			t.Errorf("P13.3: Image of %q for %d heads is %v and %d, want %v and %d", x.source, len(x.given), got, e, x.want, x.e)
		}
	}
	// what was found out for one head is made use of for others
	moves := parsed(t, sixteen(), "([fa = 5]; (fa := 1 + fa := 2) + [fa = 2]; fa := 3 + [fa = 6]; (fa := 2 + fa := 5 + fa := 7))*")
	for _, x := range []struct{ given, want []api.Head }{
		{setOf(fa(1), fa(5)), setOf(fa(1), fa(2), fa(3), fa(5))}, {setOf(fa(2), fa(5), fa(6)), setOf(fa(1), fa(2), fa(3), fa(5), fa(6), fa(7))}, {setOf(fa(3), fa(5)), setOf(fa(1), fa(2), fa(3), fa(5))}, {setOf(fa(5), fa(6)), setOf(fa(1), fa(2), fa(3), fa(5), fa(6), fa(7))}, {setOf(fa(1), fa(6)), setOf(fa(1), fa(2), fa(3), fa(5), fa(6), fa(7))},
	} {
		if got, e := meaning.Image(sixteen(), moves, x.given, 0); e != api.OK || !slices.Equal(got, x.want) {
			t.Errorf("P13.3: Image of moves for %v is %v and %d, want %v", x.given, got, e, x.want)
		}
	}
	times := parsed(t, sixteen(), "[time in 3..5]; port := 1")
	if got, e := meaning.Image(sixteen(), times, all[:9], 4); e != api.OK || !slices.Equal(got, all[1:2]) {
		t.Errorf("P13.3: Image at 4 is %v and %d", got, e)
	}
	if got, e := meaning.Image(sixteen(), times, all[:9], 5); e != api.OK || len(got) > 0 {
		t.Errorf("P13.3: Image at 5 is %v and %d", got, e)
	}
}

// The image of a set is what Eval gives for its heads, merged.
func TestImageOfEval(t *testing.T) {
	m := making(6, many(), 6)
	several := 0
	for range 3000 {
		x, tick := m.fitting(20), m.tick()
		given := setOf(m.head(), m.head(), m.head())
		var want []api.Head
		wantE := api.OK
		for _, h := range given {
			l, e := meaning.Eval(many(), x, h, tick)
			want = meaning.Merge(want, l)
			wantE = max(wantE, e)
		}
		if wantE != api.OK || len(want) > 256 {
			want, wantE = nil, api.ErrLimit
		}
		got, e := meaning.Image(many(), x, given, tick)
		if e != wantE || !slices.Equal(got, want) {
			t.Fatalf("P13.3: Image of %q for %v is %v and %d, want %v and %d", syntax.PrintPolicy(x), given, got, e, want, wantE)
		}
		for _, h := range got {
			if !meaning.In(got, h) {
				t.Fatalf("P13.5: %v is not in the image of %q", h, syntax.PrintPolicy(x))
			}
		}
		if len(got) > 3 {
			several++
		}
	}
	if several < 300 {
		t.Errorf("P13.3: only %d random images have several heads", several)
	}
}

func TestRounds(t *testing.T) {
	count := "([fa = 0]; fa := 1 + [fa = 1]; fa := 2 + [fa = 2]; fa := 3 + [fa = 3]; fa := 4)"
	for _, x := range []struct {
		source string
		want   int
		e      api.Errno
	}{
		{"id", 0, api.OK}, {"drop", 0, api.OK}, {"fa := 0", 0, api.OK}, {"fa := 1", 1, api.OK}, {"fa := 1 + fb := 1", 2, api.OK}, {"fa := 1; fb := 1", 1, api.OK}, {"[fa = 1]; fa := 2", 0, api.OK}, {"[fa = 0]; fa := 2", 1, api.OK},
		{count, 4, api.OK}, {count + " + fa := 2", 3, api.OK}, {count + " + fa := 4", 3, api.OK}, {count + " + fa := 3; id", 2, api.OK}, {count + "; " + count, 2, api.OK}, {count + "; (" + count + " + id)", 2, api.OK}, {count + "*", 1, api.OK}, {count + "*; (id + [fa = 4]; fa := 9)", 1, api.OK}, {count + "*; [fa = 2] + [fa = 2]; fa := 7", 2, api.OK},
		{count + " + [fa = 3]; fb := 1; fa := 0", 8, api.OK}, {"[fa = 0]; fa := 1 + [fa = 1]; fa := 0", 1, api.OK},
		{one("abcdefgh", "1"), 8, api.OK}, {one("abcdefghi", "1"), 0, api.ErrLimit}, {one("abcdefgh", "1") + " + [fi = 1]; fi := 2", 8, api.OK}, {"[time in 3..5]; fa := 1 + [time in 4..6]; fb := 1", 2, api.OK}, {"[time in 3..5]; fa := 1 + [time in 5..6]; fb := 1", 1, api.OK},
		{choices("abcd", 4), 0, api.ErrLimit}, {choices("abcd", 4) + "; " + zeros("abcd"), 0, api.OK}, {choices("abcde", 4) + "; " + zeros("abcde"), 0, api.ErrLimit}, {"fa := 1 + [fa = 1]; (" + choices("bcdef", 4) + "; drop)", 0, api.ErrLimit}, {"fa := 1 + [fa = 2]; (" + choices("bcdef", 4) + "; drop)", 1, api.OK},
	} {
		got, e := meaning.Rounds(sixteen(), parsed(t, sixteen(), x.source), api.Head{}, 4)
		if got != x.want || e != x.e {
			t.Errorf("P13.4: Rounds of %q is %d and %d, want %d and %d", x.source, got, e, x.want, x.e)
		}
	}
	kinds := parsed(t, given(), "[kind = 7]; kind := 1 + [kind = 1]; kind := 4") // the chapter's example
	if n, e := meaning.Rounds(given(), kinds, example, 0); n != 2 || e != api.OK {
		t.Errorf("P13.4: Rounds is %d and %d, want 2", n, e)
	}
	if n, e := meaning.Rounds(sixteen(), parsed(t, sixteen(), counter(8)), api.Head{}, 0); n != 255 || e != api.OK {
		t.Errorf("P13.4: Rounds of a counter is %d and %d, want 255", n, e)
	}
	if n, e := meaning.Rounds(sixteen(), parsed(t, sixteen(), counter(9)), api.Head{}, 0); n != 0 || e != api.ErrLimit {
		t.Errorf("P13.4: Rounds of a large counter is %d and %d, want ErrLimit", n, e)
	}
}

// counter returns the source of a policy that adds 1 to the number whose digits, from the last one on, are the first fields
// of sixteen.
func counter(digits int) string {
	var l []string
	for i := range digits {
		test, reset := letter(i)+" = 0", letter(i)+" := 1"
		for k := range i {
			test += " and " + letter(k) + " = 1"
			reset += "; " + letter(k) + " := 0"
		}
		l = append(l, "["+test+"]; "+reset)
	}
	return strings.Join(l, " + ")
}
