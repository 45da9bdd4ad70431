package typing_test

import (
	"math"
	"regexp"
	"slices"
	"strconv"
	"testing"

	"interlace/api"
	"interlace/syntax"
	"interlace/typing"
)

func TestFreeze(t *testing.T) {
	for _, x := range []struct {
		source string
		tick   int
		want   string
	}{
		{"[time in 3..7]", 3, "id"}, {"[time in 3..7]", 7, "drop"}, // the chapter's examples
		{"[time in 3..7]", 6, "id"}, {"[time in 3..7]", 2, "drop"}, {"[time in 3..7]", 8, "drop"}, {"[time in 0..1]", 0, "id"}, {"[time in 0..1]", 1, "drop"},
		{"[time in 0..1073741824]", 1<<30 - 1, "id"}, {"[time in 0..1073741824]", 1 << 30, "drop"}, {"[time in 0..1073741824]", -1, "drop"}, {"[time in 0..1073741824]", math.MinInt, "drop"}, {"[time in 0..1073741824]", math.MaxInt, "drop"},
		{"id", 5, "id"}, {"drop", 5, "drop"}, {"dst := 5", 5, "dst := 5"}, {"[dst = 5]", 5, "[dst = 5]"}, {"[port = 5/3]", 5, "[port = 5/3]"}, {"[dst in 3..7]", 9, "[dst in 3..7]"},
		{"[not time in 3..7]", 3, "[not true]"}, {"[not time in 3..7]", 9, "[not false]"}, {"[time in 1..5 and dst = 3 or not time in 4..9]", 4, "[true and dst = 3 or not true]"}, {"[time in 1..5 and dst = 3 or not time in 4..9]", 5, "[false and dst = 3 or not true]"},
		{"([time in 1..2]; dst := 3 + src := 4)*; [time in 2..3]", 2, "(drop; dst := 3 + src := 4)*; id"},
	} {
		got := typing.Freeze(parsedPolicy(t, x.source), x.tick)
		if !syntax.SamePolicy(got, parsedPolicy(t, x.want)) {
			t.Errorf("P12.5: %q is %q at %d, want %q", x.source, syntax.PrintPolicy(got), x.tick, x.want)
		}
	}
	for _, x := range []struct {
		source string
		tick   int
		want   string
	}{
		{"time in 3..7", 3, "true"}, {"time in 3..7", 2, "false"}, {"time in 3..7", 7, "false"}, {"dst = 3", 3, "dst = 3"}, {"true", 3, "true"}, {"false", 3, "false"}, {"not (dst = 3 or time in 3..7)", 6, "not (dst = 3 or true)"},
	} {
		got := typing.FreezePred(parsedPred(t, x.source), x.tick)
		if !syntax.SamePred(got, parsedPred(t, x.want)) {
			t.Errorf("P12.5: %q is %q at %d, want %q", x.source, syntax.PrintPred(got), x.tick, x.want)
		}
	}
}

func TestFreezeProgram(t *testing.T) {
	p := parsed(t, "stage [time in 3..7]; dst := 1 then count c by src into kind. stage [time in 7..9] + id. stage dst := 1 then token d by src, kind burst 1 each 3.")
	want := parsed(t, "stage drop; dst := 1 then count c by src into kind. stage id + id. stage dst := 1 then token d by src, kind burst 1 each 3.")
	if got := typing.FreezeProgram(p, 7); !syntax.SameProgram(got, want) {
		t.Errorf("P12.5: the program is %q at 7", syntax.PrintProgram(got))
	}
	if len(typing.FreezeProgram(nil, 7)) != 0 {
		t.Error("P12.5: the program without stages is frozen to one with some")
	}
}

func TestBoundaries(t *testing.T) {
	for source, want := range map[string][]int{
		"": nil, "stage id.": nil, "stage [dst in 3..7].": nil, "stage id then check c by src within 5.": nil, "stage id then token c by src burst 2 each 3.": nil,
		"stage [time in 3..7].": {3, 7}, "stage [time in 7..9]. stage [time in 3..7].": {3, 7, 9}, "stage [time in 3..7 and not time in 3..4].": {3, 4, 7}, "stage [time in 0..1073741824].": {0, maxTick},
		"stage ([time in 30..200]; dst := 1)* + [not (dst = 3 or time in 4..30)]. stage id. stage [time in 30..200].": {4, 30, 200},
	} {
		if got := typing.Boundaries(parsed(t, source)); !slices.Equal(got, want) {
			t.Errorf("P12.5: the boundaries of %q are %v, want %v", source, got, want)
		}
	}
	// The filter of a predicate may be too large for syntax.
	if got := typing.Boundaries(alone(filter(chained(19, window(3, 7), not)))); !slices.Equal(got, []int{3, 7}) {
		t.Errorf("P12.5: the boundaries of a deep filter are %v", got)
	}
}

var windows = regexp.MustCompile(`time in (\d+)\.\.(\d+)`)

// bounds returns N and M of the text of a window of time.
func bounds(text string) (n, m int) {
	parts := windows.FindStringSubmatch(text)
	n, _ = strconv.Atoi(parts[1])
	m, _ = strconv.Atoi(parts[2])
	return n, m
}

// frozenText returns a source in which the windows of time are replaced by what they are at a tick.
func frozenText(source string, tick int) string {
	return windows.ReplaceAllStringFunc(source, func(text string) string {
		n, m := bounds(text)
		return strconv.FormatBool(!(tick < n) && tick < m)
	})
}

func TestRandomFreeze(t *testing.T) {
	m := making(8, 30)
	frozen := 0
	for range 5000 {
		x, y, p, tick := m.smallPred(), m.small(), m.smallProgram(), m.r.IntN(32)-1
		z := typing.FreezePred(x, tick)
		if want := parsedPred(t, frozenText(syntax.PrintPred(x), tick)); !syntax.SamePred(z, want) {
			t.Fatalf("P12.5: the predicate %q is %q at %d", syntax.PrintPred(x), syntax.PrintPred(z), tick)
		}
		w := typing.Freeze(y, tick)
		if want := parsedPolicy(t, frozenText(syntax.PrintPolicy(y), tick)); !syntax.SamePolicy(w, want) {
			t.Fatalf("P12.5: the policy %q is %q at %d", syntax.PrintPolicy(y), syntax.PrintPolicy(w), tick)
		}
		q := typing.FreezeProgram(p, tick)
		if want := parsed(t, frozenText(syntax.PrintProgram(p), tick)); !syntax.SameProgram(q, want) {
			t.Fatalf("P12.5: the program %q is %q at %d", syntax.PrintProgram(p), syntax.PrintProgram(q), tick)
		}
		if windows.MatchString(syntax.PrintPolicy(w)) || len(typing.Boundaries(q)) > 0 {
			t.Fatalf("P12.9: the time is left in %q", syntax.PrintPolicy(w))
		}
		if other := m.r.IntN(32); !syntax.SamePolicy(typing.Freeze(w, other), w) || !syntax.SameProgram(typing.FreezeProgram(q, other), q) || !syntax.SamePred(typing.FreezePred(z, other), z) {
			t.Fatalf("P12.9: freezing %q again, at %d, changes it", syntax.PrintPolicy(w), other)
		}
		if typing.Policy(many(), y) == api.OK && typing.Policy(many(), w) != api.OK || typing.Program(many(), p) == api.OK && typing.Program(many(), q) != api.OK {
			t.Fatalf("P12.9: %q fits, but not at %d", syntax.PrintPolicy(y), tick)
		}
		if !syntax.SamePolicy(y, w) {
			frozen++
		}
	}
	if frozen < 1000 {
		t.Errorf("P12.5: only %d random policies were changed", frozen)
	}
}

func TestRandomBoundaries(t *testing.T) {
	m := making(9, 0)
	same, different := 0, 0
	for range 5000 {
		p := m.smallProgram()
		var ticks []int
		for _, text := range windows.FindAllString(syntax.PrintProgram(p), -1) {
			n, m := bounds(text)
			for _, tick := range []int{n, m} {
				if i, found := slices.BinarySearch(ticks, tick); !found {
					ticks = slices.Insert(ticks, i, tick)
				}
			}
		}
		got := typing.Boundaries(p)
		if !slices.Equal(got, ticks) {
			t.Fatalf("P12.5: the boundaries of %q are %v, want %v", syntax.PrintProgram(p), got, ticks)
		}
		a := m.r.IntN(32)
		b := a + m.r.IntN(9)
		apart := slices.ContainsFunc(got, func(tick int) bool { return a < tick && tick <= b })
		equal := syntax.SameProgram(typing.FreezeProgram(p, a), typing.FreezeProgram(p, b))
		switch {
		case !apart && !equal:
			t.Fatalf("P12.9: %q is different at %d and %d, without a boundary", syntax.PrintProgram(p), a, b)
		case !apart && len(got) > 0:
			same++
		case !equal:
			different++
		}
	}
	if same < 300 || different < 300 {
		t.Errorf("P12.9: only %d random programs are the same, and %d different", same, different)
	}
}
