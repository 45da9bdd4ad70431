package equiv_test

import (
	"testing"

	"interlace/api"
	"interlace/equiv"
)

// An example is a question about policies with the fields of the chapter's examples, and the head for which it is not so.
type example struct {
	name, p, q string
	h          api.Head
	yes        bool
}

func check(t *testing.T, examples []example) {
	t.Helper()
	for _, x := range examples {
		p, q := parsed(t, given(), x.p), parsed(t, given(), x.q)
		for _, y := range questions() {
			if y.name != x.name {
				continue
			}
			if h, yes := y.asked(t, given(), p, q, 0); h != x.h || yes != x.yes {
				t.Errorf("%s: %s of %s and %s is %v, %v, want %v, %v", y.promise, x.name, x.p, x.q, h, yes, x.h, x.yes)
			}
		}
	}
}

func TestExamples(t *testing.T) {
	check(t, []example{
		{"Equal", "kind := 1; kind := 2", "kind := 2", api.Head{}, true},
		{"Equal", "[kind = 1]", "id", api.Head{}, false},
		{"Equal", "[not kind = 0]; kind := 0 + [kind = 0]", "kind := 0", api.Head{}, true},
		{"Includes", "id + kind := 1", "kind := 1", api.Head{}, true},
		{"Includes", "kind := 1", "id + kind := 1", api.Head{}, false},
		{"Empty", "[kind = 1]; [kind = 2]", "id", api.Head{}, true},
		{"Total", "[kind in 0..6]", "id", first(0, 0, 0, 7), false},
		{"Single", "id + kind := 3", "id", api.Head{}, false},
		{"Apart", "[dst = 1]", "[dst = 2]", api.Head{}, true},
		{"Distinct", "[dst = 1]", "[dst = 2]", api.Head{}, true},
		{"Distinct", "dst := 3", "src := 4", first(0, 3, 4, 0), false},
		{"Slices", "[dst = 1]; dst := 2", "[dst = 2]; dst := 3", first(0, 1, 0, 0), false},
		{"Slices", "[dst = 1]", "[dst = 2]", api.Head{}, true},
	})
}

func TestExamplesOfTicks(t *testing.T) {
	for _, x := range []struct {
		p, q string
		at   int
		h    api.Head
		yes  bool
	}{
		{"[time in 3..7]", "id", 0, api.Head{}, false}, {"[not time in 3..7]", "id", 3, api.Head{}, false},
		{"[time in 3..7]", "[not time in 0..3 and not time in 7..1073741824]", maxTick, api.Head{}, false},
		{"[time in 3..7]", "[(time in 2..5 or time in 4..8) and not time in 2..3 and not time in 7..8]", 0, api.Head{}, true},
		{"[time in 0..1073741824]", "id", maxTick, api.Head{}, false},
		{"id", "[not time in 1073741823..1073741824]", maxTick - 1, api.Head{}, false},
		{"[time in 5..6]; kind := 2", "[time in 5..6 and not kind = 4]; kind := 2", 5, first(0, 0, 0, 4), false},
		{"[time in 5..9]", "[time in 5..8 or dst in 0..9]; [time in 5..9]", 8, first(0, 10, 0, 0), false},
		{"[not time in 9..10]", "[not time in 4..5]", 4, api.Head{}, false}, {"[kind = 1]; kind := 1", "[kind = 1]", 0, api.Head{}, true},
		{"[kind = 1 and (true or time in 7..8)]", "[kind = 2]", 0, first(0, 0, 0, 1), false},
	} {
		for _, both := range [][2]string{{x.p, x.q}, {x.q, x.p}} {
			at, h, yes, e := equiv.EqualAlways(given(), parsed(t, given(), both[0]), parsed(t, given(), both[1]))
			if at != x.at || h != x.h || yes != x.yes || e != api.OK {
				t.Errorf("P15.1: EqualAlways of %s and %s is %d, %v, %v and %d, want %d, %v, %v", both[0], both[1], at, h, yes, e, x.at, x.h, x.yes)
			}
		}
	}
}

// The head that is returned is the least one, also in the port, and in the order of bits instead of that of fields.
func TestLeastHeads(t *testing.T) {
	check(t, []example{
		{"Equal", "[port in 0..6]", "id", first(7, 0, 0, 0), false},
		{"Equal", "port := 65535", "[not port = 9]; port := 65535", first(9, 0, 0, 0), false},
		{"Equal", "kind := 0", "id", first(0, 0, 0, 1), false},
		{"Includes", "[src = 3]; kind := 1", "[dst = 9]; kind := 1", first(0, 9, 0, 0), false},
		{"Includes", "[dst = 9]; kind := 1", "[src = 3]; kind := 1", first(0, 0, 3, 0), false},
		{"Includes", "drop", "drop", api.Head{}, true}, {"Includes", "drop", "[port = 65535]", first(65535, 0, 0, 0), false},
		{"Includes", "(kind := 1 + kind := 2)*", "kind := 1; kind := 2 + id", api.Head{}, true},
		{"Empty", "[kind = 5 or dst = 7]", "id", first(0, 0, 0, 5), false}, {"Empty", "drop; kind := 1", "id", api.Head{}, true}, {"Empty", "kind := 1", "id", api.Head{}, false},
		{"Empty", "[not kind = 5]; kind := 1; [port = 3]", "id", first(3, 0, 0, 0), false},
		{"Total", "drop", "id", api.Head{}, false}, {"Total", "[kind = 1]; kind := 2 + [not kind = 1]; kind := 1", "id", api.Head{}, true},
		{"Total", "[not port = 6]", "id", first(6, 0, 0, 0), false}, {"Total", "(kind := 1 + kind := 2); [kind = 2]", "id", api.Head{}, true},
		{"Single", "drop", "id", api.Head{}, true}, {"Single", "[kind = 1]; port := 1 + [kind = 2]; port := 2", "id", api.Head{}, true},
		{"Single", "[dst = 7]; (id + kind := 1)", "id", first(0, 7, 0, 0), false}, {"Single", "id + kind := 0", "id", first(0, 0, 0, 1), false},
		{"Single", "port := 1 + id", "id", api.Head{}, false}, {"Single", "[port = 1]; (port := 1 + id)", "id", api.Head{}, true},
		{"Single", "[src = 9]; (id + kind := 1) + [src = 4 and dst = 1]; (id + kind := 1)", "id", first(0, 0, 9, 0), false},
		{"Apart", "[dst = 1 or src = 9]", "[dst = 2 or src = 8]", first(0, 1, 8, 0), false}, {"Apart", "[dst = 1]; kind := 1", "[dst = 1]; kind := 2", first(0, 1, 0, 0), false},
		{"Apart", "drop", "id", api.Head{}, true}, {"Apart", "id", "kind := 1; [kind = 2]", api.Head{}, true}, {"Apart", "[port in 4..6]", "[port in 6..9]", first(6, 0, 0, 0), false},
		{"Distinct", "drop", "id", api.Head{}, true}, {"Distinct", "id", "[port = 3]; port := 65534", first(65534, 0, 0, 0), false}, {"Distinct", "kind := 1 + kind := 2", "kind := 3 + kind := 4", api.Head{}, true},
		{"Distinct", "[dst = 1]; dst := 5", "[dst = 2]; dst := 5", first(0, 5, 0, 0), false}, {"Distinct", "[dst = 1]; kind := 5", "[dst = 1]; kind := 6", api.Head{}, true},
		{"Distinct", "kind := 1; src := 8 + kind := 2", "[src = 8] + [kind = 2]; dst := 4", first(0, 0, 8, 1), false},
		{"Slices", "[dst = 2]; dst := 3", "[dst = 1]; dst := 2", first(0, 1, 0, 0), false}, {"Slices", "drop", "id", api.Head{}, true}, {"Slices", "id", "[port = 4]", first(4, 0, 0, 0), false},
		{"Slices", "[dst = 9]; dst := 2 + [dst = 4]", "[dst = 2]; dst := 4", first(0, 2, 0, 0), false}, {"Slices", "[dst = 2]; dst := 4", "[dst = 9]; dst := 2 + [dst = 4]", first(0, 2, 0, 0), false},
		{"Slices", "[dst = 2]; dst := 4", "[dst = 1]; dst := 2 + [dst = 4]", first(0, 1, 0, 0), false}, {"Slices", "[dst = 1]; dst := 2", "[dst = 1]; dst := 3", api.Head{}, true},
	})
}

// Bits of no field are 0 in the heads that are returned, and without fields there is still the port.
func TestWithoutFields(t *testing.T) {
	one, two := set("port", 1), set("port", 2)
	for _, x := range questions() {
		want, wantYes := api.Head{}, x.name == "Total" || x.name == "Single" || x.name == "Distinct"
		if h, yes := x.asked(t, nil, one, two, 0); h != want || yes != wantYes {
			t.Errorf("%s: %s of ports is %v, %v", x.promise, x.name, h, yes)
		}
	}
	if h, yes := questions()[1].asked(t, nil, filter(eq("port", 0)), filter(pred(api.PrTrue)), 7); h != (api.Head{1}) || yes {
		t.Errorf("P15.2: Includes of ports is %v, %v", h, yes)
	}
}
