package typing_test

import (
	"math/big"
	"regexp"
	"slices"
	"strconv"
	"strings"
	"testing"

	"interlace/api"
	"interlace/syntax"
	"interlace/typing"
)

func TestEffects(t *testing.T) {
	for _, x := range []struct {
		source        string
		reads, writes []string
		ports         []int
		cost          int
	}{
		{"[dst = 5]; port := 2 + port := 1; (src := 0)*", []string{"dst"}, []string{"port", "src"}, []int{1, 2}, 65536}, // the chapter's example
		{"id", nil, nil, nil, 1}, {"drop", nil, nil, nil, 0}, {"[not true]", nil, nil, nil, 1}, {"[false and false]", nil, nil, nil, 1}, {"[time in 3..7]", nil, nil, nil, 1},
		{"[port = 5]", []string{"port"}, nil, nil, 1}, {"port := 5", nil, []string{"port"}, []int{5}, 1}, {"dst := 5", nil, []string{"dst"}, nil, 1},
		{"[src = 1 or dst = 1/2 and not (kind in 1..2 or src = 4)]", []string{"dst", "kind", "src"}, nil, nil, 1},
		{"port := 10; port := 9; port := 10 + port := 0", nil, []string{"port"}, []int{0, 9, 10}, 2},
		{"[dst = 1]; src := 1; ([src = 2]; dst := 2)*", []string{"dst", "src"}, []string{"dst", "src"}, nil, 65536},
		{"dst := 1 + dst := 2 + dst := 3", nil, []string{"dst"}, nil, 3}, {"(dst := 1 + dst := 2); (src := 1 + src := 2 + id)", nil, []string{"dst", "src"}, nil, 6},
		{"drop; dst := 1", nil, []string{"dst"}, nil, 0}, {"dst := 1; drop", nil, []string{"dst"}, nil, 0}, {"drop + dst := 1", nil, []string{"dst"}, nil, 1}, {"drop + drop", nil, nil, nil, 0},
		{"drop*", nil, nil, nil, 1}, {"(drop; dst := 1)*", nil, []string{"dst"}, nil, 1}, {"(drop + drop)* + (id; drop)*", nil, nil, nil, 2}, {"id*", nil, nil, nil, 65536}, {"drop**", nil, nil, nil, 65536},
		{"id*; drop", nil, nil, nil, 0}, {"drop; id*", nil, nil, nil, 0}, {"id* + id", nil, nil, nil, 65536}, {"id*; id*", nil, nil, nil, 65536}, {"id* + id*; drop", nil, nil, nil, 65536}, {"(id* + id*); (id* + id*)", nil, nil, nil, 65536}, {"(id*; id*); drop*", nil, nil, nil, 65536}, {"(id*; drop)*", nil, nil, nil, 1},
		{strings.Repeat("(id + id); ", 15) + "(id + id)", nil, nil, nil, 65536}, {strings.Repeat("(id + id); ", 15) + "id", nil, nil, nil, 32768}, {strings.Repeat("(id + id); ", 16) + "(id + id)", nil, nil, nil, 65536}, {strings.Repeat("(id + id); ", 15) + "(id + id) + id", nil, nil, nil, 65536},
		{"(id + id + id); (id + id + id); " + strings.Repeat("(id + id); ", 12) + "(id + id)", nil, nil, nil, 65536}, {"(id + id + id); " + strings.Repeat("(id + id); ", 13) + "(id + id)", nil, nil, nil, 49152},
		{strings.Repeat("(id + id); ", 15) + "(id + id); drop + id", nil, nil, nil, 1},
	} {
		p := parsedPolicy(t, x.source)
		if got := typing.Reads(p); !slices.Equal(got, x.reads) {
			t.Errorf("P12.6: %q reads %q, want %q", x.source, got, x.reads)
		}
		if got := typing.Writes(p); !slices.Equal(got, x.writes) {
			t.Errorf("P12.6: %q writes %q, want %q", x.source, got, x.writes)
		}
		if got := typing.Ports(p); !slices.Equal(got, x.ports) {
			t.Errorf("P12.6: %q sets the ports %v, want %v", x.source, got, x.ports)
		}
		if got := typing.Cost(p); got != x.cost {
			t.Errorf("P12.7: %q costs %d, want %d", x.source, got, x.cost)
		}
	}
	if typing.MaxCost != 65536 {
		t.Errorf("P12.7: MaxCost is %d", typing.MaxCost)
	}
}

var (
	readFields = regexp.MustCompile(`([a-z]+) (?:=|in) `)
	setFields  = regexp.MustCompile(`([a-z]+) := (\d+)`)
)

// once returns what the first groups of a pattern match in a source, each once, in order.
func once(pattern *regexp.Regexp, source string) []string {
	seen := map[string]bool{"time": true}
	var l []string
	for _, groups := range pattern.FindAllStringSubmatch(source, -1) {
		if !seen[groups[1]] {
			l = append(l, groups[1])
		}
		seen[groups[1]] = true
	}
	slices.Sort(l)
	return l
}

// portsOf returns the ports that are set in a source.
func portsOf(source string) []int {
	set := make([]bool, 1<<16)
	for _, groups := range setFields.FindAllStringSubmatch(source, -1) {
		if n, _ := strconv.Atoi(groups[2]); groups[1] == "port" {
			set[n] = true
		}
	}
	var ports []int
	for n, is := range set {
		if is {
			ports = append(ports, n)
		}
	}
	return ports
}

// costOf returns the cost of a policy, as if there were no greatest one but that of a PoStar.
func costOf(x api.Policy) *big.Int {
	switch x.Kind {
	case api.PoUnion:
		return new(big.Int).Add(costOf(x.Args[0]), costOf(x.Args[1]))
	case api.PoSeq:
		return new(big.Int).Mul(costOf(x.Args[0]), costOf(x.Args[1]))
	case api.PoStar:
		if costOf(x.Args[0]).Sign() > 0 {
			return big.NewInt(65536)
		}
	case api.PoFilter:
		if x.Pred.Kind == api.PrFalse {
			return new(big.Int)
		}
	}
	return big.NewInt(1)
}

func TestRandomEffects(t *testing.T) {
	m := making(11, 20)
	greatest, between := 0, 0
	for range 5000 {
		x := m.small()
		if m.r.IntN(3) == 0 {
			x = m.wide()
		}
		source := syntax.PrintPolicy(x)
		if got, want := typing.Reads(x), once(readFields, source); !slices.Equal(got, want) {
			t.Fatalf("P12.6: %q reads %q, want %q", source, got, want)
		}
		if got, want := typing.Writes(x), once(setFields, source); !slices.Equal(got, want) {
			t.Fatalf("P12.6: %q writes %q, want %q", source, got, want)
		}
		if got, want := typing.Ports(x), portsOf(source); !slices.Equal(got, want) {
			t.Fatalf("P12.6: %q sets the ports %v, want %v", source, got, want)
		}
		want := 65536
		if exact := costOf(x); exact.Cmp(big.NewInt(65536)) < 0 {
			want = int(exact.Int64())
		}
		if got := typing.Cost(x); got != want {
			t.Fatalf("P12.7: %q costs %d, want %d", source, got, want)
		}
		switch {
		case want == 65536:
			greatest++
		case want > 4:
			between++
		}
	}
	if greatest < 300 || between < 300 {
		t.Errorf("P12.7: only %d random policies have the greatest cost, and %d lesser ones", greatest, between)
	}
}

// wide returns a random policy without stars that syntax accepts, and that may give many heads.
func (m maker) wide() api.Policy {
	for {
		x := m.product(1 + m.r.IntN(10))
		if syntax.CheckPolicy(x) == api.OK {
			return x
		}
	}
}

func (m maker) product(factors int) api.Policy {
	x := set("dst", m.r.IntN(256))
	for range m.r.IntN(6) {
		x = union(x, pick(m, drop(), id(), set("port", m.r.IntN(65536)), set("src", m.r.IntN(256)), set("kind", m.r.IntN(8))))
	}
	if factors == 1 {
		return x
	}
	return seq(m.product(factors-1), x)
}

// A packet is the values of its fields.
type packet [4]int

// give returns the packets that a policy without stars gives; its tests read nothing but the fields of packets.
func give(x api.Policy, h packet, l map[packet]bool) map[packet]bool {
	at := func(name string) *int { return &h[slices.Index([]string{"dst", "src", "kind", "port"}, name)] }
	switch x.Kind {
	case api.PoSet:
		*at(x.Field) = x.N
		l[h] = true
	case api.PoFilter:
		if x.Pred.Kind == api.PrTrue || x.Pred.Kind == api.PrEq && *at(x.Pred.Field) == x.Pred.N {
			l[h] = true
		}
	case api.PoUnion:
		give(x.Args[0], h, l)
		give(x.Args[1], h, l)
	case api.PoSeq:
		for g := range give(x.Args[0], h, map[packet]bool{}) {
			give(x.Args[1], g, l)
		}
	}
	return l
}

func TestCostIsBound(t *testing.T) {
	m := making(12, 0)
	exact := 0
	for range 2000 {
		x := m.product(1 + m.r.IntN(5))
		cost := typing.Cost(x)
		heads := len(give(x, packet{300, 300, 300, 70000}, map[packet]bool{}))
		if heads > cost {
			t.Fatalf("P12.7: %q gives %d heads, and costs %d", syntax.PrintPolicy(x), heads, cost)
		}
		if heads == cost {
			exact++
		}
	}
	if exact < 100 {
		t.Errorf("P12.7: only %d random policies give as many heads as they cost", exact)
	}
}
