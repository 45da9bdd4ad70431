package graph_test

import (
	"bytes"
	"math"
	"slices"
	"strings"
	"testing"

	"interlace/api"
	"interlace/graph"
	"interlace/wire"
)

// join returns the bytes of all parts, in order.
func join(parts ...[]byte) []byte { return bytes.Join(parts, nil) }

// encode is the second way to Encode: the parts one by one.
func encode(n api.Network) [][]byte {
	parts := [][]byte{wire.Int(len(n.Nodes))}
	for _, x := range n.Nodes {
		numbers := []int{0, x.Rules, x.Entries}
		if x.Box {
			numbers[0] = 1
		}
		parts = append(parts, wire.Bytes(x.Name), wire.Ints(numbers))
	}
	parts = append(parts, wire.Int(len(n.Links)))
	for _, x := range n.Links {
		parts = append(parts, wire.Ints([]int{x.From, x.To, x.Capacity}))
	}
	parts = append(parts, wire.Int(len(n.Edges)))
	for _, x := range n.Edges {
		parts = append(parts, wire.Bytes(x.Name), wire.Int(x.Node))
	}
	return parts
}

// decode is the second way to Decode: it stops at the first wrong part.
func decode(b []byte) (n api.Network, e api.Errno) {
	number := func() int {
		x, used, f := wire.GetInt(b)
		if b = b[used:]; f != api.OK {
			panic(f)
		}
		return x
	}
	count := func(limit int) int {
		x := number()
		if x < 0 {
			panic(api.ErrEncoding)
		}
		if x > limit {
			panic(api.ErrLimit)
		}
		return x
	}
	name := func() string {
		s, used, f := wire.GetBytes(b)
		if b = b[used:]; f != api.OK {
			panic(f)
		}
		return s
	}
	three := func() []int {
		l, used, f := wire.GetInts(b)
		if b = b[used:]; f != api.OK {
			panic(f)
		}
		if len(l) != 3 {
			panic(api.ErrEncoding)
		}
		return l
	}
	defer func() {
		if f := recover(); f != nil {
			n, e = api.Network{}, f.(api.Errno)
		}
	}()
	for range count(200) {
		s := name()
		l := three()
		if l[0] < 0 || l[0] > 1 {
			panic(api.ErrEncoding)
		}
		n.Nodes = append(n.Nodes, api.Node{Name: s, Box: l[0] > 0, Rules: l[1], Entries: l[2]})
	}
	for range count(2000) {
		l := three()
		n.Links = append(n.Links, api.Link{From: l[0], To: l[1], Capacity: l[2]})
	}
	for range count(400) {
		s := name()
		n.Edges = append(n.Edges, api.Edge{Name: s, Node: number()})
	}
	if len(b) > 0 {
		panic(api.ErrEncoding)
	}
	return n, api.OK
}

// strange returns networks that are not right.
func strange() []api.Network {
	return []api.Network{
		{Nodes: []api.Node{{Name: "", Box: true, Rules: -1, Entries: math.MinInt}, {Name: strings.Repeat("x\xff", 100), Rules: math.MaxInt, Entries: math.MaxInt}}},
		{Links: []api.Link{{}, {From: -1, To: math.MinInt, Capacity: math.MaxInt}}},
		{Edges: []api.Edge{{Name: "e", Node: -1}, {Name: "e", Node: math.MinInt}}},
	}
}

func TestEncode(t *testing.T) {
	r := source(20)
	networks := append(strange(), api.Network{}, given(), sized(200, 2000, 400), someNetwork(r, 200, 2000))
	for range 300 {
		networks = append(networks, small(r))
	}
	for _, n := range networks {
		before := copyOf(n)
		b := graph.Encode(n)
		if !bytes.Equal(b, join(encode(n)...)) {
			t.Fatalf("P9.7: Encode of %v is %v", n, b)
		}
		m, e := graph.Decode(b)
		if e != api.OK || !graph.Same(m, n) || !slices.Equal(m.Nodes, n.Nodes) || !slices.Equal(m.Links, n.Links) || !slices.Equal(m.Edges, n.Edges) {
			t.Fatalf("P9.7: Decode of the encoding of %v is error %d, %v", n, e, m)
		}
		if !graph.Same(n, before) {
			t.Fatal("P9.7: Encode changes the network")
		}
	}
	// The greatest numbers of elements are a matter of Decode, not of Encode.
	if n := sized(201, 0, 0); !bytes.Equal(graph.Encode(n), join(encode(n)...)) {
		t.Error("P9.7: Encode of 201 nodes")
	}
	if b := graph.Encode(api.Network{}); !bytes.Equal(b, []byte{0, 0, 0}) {
		t.Errorf("P9.7: Encode of nothing is %v", b)
	}
}

// checkDecode compares both ways to Decode, and returns the error.
func checkDecode(t *testing.T, b []byte) api.Errno {
	t.Helper()
	before := slices.Clone(b)
	want, f := decode(b)
	n, e := graph.Decode(b)
	if e != f || !graph.Same(n, want) {
		t.Fatalf("P9.7: Decode of %v is error %d, %v instead of error %d, %v", b, e, n, f, want)
	}
	if e == api.OK && !bytes.Equal(graph.Encode(n), b) {
		t.Fatalf("P9.7: %v is a second encoding", b)
	}
	if !bytes.Equal(b, before) {
		t.Fatal("P9.7: Decode changes its argument")
	}
	return e
}

func TestDecodeErrors(t *testing.T) {
	node := join(wire.Bytes("a"), wire.Ints([]int{1, 5, 6}))
	edge := join(wire.Bytes("e"), wire.Int(0))
	link := wire.Ints([]int{0, 1, 2})
	many := func(n int, part []byte) []byte { return join(wire.Int(n), bytes.Repeat(part, n)) }
	zero := wire.Int(0)
	for i, x := range []struct {
		b    []byte
		want api.Errno
	}{
		{nil, api.ErrTruncated},
		{zero, api.ErrTruncated},
		{join(zero, zero), api.ErrTruncated},
		{join(zero, zero, zero), api.OK},
		{join(zero, zero, zero, zero), api.ErrEncoding},
		{join(many(200, node), many(2000, link), many(400, edge)), api.OK},
		{join(many(200, node), many(2000, link), many(400, edge), zero), api.ErrEncoding},
		{wire.Int(-1), api.ErrEncoding},
		{join(zero, wire.Int(-1)), api.ErrEncoding},
		{join(zero, zero, wire.Int(-1)), api.ErrEncoding},
		{wire.Int(math.MinInt), api.ErrEncoding},
		{wire.Int(201), api.ErrLimit},
		{wire.Int(200), api.ErrTruncated},
		{wire.Int(math.MaxInt), api.ErrLimit},
		{join(zero, wire.Int(2001)), api.ErrLimit},
		{join(zero, wire.Int(2000)), api.ErrTruncated},
		{join(zero, zero, wire.Int(401)), api.ErrLimit},
		{join(zero, zero, wire.Int(400)), api.ErrTruncated},
		{join(zero, zero, wire.Int(401), many(400, edge)), api.ErrLimit},
		{[]byte{128, 0}, api.ErrEncoding},
		{[]byte{128}, api.ErrTruncated},
		{join(wire.Int(1), wire.Int(-1)), api.ErrEncoding},
		{join(wire.Int(1), wire.Bytes("a")), api.ErrTruncated},
		{join(wire.Int(1), wire.Bytes("a"), wire.Ints(nil)), api.ErrEncoding},
		{join(wire.Int(1), wire.Bytes("a"), wire.Ints([]int{0, 1})), api.ErrEncoding},
		{join(wire.Int(1), wire.Bytes("a"), wire.Ints([]int{0, 1, 2, 3})), api.ErrEncoding},
		{join(wire.Int(1), wire.Bytes("a"), wire.Ints([]int{2, 1, 2})), api.ErrEncoding},
		{join(wire.Int(1), wire.Bytes("a"), wire.Ints([]int{-1, 1, 2})), api.ErrEncoding},
		{join(wire.Int(1), wire.Bytes("a"), wire.Ints([]int{2, 1, 2})[:3]), api.ErrTruncated},
		{join(wire.Int(1), wire.Bytes("a"), wire.Ints([]int{1, 1, 2})), api.ErrTruncated},
		{join(many(1, node), zero, zero), api.OK},
		{join(wire.Int(2), node), api.ErrTruncated},
		{join(zero, wire.Int(1), wire.Ints([]int{0, 1})), api.ErrEncoding},
		{join(zero, wire.Int(1), wire.Ints([]int{0, 1, 2, 3})), api.ErrEncoding},
		{join(zero, wire.Int(1), wire.Int(4)), api.ErrTruncated},
		{join(zero, wire.Int(1), wire.Int(-4)), api.ErrEncoding},
		{join(zero, many(1, link), zero), api.OK},
		{join(zero, zero, wire.Int(1), wire.Bytes("e")), api.ErrTruncated},
		{join(zero, zero, wire.Int(1), wire.Bytes("e"), []byte{129, 0}), api.ErrEncoding},
		{join(zero, zero, many(1, edge)), api.OK},
		// What is read first counts: a wrong part comes before the bytes that are missing or left.
		{join(wire.Int(2), wire.Bytes("a"), wire.Ints([]int{7, 1, 2})), api.ErrEncoding},
		{join(wire.Int(1), wire.Bytes("a"), wire.Ints([]int{7, 1, 2}), wire.Int(2001)), api.ErrEncoding},
		{join(many(1, node), wire.Int(2001), wire.Int(-1)), api.ErrLimit},
	} {
		if e := checkDecode(t, x.b); e != x.want {
			t.Errorf("P9.7: Decode of the example %d is error %d instead of %d", i, e, x.want)
		}
	}
}

// TestDecodeChanged decodes encodings with changes.
func TestDecodeChanged(t *testing.T) {
	r := source(21)
	some := []byte{0, 1, 2, 3, 4, 6, 8, 127, 128, 129, 255}
	seen := map[api.Errno]int{}
	networks := append(strange(), given(), small(r), small(r))
	for _, n := range networks {
		b := graph.Encode(n)
		for i := range b {
			seen[checkDecode(t, b[:i])]++
			for _, x := range some {
				seen[checkDecode(t, join(b[:i], []byte{x}, b[i+1:]))]++
				seen[checkDecode(t, join(b[:i], []byte{x}, b[i:]))]++
			}
			seen[checkDecode(t, join(b[:i], b[i+1:]))]++
		}
	}
	for range 20000 {
		parts := encode(networks[r.IntN(len(networks))])
		for range 1 + r.IntN(3) {
			i := r.IntN(len(parts))
			parts[i] = [][]byte{nil, wire.Int(-1), wire.Int(r.IntN(3000)), wire.Ints([]int{0, 1}), wire.Ints([]int{2, 1, 1}), wire.Bytes("a"), parts[r.IntN(len(parts))]}[r.IntN(7)]
		}
		seen[checkDecode(t, join(parts...))]++
	}
	for _, e := range []api.Errno{api.OK, api.ErrTruncated, api.ErrEncoding, api.ErrLimit} {
		if seen[e] < 50 {
			t.Errorf("P9.7: only %d times the error %d", seen[e], e)
		}
	}
}

func TestSame(t *testing.T) {
	for i, change := range []func(n *api.Network){
		func(n *api.Network) { n.Nodes[3].Name = "x" },
		func(n *api.Network) { n.Nodes[3].Box = true },
		func(n *api.Network) { n.Nodes[0].Rules = 1 },
		func(n *api.Network) { n.Nodes[0].Entries = 1 },
		func(n *api.Network) { n.Links[5].From = 1 },
		func(n *api.Network) { n.Links[5].To = 1 },
		func(n *api.Network) { n.Links[0].Capacity = 1 },
		func(n *api.Network) { n.Edges[1].Name = "x" },
		func(n *api.Network) { n.Edges[1].Node = 1 },
		func(n *api.Network) { n.Nodes = n.Nodes[:3] },
		func(n *api.Network) { n.Links = n.Links[:5] },
		func(n *api.Network) { n.Edges = n.Edges[:1] },
		func(n *api.Network) { n.Edges = nil },
		func(n *api.Network) { n.Nodes[0], n.Nodes[1] = n.Nodes[1], n.Nodes[0] },
		func(n *api.Network) { n.Links[0], n.Links[1] = n.Links[1], n.Links[0] },
	} {
		n := given()
		change(&n)
		if graph.Same(n, given()) || graph.Same(given(), n) || !graph.Same(n, copyOf(n)) {
			t.Errorf("P9.7: Same does not see the change %d", i)
		}
	}
	if !graph.Same(given(), given()) || !graph.Same(api.Network{}, api.Network{Nodes: []api.Node{}, Links: []api.Link{}, Edges: []api.Edge{}}) {
		t.Error("P9.7: equal networks are not the Same")
	}
}

// TestDecodeNewMemory changes the bytes after they were decoded.
func TestDecodeNewMemory(t *testing.T) {
	b := graph.Encode(given())
	n, _ := graph.Decode(b)
	for i := range b {
		b[i] = 99
	}
	if !graph.Same(n, given()) || !bytes.Equal(graph.Encode(given()), join(encode(given())...)) {
		t.Error("P9.7: Decode keeps the bytes")
	}
}
