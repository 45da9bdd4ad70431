package graph

import (
	"slices"

	"interlace/api"
	"interlace/wire"
)

// numbers is how many numbers the list of an element has.
const numbers = 3

// Encode returns the encoding of a network.
func Encode(n api.Network) []byte {
	b := addList(nil, n.Nodes, func(x api.Node) []byte {
		box := 0
		if x.Box {
			box = 1
		}
		return slices.Concat(wire.Bytes(x.Name), wire.Ints([]int{box, x.Rules, x.Entries}))
	})
	b = addList(b, n.Links, func(x api.Link) []byte {
		return wire.Ints([]int{x.From, x.To, x.Capacity})
	})
	return addList(b, n.Edges, func(x api.Edge) []byte {
		return slices.Concat(wire.Bytes(x.Name), wire.Int(x.Node))
	})
}

// addList appends the number of elements, and their encodings.
func addList[T any](b []byte, l []T, encode func(T) []byte) []byte {
	b = append(b, wire.Int(len(l))...)
	for _, x := range l {
		b = append(b, encode(x)...)
	}
	return b
}

// A reader reads the parts of an encoding in turn. After its first error e it reads nothing more, and all parts are zero.
type reader struct {
	left []byte
	e    api.Errno
}

// fail notes an error, unless there was one before.
func (r *reader) fail(e api.Errno) {
	if r.e == api.OK {
		r.e = e
	}
}

// read reads a part with a function of package wire.
func read[T any](r *reader, get func([]byte) (T, int, api.Errno)) T {
	var zero T
	if r.e != api.OK {
		return zero
	}
	x, used, e := get(r.left)
	if e != api.OK {
		r.fail(e)
		return zero
	}
	r.left = r.left[used:]
	return x
}

// readList reads a number of elements, and the elements.
func readList[T any](r *reader, limit int, element func(*reader) T) []T {
	size := read(r, wire.GetInt)
	switch {
	case size < 0:
		r.fail(api.ErrEncoding)
	case size > limit:
		r.fail(api.ErrLimit)
	}
	var l []T
	for len(l) < size && r.e == api.OK {
		x := element(r)
		l = append(l, x)
	}
	return l
}

// readNumbers reads a list of numbers.
func readNumbers(r *reader) [numbers]int {
	l := read(r, wire.GetInts)
	if len(l) != numbers {
		r.fail(api.ErrEncoding)
		return [numbers]int{}
	}
	return [numbers]int(l)
}

func readNode(r *reader) api.Node {
	name := read(r, wire.GetBytes)
	l := readNumbers(r)
	if l[0] != 0 && l[0] != 1 {
		r.fail(api.ErrEncoding)
	}
	return api.Node{Name: name, Box: l[0] == 1, Rules: l[1], Entries: l[2]}
}

func readLink(r *reader) api.Link {
	l := readNumbers(r)
	return api.Link{From: l[0], To: l[1], Capacity: l[2]}
}

func readEdge(r *reader) api.Edge {
	name := read(r, wire.GetBytes)
	node := read(r, wire.GetInt)
	return api.Edge{Name: name, Node: node}
}

// Decode returns the network with an encoding.
func Decode(b []byte) (api.Network, api.Errno) {
	r := &reader{left: b}
	var n api.Network
	n.Nodes = readList(r, api.MaxNodes, readNode)
	n.Links = readList(r, api.MaxLinks, readLink)
	n.Edges = readList(r, api.MaxEdges, readEdge)
	if len(r.left) > 0 {
		r.fail(api.ErrEncoding)
	}
	if r.e != api.OK {
		return api.Network{}, r.e
	}
	return n, api.OK
}

// Same reports whether two networks are equal.
func Same(a, b api.Network) bool {
	return slices.Equal(a.Nodes, b.Nodes) && slices.Equal(a.Links, b.Links) && slices.Equal(a.Edges, b.Edges)
}
