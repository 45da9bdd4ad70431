package diagram

import (
	"interlace/api"
	"interlace/bits"
)

// A node says what becomes of a field, for a diagram: its shape says which of its kids, which are diagrams for the later
// fields, follows. A node is smaller than the twigs of its draft: a field with few values that matter needs few kids
// however many bits it has, and there are few shapes, since many nodes test and set the same values.
//
// The kids for which there is no room are in the node next, which has no shape.
type node struct {
	shape int32 // a link
	next  int32
	kids  [room]int32
}

const room = 4

// A shape says what becomes of a bit of a field, as a twig does. Its links lead to none (0), to a kid (the first one is 1,
// and so on), or to the shape n (-1 - n). Kids are numbered in the order in which they are met, so that a shape is unique.
type shape struct {
	bit  int32
	then [4]int32
}

// firstNode is the id of the first node. Those before it are of the diagrams without nodes, none and same.
const firstNode = int(firstTwig)

// Len returns the number of nodes, those that are shapes included.
func (s *Store) Len() int { return len(s.shapes.list) + len(s.nodes.list) }

// room reports whether there is room for a further node.
func (s *Store) room() bool { return s.Len() < s.most }

// pack returns the diagram of a draft.
func (s *Store) pack(a draft) int {
	if a < firstTwig {
		return int(a)
	}
	id, known := s.packed[a]
	if known {
		return id
	}
	link, kids := s.shapeOf(a)
	var ids []int32
	for _, k := range kids {
		ids = append(ids, int32(s.pack(k)))
	}
	last := (len(ids) - 1) / room * room
	for start := last; start >= 0; start -= room {
		n := node{next: int32(id)}
		copy(n.kids[:], ids[start:])
		if start == 0 {
			n.shape = link
		}
		id = firstNode + int(s.nodes.number(n, s.room()))
	}
	s.packed[a] = id
	return id
}

// shapeOf returns the link to the shape of the field with the first bit that matters to a draft, and its kids.
func (s *Store) shapeOf(a draft) (int32, []draft) {
	end := s.ends[s.drafts.bit(a)]
	var kids []draft
	links := map[draft]int32{none: 0}
	var link func(a draft) int32
	link = func(a draft) int32 {
		n, known := links[a]
		switch {
		case known:
			return n
		case s.drafts.bit(a) >= end:
			kids = append(kids, a)
			n = int32(len(kids))
		default:
			x := shape{bit: s.drafts.bit(a)}
			for i, b := range s.drafts.then(a, x.bit) {
				x.then[i] = link(b)
			}
			n = -1 - s.shapes.number(x, s.room())
		}
		links[a] = n
		return n
	}
	return link(a), kids
}

// draft returns the draft of a diagram.
func (s *Store) draft(id int) draft {
	if id < firstNode {
		return draft(id)
	}
	a, known := s.unpacked[id]
	if known {
		return a
	}
	n := s.nodes.list[id-firstNode]
	link := n.shape
	drafts := []draft{none}
	for {
		for _, k := range n.kids {
			drafts = append(drafts, s.draft(int(k)))
		}
		if n.next == 0 {
			break
		}
		n = s.nodes.list[int(n.next)-firstNode]
	}
	var grow func(link int32) draft
	shoots := remembered(func(link int32) draft {
		x := s.shapes.list[-1-link]
		var then twos
		for i, l := range x.then {
			then[i] = grow(l)
		}
		return s.drafts.of(x.bit, then)
	})
	grow = func(link int32) draft {
		if link >= 0 {
			return drafts[link]
		}
		return shoots(link)
	}
	a = grow(link)
	s.unpacked[id] = a
	s.packed[a] = id
	return a
}

// known returns the id of a diagram, but none for other numbers. (A node without a shape leads to none.)
func (s *Store) known(id int) int {
	if id < 0 || id-firstNode >= len(s.nodes.list) {
		return int(none)
	}
	return id
}

// endsOf returns, for each bit, the first one behind its field.
func endsOf(l []api.Field) (ends [bits.Bits]int32) {
	for i := range ends {
		ends[i] = int32(i + 1)
	}
	for _, f := range l {
		end := min(f.At+f.Width, bits.Bits)
		for i := max(f.At, 0); i < end; i++ {
			ends[i] = int32(end)
		}
	}
	return ends
}
