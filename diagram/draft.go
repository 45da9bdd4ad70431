package diagram

import (
	"math"

	"interlace/api"
	"interlace/bits"
)

// A draft is a diagram that is worked on. It stands for one of the two below, or for a twig: the twig n is the draft
// firstTwig + n.
type draft int32

const (
	none      draft = 0 // gives nothing
	same      draft = 1 // gives the head itself
	firstTwig draft = 2
)

// Twos are four drafts for a bit: which one follows if the bit is x, and becomes y, is at 2x + y.
type twos [4]draft

// A twig says what becomes of a bit, and what follows for the later bits. A bit that is kept, whatever it is, and before
// the same draft, needs no twig; so a draft is unique.
type twig struct {
	bit  int32
	then twos
}

// drafts are the twigs of drafts, of which there may be so many.
type drafts struct {
	twigs register[twig]
	most  int
}

func newDrafts() *drafts { return &drafts{twigs: registerOf[twig](), most: math.MaxInt} }

// of returns the draft that says what becomes of a bit.
func (d *drafts) of(bit int32, then twos) draft {
	if then[1] == none && then[2] == none && then[0] == then[3] {
		return then[0]
	}
	return firstTwig + draft(d.twigs.number(twig{bit, then}, len(d.twigs.list) < d.most))
}

// bit returns the first bit that matters to a draft.
func (d *drafts) bit(a draft) int32 {
	if a < firstTwig {
		return bits.Bits
	}
	return d.twigs.list[a-firstTwig].bit
}

// then returns what follows for a bit, which is not behind the first one that matters.
func (d *drafts) then(a draft, bit int32) twos {
	if d.bit(a) > bit {
		return twos{a, none, none, a}
	}
	return d.twigs.list[a-firstTwig].then
}

// filter returns the draft of the filter of a pattern.
func (d *drafts) filter(p api.Pattern) draft {
	return d.chain(p, func(x int, a draft) (then twos) {
		then[3*x] = a
		return then
	})
}

// mod returns the draft of a mod.
func (d *drafts) mod(m api.Mod) draft {
	return d.chain(api.Pattern(m), func(y int, a draft) (then twos) {
		then[y], then[2+y] = a, a
		return then
	})
}

// chain returns a draft that says something of each bit that a pattern fixes.
func (d *drafts) chain(p api.Pattern, twosOf func(n int, a draft) twos) draft {
	a := same
	for i := bits.Bits - 1; i >= 0; i-- {
		if bits.Bit(p.Mask, i) == 1 {
			a = d.of(int32(i), twosOf(bits.Bit(p.Bits, i), a))
		}
	}
	return a
}

// operations make drafts of drafts. Each of them remembers, in a map of its own, what it has made.
type operations struct {
	*drafts
	union, seq func(a, b draft) draft
	minus      func(a, b draft) draft // what a gives and b does not
	domain     func(a draft) draft
}

func (d *drafts) operations() operations {
	o := operations{drafts: d}
	o.union = d.operation(func(a, b draft) (draft, bool) {
		if a == none {
			return b, true
		}
		return a, a == b || b == none
	}, func(x, y twos) (z twos) {
		for i := range z {
			z[i] = o.union(x[i], y[i])
		}
		return z
	})
	o.minus = d.operation(func(a, b draft) (draft, bool) {
		if a == b {
			return none, true
		}
		return a, a == none || b == none
	}, func(x, y twos) (z twos) {
		for i := range z {
			z[i] = o.minus(x[i], y[i])
		}
		return z
	})
	o.seq = d.operation(func(a, b draft) (draft, bool) {
		if a == same || b == none {
			return b, true
		}
		return a, a == none || b == same
	}, func(x, y twos) (z twos) {
		for i := range z {
			from, to := i&^1, i&1
			z[i] = o.union(o.seq(x[from], y[to]), o.seq(x[from+1], y[2+to]))
		}
		return z
	})
	o.domain = d.domain(o.union)
	return o
}

// operation returns an operation on two drafts, which goes from bit to bit. Easy tells what comes of drafts for which
// this is known without a look at their bits, and whether it is; combined tells what follows for a bit.
func (d *drafts) operation(easy func(a, b draft) (draft, bool), combined func(x, y twos) twos) func(a, b draft) draft {
	type pair struct{ a, b draft }
	work := remembered(func(p pair) draft {
		bit := min(d.bit(p.a), d.bit(p.b))
		return d.of(bit, combined(d.then(p.a, bit), d.then(p.b, bit)))
	})
	return func(a, b draft) draft {
		if c, known := easy(a, b); known {
			return c
		}
		return work(pair{a, b})
	}
}

// domain returns the operation that makes of a draft the filter of the heads for which it gives something.
func (d *drafts) domain(union func(a, b draft) draft) func(a draft) draft {
	var domain func(a draft) draft
	work := remembered(func(a draft) draft {
		bit := d.bit(a)
		x := d.then(a, bit)
		return d.of(bit, twos{0: union(domain(x[0]), domain(x[1])), 3: union(domain(x[2]), domain(x[3]))})
	})
	domain = func(a draft) draft {
		if a < firstTwig {
			return a
		}
		return work(a)
	}
	return domain
}

// star returns the draft that takes another one any number of times. This number is doubled until nothing new comes.
func (o operations) star(a draft) draft {
	all := o.union(same, a)
	for {
		more := o.seq(all, all)
		if more == all {
			return all
		}
		all = more
	}
}
