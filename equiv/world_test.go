package equiv_test

import (
	"math/bits"
	"testing"

	"interlace/api"
	"interlace/equiv"
	"interlace/meaning"
	"interlace/syntax"
)

// The second way: the questions are answered with a table that says, for each head of a world, which heads of it a policy
// gives. The heads of the world have all values of its fields, and are 0 elsewhere.

const heads = 32

// headOf returns the head with a number; heads with greater numbers are greater.
func headOf(number int) api.Head {
	return api.Head{1: number >> 3 << 12, 4: number >> 1 & 3 << 14, 8: number & 1}
}

// A table has for each head those that are given for it, as bits.
type table [heads]uint32

func tableOf(t *testing.T, x api.Policy, tick int) (all table) {
	t.Helper()
	for n := range heads {
		given, e := meaning.Eval(world(), x, headOf(n), tick)
		if e != api.OK {
			t.Fatalf("the meaning of %s has the error %d", syntax.PrintPolicy(x), e)
		}
		for _, h := range given {
			number := h[1]>>12<<3 | h[4]>>14<<1 | h[8]
			if headOf(number) != h {
				t.Fatalf("%v is no head of the world", h)
			}
			all[n] |= 1 << number
		}
	}
	return all
}

// gives returns all heads that are given for one of some heads.
func (x table) gives(from uint32) (all uint32) {
	for n := range heads {
		if from>>n&1 == 1 {
			all |= x[n]
		}
	}
	return all
}

// wrong returns, for a question about two policies, whether a head shows that the answer is false.
func wrong(name string, p, q table) func(n int) bool {
	switch name {
	case "Equal":
		return func(n int) bool { return p[n] != q[n] }
	case "Includes":
		return func(n int) bool { return q[n]&^p[n] != 0 }
	case "Empty":
		return func(n int) bool { return p[n] != 0 }
	case "Total":
		return func(n int) bool { return p[n] == 0 }
	case "Single":
		return func(n int) bool { return bits.OnesCount32(p[n]) > 1 }
	case "Apart":
		return func(n int) bool { return p[n] != 0 && q[n] != 0 }
	case "Distinct":
		both := p.gives(1<<heads-1) & q.gives(1<<heads-1)
		return func(n int) bool { return both>>n&1 == 1 }
	}
	return func(n int) bool { return q.gives(p[n]) != 0 || p.gives(q[n]) != 0 }
}

// answer returns the answer that the tables give to a question.
func answer(name string, p, q table) (api.Head, bool) {
	shows := wrong(name, p, q)
	for n := range heads {
		if shows(n) {
			return headOf(n), false
		}
	}
	return api.Head{}, true
}

func TestRandomQuestions(t *testing.T) {
	m := making(1, world(), 4)
	yes, later := map[string]int{}, map[string]int{}
	for range 3000 {
		p, q, tick := m.fitting(12), m.fitting(12), m.tick()
		switch m.r.IntN(3) {
		case 0:
			q = pick(m, union(p, q), seq(filter(m.pred(3)), p), seq(p, filter(m.pred(3))))
		case 1:
			test := m.test()
			p, q = seq(filter(test), p), seq(filter(pred(api.PrNot, test)), q)
		}
		fits(t, world(), p)
		fits(t, world(), q)
		left, right := tableOf(t, p, tick), tableOf(t, q, tick)
		for _, x := range questions() {
			h, is := x.asked(t, world(), p, q, tick)
			want, wantIs := answer(x.name, left, right)
			if h != want || is != wantIs {
				t.Fatalf("%s: %s of %s and %s at %d is %v, %v, want %v, %v", x.promise, x.name, syntax.PrintPolicy(p), syntax.PrintPolicy(q), tick, h, is, want, wantIs)
			}
			if is {
				yes[x.name]++
			} else if h != (api.Head{}) {
				later[x.name]++
			}
		}
	}
	for _, x := range questions() {
		if yes[x.name] < 150 || later[x.name] < 150 {
			t.Errorf("%s: %s is true of %d random policies, and false for a head but the zero head of %d", x.promise, x.name, yes[x.name], later[x.name])
		}
	}
}

func TestRandomTicks(t *testing.T) {
	m := making(2, world(), 4)
	yes, later := 0, 0
	for range 1000 {
		p, during, test := m.fitting(14), m.window(), m.test()
		outside := pred(api.PrNot, during)
		q := pick(m, m.fitting(14), union(p, seq(filter(pred(api.PrAnd, during, test)), m.fitting(4))), seq(filter(pred(api.PrOr, test, outside)), p),
			union(seq(filter(during), p), seq(filter(outside), p)), seq(p, seq(filter(outside), union(filter(test), star(p)))))
		fits(t, world(), q)
		at, h, is, e := equiv.EqualAlways(world(), p, q)
		wantAt, want, wantIs := 0, api.Head{}, true
		for tick := 0; tick <= lastTick && wantIs; tick++ {
			if want, wantIs = answer("Equal", tableOf(t, p, tick), tableOf(t, q, tick)); !wantIs {
				wantAt = tick
			}
		}
		if at != wantAt || h != want || is != wantIs || e != api.OK {
			t.Fatalf("P15.1: EqualAlways of %s and %s is %d, %v, %v and %d, want %d, %v, %v", syntax.PrintPolicy(p), syntax.PrintPolicy(q), at, h, is, e, wantAt, want, wantIs)
		}
		if is {
			yes++
		} else if at > 0 {
			later++
		}
	}
	if yes < 200 || later < 150 {
		t.Errorf("P15.1: %d random policies are always equal, and %d are not from a later tick on", yes, later)
	}
}
