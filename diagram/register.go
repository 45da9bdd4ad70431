package diagram

import "interlace/api"

// A register numbers things: equal things have the same number.
type register[T comparable] struct {
	list    []T
	numbers map[T]int32
}

func registerOf[T comparable]() register[T] { return register[T]{numbers: map[T]int32{}} }

// number returns the number of a thing. If this would be a further one, but there is no room, it panics.
func (r *register[T]) number(x T, room bool) int32 {
	n, known := r.numbers[x]
	if known {
		return n
	}
	if !room {
		panic(api.ErrFull)
	}
	n = int32(len(r.list))
	r.list = append(r.list, x)
	r.numbers[x] = n
	return n
}

// forget takes out all things but the first ones.
func (r *register[T]) forget(first int) {
	for _, x := range r.list[first:] {
		delete(r.numbers, x)
	}
	r.list = r.list[:first]
}

// remembered returns a function that asks another one only once for each argument.
func remembered[K comparable, V any](work func(K) V) func(K) V {
	answers := map[K]V{}
	return func(k K) V {
		v, known := answers[k]
		if !known {
			v = work(k)
			answers[k] = v
		}
		return v
	}
}
