package ratio

import (
	"slices"

	"interlace/api"
)

// A row of the table of Solve has its elements, its b, and its mark: how the row is combined of the given ones.
type row = []api.Ratio

// formed reports whether a system is formed.
func formed(a [][]api.Ratio, b []api.Ratio) bool {
	n := columns(a)
	other := func(l []api.Ratio) bool { return len(l) != n }
	return len(a) <= MaxRows && n <= MaxRows && len(b) == len(a) && !slices.ContainsFunc(a, other)
}

// columns returns the number of columns of a system.
func columns(a [][]api.Ratio) int {
	if len(a) == 0 {
		return 0
	}
	return len(a[0])
}

// Solve solves a system. The order of its operations decides which solution it finds, and whether a number becomes too
// large on the way.
func Solve(a [][]api.Ratio, b []api.Ratio) ([]api.Ratio, []api.Ratio, api.Errno) {
	if !formed(a, b) {
		return nil, nil, api.ErrArg
	}
	n, rows, do := columns(a), tableOf(a, b), changer()
	heads, e := eliminate(rows, n, do)
	if e != api.OK {
		return nil, nil, e
	}
	for _, r := range rows[len(heads):] {
		if r[n].N == 0 {
			continue
		}
		y := r[n+1:]
		if e := divide(y, r[n], do); e != api.OK {
			return nil, nil, e
		}
		return nil, y, api.ErrInfeasible
	}
	x := slices.Repeat(row{whole(0)}, n)
	for i, c := range heads {
		x[c] = rows[i][n]
	}
	return x, nil, api.OK
}

// tableOf returns the table of a system.
func tableOf(a [][]api.Ratio, b []api.Ratio) []row {
	rows := make([]row, len(a))
	for i := range a {
		mark := slices.Repeat(row{whole(0)}, len(a))
		mark[i] = whole(1)
		rows[i] = slices.Concat(a[i], b[i:i+1], mark)
	}
	return rows
}

// A change replaces the elements of a row, in order, by what a function returns for their places. It returns the first
// error of all its calls, after which it changes nothing more.
type change func(r row, f func(k int) (api.Ratio, api.Errno)) api.Errno

// changer returns a change for one table.
func changer() change {
	first := api.OK
	return func(r row, f func(k int) (api.Ratio, api.Errno)) api.Errno {
		for k := range r {
			if first != api.OK {
				break
			}
			r[k], first = f(k)
		}
		return first
	}
}

// divide divides all elements of a row.
func divide(r row, by api.Ratio, do change) api.Errno {
	return do(r, func(k int) (api.Ratio, api.Errno) { return Div(r[k], by) })
}

// subtract subtracts a multiple of another row from a row.
func subtract(r row, times api.Ratio, other row, do change) api.Errno {
	return do(r, func(k int) (api.Ratio, api.Errno) {
		product, e := Mul(times, other[k])
		if e != api.OK {
			return api.Ratio{}, e
		}
		return Sub(r[k], product)
	})
}

// eliminate uses a row for each of the first n columns, as far as there are any, and returns the columns of the rows
// that it used, which come first.
func eliminate(rows []row, n int, do change) ([]int, api.Errno) {
	var heads []int
columns:
	for c := range n {
		used := len(heads)
		for i := used; ; i++ {
			if i >= len(rows) {
				continue columns
			}
			if rows[i][c].N != 0 {
				rows[used], rows[i] = rows[i], rows[used]
				break
			}
		}
		head := rows[used]
		e := divide(head, head[c], do)
		for i, r := range rows {
			if i != used && r[c].N != 0 {
				e = subtract(r, r[c], head, do)
			}
		}
		if e != api.OK {
			return nil, e
		}
		heads = append(heads, c)
	}
	return heads, api.OK
}

// Holds checks a solution.
func Holds(a [][]api.Ratio, b, x []api.Ratio) api.Errno {
	if !formed(a, b) || len(x) != columns(a) {
		return api.ErrArg
	}
	for i, r := range a {
		if e := expect(r, x, b[i]); e != api.OK {
			return e
		}
	}
	return api.OK
}

// Refutes checks that there is no solution.
func Refutes(a [][]api.Ratio, b, y []api.Ratio) api.Errno {
	if !formed(a, b) || len(y) != len(a) {
		return api.ErrArg
	}
	for c := range columns(a) {
		column := make([]api.Ratio, len(a))
		for i, r := range a {
			column[i] = r[c]
		}
		if e := expect(y, column, whole(0)); e != api.OK {
			return e
		}
	}
	return expect(y, b, whole(1))
}

// expect checks the sum of the products of two lists.
func expect(a, b []api.Ratio, want api.Ratio) api.Errno {
	sum, e := Dot(a, b)
	switch {
	case e != api.OK:
		return e
	case sum != want:
		return api.ErrCorrupt
	}
	return api.OK
}
