package meaning

import (
	"interlace/api"
	"interlace/field"
)

// A test is the row of a part of a predicate: it says for which heads this holds.
type test struct{ holds func(h api.Head) bool }

// testOf returns the test of a predicate at a tick. It fills a table with a row for each part, behind those of its Args,
// so that a field is found once, and not for each head. The first row is for PrFalse, and for what is missing or of no
// kind.
func testOf(l []api.Field, p api.Pred, tick int) test {
	table := []test{{holds: func(api.Head) bool { return false }}}
	var fill func(x api.Pred) int
	fill = func(x api.Pred) int {
		var args [2]int
		for i := range min(len(args), len(x.Args)) {
			args[i] = fill(x.Args[i])
		}
		f, _ := field.Find(l, x.Field)
		value := func(h api.Head) int { return field.Get(f, h) }
		arg := func(i int, h api.Head) bool { return table[args[i]].holds(h) }
		var row test
		switch x.Kind {
		case api.PrTrue:
			row.holds = func(api.Head) bool { return true }
		case api.PrEq:
			row.holds = func(h api.Head) bool { return value(h) == x.N }
		case api.PrPrefix:
			rest := max(0, f.Width-x.M) // the bits behind the first ones
			row.holds = func(h api.Head) bool { return value(h)>>rest == x.N>>rest }
		case api.PrRange:
			row.holds = func(h api.Head) bool { return x.N <= value(h) && value(h) <= x.M }
		case api.PrTime:
			row.holds = func(api.Head) bool { return x.N <= tick && tick < x.M }
		case api.PrNot:
			row.holds = func(h api.Head) bool { return !arg(0, h) }
		case api.PrAnd:
			row.holds = func(h api.Head) bool { return arg(0, h) && arg(1, h) }
		case api.PrOr:
			row.holds = func(h api.Head) bool { return arg(0, h) || arg(1, h) }
		default:
			return 0
		}
		table = append(table, row)
		return len(table) - 1
	}
	whole := fill(p)
	return table[whole]
}
