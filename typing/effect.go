package typing

import "interlace/api"

const portName = "port"

// Reads returns the fields that a policy reads.
func Reads(x api.Policy) []string {
	var fields []string
	for test := range testParts(x) {
		if test.Field != "" {
			fields = append(fields, test.Field)
		}
	}
	return ordered(fields)
}

// Writes returns the fields that a policy sets.
func Writes(x api.Policy) []string {
	var fields []string
	for part := range policyParts(x) {
		if part.Kind == api.PoSet {
			fields = append(fields, part.Field)
		}
	}
	return ordered(fields)
}

// Ports returns the ports that a policy sets.
func Ports(x api.Policy) []int {
	var ports []int
	for part := range policyParts(x) {
		if part.Kind == api.PoSet && part.Field == portName {
			ports = append(ports, part.N)
		}
	}
	return ordered(ports)
}

// Cost returns a bound on the number of heads that a policy gives.
func Cost(x api.Policy) int {
	sum := func(a, b int) int { return a + b }
	product := func(a, b int) int { return a * b }
	switch {
	case x.Kind == api.PoUnion:
		return joined(x.Args, 0, sum)
	case x.Kind == api.PoSeq:
		return joined(x.Args, 1, product)
	case x.Kind == api.PoStar && joined(x.Args, 0, sum) > 0:
		return MaxCost
	case x.Kind == api.PoFilter && x.Pred.Kind == api.PrFalse:
		return 0
	}
	return 1
}

// joined joins the costs of policies, but to no more than MaxCost, so that they stay small.
func joined(l []api.Policy, cost int, join func(a, b int) int) int {
	for _, x := range l {
		cost = min(MaxCost, join(cost, Cost(x)))
	}
	return cost
}
