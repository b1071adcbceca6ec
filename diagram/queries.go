package diagram

import (
	"koine/api"
	"koine/natural"
)

// Holds reports whether a configuration is in the set.
func Holds(a api.Diagram, c api.Config) bool {
	if Check(a) != api.OK {
		return false
	}
	n := a.Root
	for n >= firstBranch {
		b := a.Nodes[n-firstBranch]
		if c>>b.Var&1 == 0 {
			n = b.Low
		} else {
			n = b.High
		}
	}
	return n == all
}

// Support returns the conditions on which the set depends, in ascending order.
func Support(a api.Diagram) []int {
	if Check(a) != api.OK {
		return nil
	}
	var depends [api.MaxConditions]bool
	for _, b := range a.Nodes {
		depends[b.Var] = true
	}
	var support []int
	for v, is := range depends {
		if is {
			support = append(support, v)
		}
	}
	return support
}

// Least returns the least configuration of the set, as a number.
func Least(a api.Diagram) (api.Config, bool) {
	if Check(a) != api.OK || a.Root == empty {
		return 0, false
	}
	// The great conditions weigh most and are far from the root; so the least configurations of the sides come first.
	least := make([]api.Config, len(a.Nodes)+firstBranch)
	for i, b := range a.Nodes {
		low, high := least[b.Low], least[b.High]|1<<b.Var
		if b.Low == empty || b.High != empty && high < low {
			low = high
		}
		least[i+firstBranch] = low
	}
	return least[a.Root], true
}

// Count returns the number of configurations over the conditions 0 to n-1 that are in the set.
func Count(a api.Diagram, n int) (api.Nat, api.Errno) {
	if e := Check(a); e != api.OK {
		return nil, e
	}
	if n < 0 || n > api.MaxConditions {
		return nil, api.ErrArg
	}
	for _, b := range a.Nodes {
		if b.Var >= n {
			return nil, api.ErrArg
		}
	}
	switch a.Root {
	case empty:
		return natural.Of(0), api.OK
	case all:
		// 2^64 does not fit into 64 bits, but the number before it does.
		return natural.Add(natural.Of(1<<n-1), natural.Of(1))
	}
	return natural.Of(countBranches(a, n)), api.OK
}

// countBranches returns the count of a set that is neither empty nor all; so it is less than 2^64.
func countBranches(a api.Diagram, n int) uint64 {
	// A set that does not depend on a condition has one half of its configurations for each value of it.
	halves := make([]uint64, len(a.Nodes)+firstBranch)
	halves[all] = 1 << (n - 1)
	var count uint64
	for i, b := range a.Nodes {
		count = halves[b.Low] + halves[b.High]
		halves[i+firstBranch] = count / 2
	}
	return count
}
