package rights

import (
	"iter"
	"math/bits"
	"slices"
)

// set is a set of indices of clauses, each of which is a bit.
type set uint16

func setOf(indices []int) set {
	var s set
	for _, i := range indices {
		s |= 1 << i
	}
	return s
}

func (s set) indices() []int {
	var l []int
	for rest := s; rest != 0; rest &= rest - 1 {
		l = append(l, bits.TrailingZeros16(uint16(rest)))
	}
	return l
}

// packages yields all packages, in order.
func (d demand) packages() iter.Seq[[]int] {
	return func(yield func([]int) bool) {
		var extend func(works []int) bool
		extend = func(works []int) bool {
			if len(works) == len(d.want.Needs) {
				return yield(slices.Clone(works))
			}
			for _, work := range d.want.Needs[len(works)] {
				if !has(works, work) && d.offered(work) && !extend(append(slices.Clip(works), work)) {
					return false
				}
			}
			return true
		}
		extend(nil)
	}
}

// subsets yields all sets of so many of n indices, ordered by their indices.
func subsets(size int, n int) iter.Seq[set] {
	return func(yield func(set) bool) {
		var choose func(s set, from int, left int) bool
		choose = func(s set, from int, left int) bool {
			if left == 0 {
				return yield(s)
			}
			for i := from; i <= n-left; i++ {
				if !choose(s|1<<i, i+1, left-1) {
					return false
				}
			}
			return true
		}
		choose(0, 0, size)
	}
}

// smallest returns the smallest set of n clauses that has one in common with each of the sets, none of which is empty.
func smallest(sets []set, n int) set {
	for size := range n + 1 {
		for s := range subsets(size, n) {
			if _, missed := first(sets, func(broken set) bool { return broken&s == 0 }); !missed {
				return s
			}
		}
	}
	return 0
}
