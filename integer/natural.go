package integer

import (
	"slices"
	"sort"
	"strconv"
	"strings"
)

// The groups of a natural number have four digits each, so that products of two groups and their sums fit into an int.
const (
	groupDigits = 4
	base        = 10000
)

// natural is a natural number in groups, the lowest one first, and the last one not 0.
type natural []int

// fold adds up the elements of l, from start on.
func fold[T, S any](l []T, start S, add func(S, T) S) S {
	for _, x := range l {
		start = add(start, x)
	}
	return start
}

// trim returns a without the zero groups at its end.
func (a natural) trim() natural {
	for len(a) > 0 && a[len(a)-1] == 0 {
		a = a[:len(a)-1]
	}
	return a
}

// group returns the group i, which is 0 where there is none.
func (a natural) group(i int) int {
	if 0 <= i && i < len(a) {
		return a[i]
	}
	return 0
}

func parseNatural(digits string) natural {
	var a natural
	for end := len(digits); end > 0; end -= groupDigits {
		group := 0
		for _, c := range digits[max(0, end-groupDigits):end] {
			group = 10*group + int(c-'0')
		}
		a = append(a, group)
	}
	return a.trim()
}

func (a natural) print() string {
	if len(a) == 0 {
		return "0"
	}
	s := strconv.Itoa(a[len(a)-1])
	for i := len(a) - 2; i >= 0; i-- {
		group := strconv.Itoa(a[i])
		s += strings.Repeat("0", groupDigits-len(group)) + group
	}
	return s
}

func (a natural) compare(b natural) int {
	if len(a) != len(b) {
		return sign(len(a) - len(b))
	}
	for i := len(a) - 1; i >= 0; i-- {
		if a[i] != b[i] {
			return sign(a[i] - b[i])
		}
	}
	return 0
}

func sign(n int) int {
	return min(1, max(-1, n))
}

func (a natural) plus(b natural) natural {
	sum := make(natural, max(len(a), len(b))+1)
	carry := 0
	for i := range sum {
		group := a.group(i) + b.group(i) + carry
		sum[i], carry = group%base, group/base
	}
	return sum.trim()
}

// minus returns a - b, where b is at most a.
func (a natural) minus(b natural) natural {
	rest := make(natural, len(a))
	borrow := 0
	for i := range rest {
		group := a[i] - b.group(i) - borrow
		borrow = 0
		if group < 0 {
			group, borrow = group+base, 1
		}
		rest[i] = group
	}
	return rest.trim()
}

// scaled returns a * d, where d is less than base.
func (a natural) scaled(d int) natural {
	product := make(natural, len(a)+1)
	carry := 0
	for i := range product {
		group := a.group(i)*d + carry
		product[i], carry = group%base, group/base
	}
	return product.trim()
}

// shifted returns a * base + group.
func (a natural) shifted(group int) natural {
	return append(natural{group}, a...).trim()
}

func (a natural) times(b natural) natural {
	high := slices.Clone(a)
	slices.Reverse(high)
	return fold(high, natural{}, func(sum natural, group int) natural {
		return sum.shifted(0).plus(b.scaled(group))
	})
}

// greatest returns the greatest group from low to high for which fits is true, as it is for low.
func greatest(low int, high int, fits func(d int) bool) int {
	return low + sort.Search(high-low, func(d int) bool { return !fits(low + d + 1) })
}

// bounds returns between which groups the quotient of rest and b is, judged by their first groups alone: this leaves little to search.
func bounds(rest natural, b natural) (int, int) {
	n := len(b)
	dividend := (rest.group(n)*base+rest.group(n-1))*base + rest.group(n-2)
	divisor := b[n-1]*base + b.group(n-2)
	return dividend / (divisor + 1), min(base-1, dividend/divisor)
}

// over returns the quotient and the remainder of a by b, which is not 0.
func (a natural) over(b natural) (natural, natural) {
	multiple := b.scaled
	quotient := make(natural, len(a))
	var rest natural
	for i := len(a) - 1; i >= 0; i-- {
		rest = rest.shifted(a[i])
		if rest.compare(b) < 0 {
			continue
		}
		low, high := bounds(rest, b)
		quotient[i] = greatest(low, high, func(d int) bool { return multiple(d).compare(rest) <= 0 })
		rest = rest.minus(multiple(quotient[i]))
	}
	return quotient.trim(), rest
}

// root returns the greatest natural number whose square is at most a.
func (a natural) root() natural {
	root := make(natural, (len(a)+1)/2)
	for i := len(root) - 1; i >= 0; i-- {
		root[i] = greatest(0, base-1, func(d int) bool {
			root[i] = d
			try := root.trim()
			return try.times(try).compare(a) <= 0
		})
	}
	return root.trim()
}
