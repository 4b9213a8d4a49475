// Package lists has what several layers do with lists.
package lists

// Ascending reports whether each element of l is less than the next one, judged by keys that are compared with less.
func Ascending[T any](l []T, less func(a, b T) bool) bool {
	for i := 1; i < len(l); i++ {
		if !less(l[i-1], l[i]) {
			return false
		}
	}
	return true
}

// Numbers reports whether l are strictly ascending numbers from least to most.
func Numbers(l []int, least int, most int) bool {
	within := len(l) == 0 || least <= l[0] && l[len(l)-1] <= most
	return within && Ascending(l, func(a, b int) bool { return a < b })
}

// All reports whether is is true of all elements of l.
func All[T any](l []T, is func(T) bool) bool {
	for _, x := range l {
		if !is(x) {
			return false
		}
	}
	return true
}

// Filter returns the elements of l for which is is true.
func Filter[T any](l []T, is func(T) bool) []T {
	var out []T
	for _, x := range l {
		if is(x) {
			out = append(out, x)
		}
	}
	return out
}

// Map returns what f makes of each element of l. With a function that copies one, it copies the list.
func Map[T, U any](l []T, f func(T) U) []U {
	var out []U
	for _, x := range l {
		out = append(out, f(x))
	}
	return out
}

// Merge joins two ascending lists: compare says which of two elements comes first, and join makes one of two that are equal in this order.
func Merge[T any](a []T, b []T, compare func(x, y T) int, join func(x, y T) T) []T {
	var out []T
	for len(a) > 0 && len(b) > 0 {
		switch order := compare(a[0], b[0]); {
		case order < 0:
			out, a = append(out, a[0]), a[1:]
		case order > 0:
			out, b = append(out, b[0]), b[1:]
		default:
			out, a, b = append(out, join(a[0], b[0])), a[1:], b[1:]
		}
	}
	return append(append(out, a...), b...)
}

// First returns the first of two elements: a join for elements that are equal.
func First[T any](x T, _ T) T {
	return x
}
