package lists_test

import (
	"cmp"
	"slices"
	"testing"

	"newswire/lists"
)

func TestNumbers(t *testing.T) {
	for _, c := range []struct {
		l  []int
		ok bool
	}{{nil, true}, {[]int{0}, true}, {[]int{5}, true}, {[]int{6}, false}, {[]int{-1, 2}, false}, {[]int{1, 1}, false}, {[]int{2, 1}, false}, {[]int{0, 3, 5}, true}} {
		if lists.Numbers(c.l, 0, 5) != c.ok {
			t.Error(c.l)
		}
	}
}

func TestLists(t *testing.T) {
	odd := func(n int) bool { return n%2 == 1 }
	l := []int{1, 2, 3}
	if lists.All(l, odd) || !lists.All(l[:1], odd) || !slices.Equal(lists.Filter(l, odd), []int{1, 3}) {
		t.Error("All or Filter")
	}
	if !slices.Equal(lists.Map(l, func(n int) int { return -n }), []int{-1, -2, -3}) {
		t.Error("Map")
	}
	if m := lists.Merge([]int{1, 3, 5}, []int{2, 3, 6, 7}, cmp.Compare[int], func(x, y int) int { return x + y }); !slices.Equal(m, []int{1, 2, 6, 5, 6, 7}) {
		t.Error(m)
	}
	if lists.First(1, 2) != 1 {
		t.Error("First")
	}
}
