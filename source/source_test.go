package source_test

import (
	"math/rand"
	"reflect"
	"slices"
	"testing"

	"newswire/api"
	"newswire/source"
)

func named(id int, from ...int) api.Source {
	return api.Source{ID: id, Kind: api.SNamed, From: from}
}

func example() []api.Source {
	return []api.Source{named(0), named(1), named(2, 0), named(3, 0, 1), named(4, 5), named(5, 4)}
}

// some returns sources, and some of them who assert something.
func some(r *rand.Rand, n int) ([]api.Source, []int) {
	var l []api.Source
	var said []int
	for id := range n {
		s := api.Source{ID: id, Kind: 1 + r.Intn(5)/4}
		for _, from := range r.Perm(n)[:r.Intn(min(n, 3)+1)] {
			if from != id && (from < id || r.Intn(3) == 0) {
				s.From = append(s.From, from)
			}
		}
		slices.Sort(s.From)
		l = append(l, s)
		if r.Intn(2) == 0 {
			said = append(said, id)
		}
	}
	return l, said
}

// ways returns all ways to those who assert something, in order, by trying.
func ways(l []api.Source, said []int) [][]int {
	var out [][]int
	var extend func(w []int)
	extend = func(w []int) {
		last := w[len(w)-1]
		if slices.Contains(said, last) {
			out = append(out, slices.Clone(w))
		}
		for _, s := range l {
			if slices.Contains(s.From, last) && !slices.Contains(w, s.ID) {
				extend(append(slices.Clone(w), s.ID))
			}
		}
	}
	for _, s := range l {
		if len(s.From) == 0 {
			extend([]int{s.ID})
		}
	}
	return out
}

func mask(w []int) int {
	m := 0
	for _, id := range w {
		m |= 1 << id
	}
	return m
}

// most returns the first of the largest lists of ways that have nothing in common.
func most(l [][]int, used int) [][]int {
	var best [][]int
	for i, w := range l {
		if mask(w)&used != 0 {
			continue
		}
		if more := append([][]int{w}, most(l[i+1:], used|mask(w))...); len(more) > len(best) {
			best = more
		}
	}
	return best
}

// firstCut returns the cut with one ID of each way of chosen for which the positions have the least sum.
func firstCut(all [][]int, chosen [][]int) []int {
	best, sum := []int(nil), 1000
	var choose func(i int, cut []int, at int)
	choose = func(i int, cut []int, at int) {
		if i < len(chosen) {
			for p, id := range chosen[i] {
				choose(i+1, append(slices.Clone(cut), id), at+p)
			}
			return
		}
		for _, w := range all {
			if mask(w)&mask(cut) == 0 {
				return
			}
		}
		if at < sum {
			best, sum = cut, at
		}
	}
	choose(0, nil, 0)
	slices.Sort(best)
	return best
}

func TestP7_1Examples(t *testing.T) {
	l := example()
	for _, c := range []struct {
		said []int
		want api.Support
	}{
		{[]int{2, 3}, api.Support{Count: 2, Ways: [][]int{{0, 2}, {1, 3}}, Cut: []int{0, 1}}},
		{[]int{2}, api.Support{Count: 1, Ways: [][]int{{0, 2}}, Cut: []int{0}}},
		{[]int{0, 2}, api.Support{Count: 1, Ways: [][]int{{0}}, Cut: []int{0}}},
		{[]int{4, 5}, api.Support{}},
		{nil, api.Support{}},
	} {
		if s, e := source.Support(l, c.said); !reflect.DeepEqual(s, c.want) || e != api.OK {
			t.Errorf("Support of %v = %v, %d", c.said, s, e)
		}
	}
	if o, e := source.Origins(l, 3); !slices.Equal(o, []int{0, 1}) || e != api.OK {
		t.Error(o, e)
	}
	if o, e := source.Origins(l, 4); len(o) != 0 || e != api.OK {
		t.Error(o, e)
	}
	if o, e := source.Origins(l, 0); !slices.Equal(o, []int{0}) || e != api.OK {
		t.Error(o, e)
	}
}

func TestP7_1Errors(t *testing.T) {
	for _, l := range [][]api.Source{{named(-1)}, {named(12)}, {named(1), named(0)}, {named(1), named(1)}, {{ID: 0, Kind: 3}}, {{ID: 0}}, {named(0, 0)}, {named(0, 1)}, {named(0), named(1), named(2, 1, 0)}, {named(0), named(1), named(2), named(3), named(4, 0, 1, 2, 3)}} {
		if source.Valid(l) {
			t.Error(l, "is valid")
		}
		if s, e := source.Support(l, nil); s.Count != 0 || e != api.ErrSource {
			t.Error(s, e)
		}
		if source.Check(l, nil, api.Support{}) {
			t.Error("Check", l)
		}
		if _, e := source.Origins(l, 0); e != api.ErrSource {
			t.Error("Origins", l)
		}
	}
	for _, said := range [][]int{{-1}, {6}, {1, 0}, {2, 2}} {
		if s, e := source.Named(example(), said); s.Count != 0 || e != api.ErrSource {
			t.Error(said, s, e)
		}
	}
	if _, e := source.Origins(example(), 6); e != api.ErrSource {
		t.Error("Origins of nobody")
	}
	if s, ok := source.Find(example(), 3); !ok || !source.Same([]api.Source{s}, example()[3:4]) {
		t.Error(s, ok)
	}
	if s, ok := source.Find(example(), 7); ok || s.Kind != 0 {
		t.Error(s, ok)
	}
	if source.Same(example(), example()[1:]) || !source.Same(example(), example()) || source.Same(example()[:1], []api.Source{{ID: 0, Kind: 2}}) {
		t.Error("Same")
	}
}

func TestP7_1Least(t *testing.T) {
	r := rand.New(rand.NewSource(1))
	for i := range 600 {
		l, said := some(r, 1+i%7)
		all := ways(l, said)
		s, e := source.Support(l, said)
		want := most(all, 0)
		if e != api.OK || s.Count != len(want) || !reflect.DeepEqual(s.Ways, want) && len(want) > 0 || !slices.Equal(s.Cut, firstCut(all, want)) {
			t.Fatalf("%v, %v: %v, %d; want %v, %v", l, said, s, e, want, firstCut(all, want))
		}
	}
}

func TestP7_2Certificates(t *testing.T) {
	r := rand.New(rand.NewSource(2))
	for range 300 {
		l, said := some(r, 12)
		s, _ := source.Support(l, said)
		if !source.Check(l, said, s) {
			t.Fatal(l, said, s)
		}
		if s.Count == 0 {
			continue
		}
		for _, change := range []func(c *api.Support){
			func(c *api.Support) { c.Count++ },
			func(c *api.Support) { c.Cut = c.Cut[1:] },
			func(c *api.Support) { c.Count, c.Ways, c.Cut = c.Count-1, c.Ways[1:], c.Cut[1:] },
			func(c *api.Support) { c.Ways = append([][]int{c.Ways[0]}, c.Ways[:len(c.Ways)-1]...); c.Ways[0] = nil },
			func(c *api.Support) { c.Ways = append([][]int{{99}}, c.Ways[1:]...) },
			func(c *api.Support) { c.Cut = append([]int{c.Cut[0]}, c.Cut[:len(c.Cut)-1]...); c.Cut[0] = -1 },
		} {
			c := s
			change(&c)
			if source.Check(l, said, c) {
				t.Fatal("accepted:", l, said, c)
			}
		}
	}
}

func TestP7_3Copies(t *testing.T) {
	r := rand.New(rand.NewSource(3))
	for range 200 {
		l, said := some(r, 11)
		if len(said) == 0 {
			continue
		}
		s, _ := source.Support(l, said)
		more, e := source.Support(append(slices.Clone(l), named(11, said[0])), append(slices.Clone(said), 11))
		if e != api.OK || more.Count != s.Count {
			t.Fatal(l, said)
		}
	}
	if s, _ := source.Support([]api.Source{named(0), named(1), named(2), named(3)}, []int{0, 2, 3}); s.Count != 3 {
		t.Error(s)
	}
}

func TestP7_4Monotone(t *testing.T) {
	r := rand.New(rand.NewSource(4))
	for range 200 {
		l, said := some(r, 12)
		last := 0
		for i := range said {
			s, _ := source.Support(l, said[:i+1])
			if s.Count < last || s.Count > last+1 || s.Count > i+1 {
				t.Fatal(l, said)
			}
			last = s.Count
		}
	}
}

func TestP7_5Cut(t *testing.T) {
	r := rand.New(rand.NewSource(5))
	for range 150 {
		l, said := some(r, 10)
		l = append(l, named(10, 11), named(11, 10)) // these have seen nothing
		s, _ := source.Support(l, said)
		for i := range 10 {
			k := slices.Clone(l)
			k[i].From = []int{10}
			less, e := source.Support(k, said)
			d := s.Count - less.Count
			if e != api.OK || d != 1 && slices.Contains(s.Cut, i) || d != 0 && d != 1 {
				t.Fatal(l, said, i, d)
			}
		}
	}
}

func TestP7_6Named(t *testing.T) {
	r := rand.New(rand.NewSource(6))
	for range 300 {
		l, said := some(r, 8)
		s, _ := source.Support(l, said)
		n, e := source.Named(l, said)
		var rest []api.Source
		quoted := false
		for _, x := range l {
			if x.Kind == api.SNamed {
				rest = append(rest, x)
			}
			for _, id := range x.From {
				quoted = quoted || l[id].Kind == api.SWithheld
			}
		}
		if e != api.OK || n.Count > s.Count || len(rest) == len(l) && n.Count != s.Count {
			t.Fatal(l, said, s, n)
		}
		var sayers []int
		for _, id := range said {
			if l[id].Kind == api.SNamed {
				sayers = append(sayers, id)
			}
		}
		if !quoted && !source.Check(rest, sayers, n) {
			t.Fatal(l, said, n)
		}
	}
}

func TestP7_7Circles(t *testing.T) {
	l := []api.Source{named(0, 1), named(1, 2), named(2, 0), named(3, 2)}
	if s, e := source.Support(l, []int{0, 1, 2, 3}); s.Count != 0 || e != api.OK {
		t.Error(s, e)
	}
}

func TestP7_2NoWays(t *testing.T) {
	l := example()
	for i, s := range []api.Support{
		{Count: 1, Ways: [][]int{{1, 2}}, Cut: []int{2}},
		{Count: 1, Ways: [][]int{{}}, Cut: []int{0}},
		{Count: 1, Ways: [][]int{{0}}, Cut: []int{0}},
		{Count: 1, Ways: [][]int{{-1, 2}}, Cut: []int{0}},
		{Count: 1, Ways: [][]int{{2}}, Cut: []int{2}},
		{Count: 1, Ways: [][]int{{0, 2}}, Cut: []int{1}},
		{Count: 1, Ways: [][]int{{0, 2}}, Cut: []int{7}},
		{Count: 2, Ways: [][]int{{0, 2}, {0, 2}}, Cut: []int{0, 2}},
		{Count: -1},
	} {
		if source.Check(l, []int{2}, s) {
			t.Error(i, s)
		}
	}
	if source.Check(l, []int{6}, api.Support{}) || source.Check(l, []int{2}, api.Support{}) {
		t.Error("nothing is accepted")
	}
	if !source.Check(l, []int{2}, api.Support{Count: 1, Ways: [][]int{{0, 2}}, Cut: []int{2}}) {
		t.Error("another cut is refused")
	}
	if !source.Valid([]api.Source{named(0), named(1), named(2), named(11, 0, 1, 2)}) {
		t.Error("the greatest ID")
	}
}
