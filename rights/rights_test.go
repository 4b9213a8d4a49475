package rights_test

import (
	"math/rand"
	"slices"
	"testing"

	"newswire/api"
	"newswire/rights"
)

func clause(kind, work int) api.Clause {
	return api.Clause{Work: work, Kind: kind, Territories: 255, Classes: 255, To: 100}
}

func apart(a, b int) api.Clause {
	c := clause(api.CApart, a)
	c.Not = b
	return c
}

func limit(work, uses int) api.Clause {
	c := clause(api.CLimit, work)
	c.Uses = uses
	return c
}

func want(uses int, needs ...[]int) api.Want {
	return api.Want{At: 5, Uses: uses, Needs: needs}
}

func example() ([]api.Clause, []int) {
	used := make([]int, 12)
	used[2] = 8
	return []api.Clause{clause(api.COffer, 1), clause(api.COffer, 2), clause(api.COffer, 3), clause(api.CForbid, 1), apart(2, 3), limit(2, 10)}, used
}

// some returns random clauses, uses so far, and a want.
func some(r *rand.Rand) ([]api.Clause, []int, api.Want) {
	var l []api.Clause
	for range r.Intn(10) {
		c := []api.Clause{clause(api.COffer, r.Intn(4)), clause(api.COffer, r.Intn(4)), clause(api.CForbid, r.Intn(4)), limit(r.Intn(4), r.Intn(6)), apart(r.Intn(2), 2+r.Intn(2))}[r.Intn(5)]
		if r.Intn(6) == 0 {
			c.Territories = 254
		}
		l = append(l, c)
	}
	used := make([]int, 12)
	for i := range 4 {
		used[i] = r.Intn(3)
	}
	w := want(1 + r.Intn(3))
	for range 1 + r.Intn(3) {
		need := r.Perm(4)[:1+r.Intn(3)]
		slices.Sort(need)
		w.Needs = append(w.Needs, need)
	}
	return l, used, w
}

// packages returns all packages, by trying.
func packages(l []api.Clause, w api.Want) [][]int {
	all := [][]int{nil}
	for _, need := range w.Needs {
		var longer [][]int
		for _, p := range all {
			for _, work := range need {
				offered := slices.ContainsFunc(l, func(c api.Clause) bool {
					return c.Kind == api.COffer && c.Work == work && rights.Applies(c, w)
				})
				if offered && !slices.Contains(p, work) {
					longer = append(longer, append(slices.Clone(p), work))
				}
			}
		}
		all = longer
	}
	return all
}

func solve(t *testing.T, l []api.Clause, used []int, w api.Want) ([]int, []int) {
	t.Helper()
	p, core, e := rights.Solve(l, used, w)
	if e != api.OK || len(p) > 0 && len(core) > 0 {
		t.Fatal(p, core, e)
	}
	return p, core
}

func TestP29_1Examples(t *testing.T) {
	l, used := example()
	for i, c := range []struct {
		w       api.Want
		p, core []int
	}{
		{want(2, []int{1, 2}), []int{2}, nil},
		{want(3, []int{1, 2}), nil, []int{3, 5}},
		{want(1, []int{2}, []int{1, 3}), nil, []int{3, 4}},
		{want(1, []int{4}), nil, nil},
	} {
		if p, core := solve(t, l, used, c.w); !slices.Equal(p, c.p) || !slices.Equal(core, c.core) {
			t.Error(i, p, core)
		}
	}
	if b, e := rights.Broken(l, used, want(3, []int{2}, []int{3}), []int{2, 3}); !slices.Equal(b, []int{4, 5}) || e != api.OK {
		t.Error(b, e)
	}
	if !rights.Lawful(l, used, want(1, []int{2}), []int{2}) || rights.Lawful(l, used, want(1, []int{1}), []int{1}) {
		t.Error("Lawful")
	}
	if !rights.Forbids(l, used, want(1, []int{4}), nil) || rights.Forbids(l, used, want(3, []int{1, 2}), []int{3}) {
		t.Error("Forbids")
	}
}

func TestP29_1Applies(t *testing.T) {
	c := clause(api.COffer, 1)
	c.Territories, c.Classes, c.From, c.To = 2, 4, 5, 9
	w := want(1, []int{1})
	w.Reader = api.Reader{Territory: 1, Class: 2}
	for at, ok := range map[int]bool{4: false, 5: true, 9: true, 10: false} {
		w.At = at
		if rights.Applies(c, w) != ok {
			t.Error(at)
		}
	}
	w.At = 5
	for _, r := range []api.Reader{{Territory: 0, Class: 2}, {Territory: 1, Class: 1}, {Territory: 8, Class: 2}} {
		w.Reader = r
		if rights.Applies(c, w) {
			t.Error(r)
		}
	}
}

func TestP29_1Errors(t *testing.T) {
	l, used := example()
	ok := want(1, []int{2})
	for i, change := range []func(c *api.Clause){
		func(c *api.Clause) { c.Work = -1 }, func(c *api.Clause) { c.Work = 12 }, func(c *api.Clause) { c.Kind = 0 }, func(c *api.Clause) { c.Kind = 5 }, func(c *api.Clause) { c.Kind = -1 }, func(c *api.Clause) { c.Territories = 256 }, func(c *api.Clause) { c.Classes = -1 },
		func(c *api.Clause) { c.From = -1 }, func(c *api.Clause) { c.From = 101 }, func(c *api.Clause) { c.To = api.MaxTime + 1 }, func(c *api.Clause) { c.Uses = 1 }, func(c *api.Clause) { c.Not = 1 },
		func(c *api.Clause) { *c = limit(1, -1) }, func(c *api.Clause) { *c = limit(1, 1000001) }, func(c *api.Clause) { *c = limit(1, 1); c.Not = 2 }, func(c *api.Clause) { *c = apart(1, 1) }, func(c *api.Clause) { *c = apart(1, 12) }, func(c *api.Clause) { *c = apart(1, -1) }, func(c *api.Clause) { *c = apart(1, 2); c.Uses = 1 },
	} {
		k := slices.Clone(l)
		change(&k[0])
		_, _, e := rights.Solve(k, used, ok)
		_, f := rights.Broken(k, used, ok, []int{2})
		if rights.Valid(k) || e != api.ErrRights || f != api.ErrRights || rights.Forbids(k, used, ok, nil) || rights.Lawful(k, used, ok, []int{2}) || rights.Applies(k[0], ok) {
			t.Error(i, e, f)
		}
	}
	if rights.Valid(slices.Repeat(l[:1], 13)) || !rights.Valid(slices.Repeat(l[:1], 12)) {
		t.Error("the number of clauses")
	}
	for i, w := range []api.Want{{}, want(0, []int{1}), want(1000001, []int{1}), want(1), want(1, []int{}), want(1, []int{2, 1}), want(1, []int{12}), want(1, []int{-1}), want(1, []int{1, 2, 3, 4, 5}), want(1, []int{1}, []int{1}, []int{1}, []int{1}, []int{1}), {At: -1, Uses: 1, Needs: [][]int{{1}}}, {Reader: api.Reader{Class: 8}, Uses: 1, Needs: [][]int{{1}}}} {
		_, _, e := rights.Solve(l, used, w)
		if rights.ValidWant(w) || e != api.ErrRights || rights.Applies(l[0], w) {
			t.Error(i, e)
		}
	}
	for i, u := range [][]int{nil, make([]int, 11), make([]int, 13), append(make([]int, 11), -1), append(make([]int, 11), 1000001)} {
		if _, _, e := rights.Solve(l, u, ok); e != api.ErrRights {
			t.Error(i, e)
		}
	}
	for i, p := range [][]int{nil, {1}, {2, 2}, {4}} {
		if b, e := rights.Broken(l, used, ok, p); b != nil || e != api.ErrRights {
			t.Error(i, e)
		}
	}
	if _, e := rights.Broken(l, used, want(1, []int{2}, []int{2}), []int{2, 2}); e != api.ErrRights {
		t.Error("a work twice", e)
	}
	for i, core := range [][]int{{6}, {-1}, {1, 1}, {2, 1}} {
		if rights.Forbids(l, used, want(1, []int{4}), core) {
			t.Error(i)
		}
	}
}

func TestP29_2Lawful(t *testing.T) {
	r := rand.New(rand.NewSource(1))
	for range 2000 {
		l, used, w := some(r)
		p, _ := solve(t, l, used, w)
		var want []int
		for _, q := range packages(l, w) {
			if want == nil && rights.Lawful(l, used, w, q) {
				want = q
			}
		}
		if !slices.Equal(p, want) {
			t.Fatal(l, used, w, p, want)
		}
	}
}

func TestP29_3Core(t *testing.T) {
	r := rand.New(rand.NewSource(2))
	for range 2000 {
		l, used, w := some(r)
		p, core := solve(t, l, used, w)
		if len(p) > 0 {
			continue
		}
		if !rights.Forbids(l, used, w, core) {
			t.Fatal(l, w, core)
		}
		for i := range core {
			if rights.Forbids(l, used, w, slices.Delete(slices.Clone(core), i, i+1)) {
				t.Fatal("a clause is not needed", core)
			}
		}
		for m := range 1 << len(l) {
			var set []int
			for i := range l {
				if m>>i&1 == 1 {
					set = append(set, i)
				}
			}
			better := len(set) < len(core) || len(set) == len(core) && slices.Compare(set, core) < 0
			if better && rights.Forbids(l, used, w, set) {
				t.Fatal("a smaller core", set, core)
			}
		}
	}
}

func TestP29_4Further(t *testing.T) {
	r := rand.New(rand.NewSource(3))
	for range 1000 {
		l, used, w := some(r)
		offer := append(slices.Clone(l), clause(api.COffer, r.Intn(4)))
		other := append(slices.Clone(l), []api.Clause{clause(api.CForbid, r.Intn(4)), limit(r.Intn(4), r.Intn(5)), apart(0, 1)}[r.Intn(3)])
		idle := clause(1+r.Intn(3), r.Intn(4))
		idle.Classes = 0
		none := append(slices.Clone(l), idle)
		for _, p := range packages(offer, w) {
			ok := rights.Lawful(l, used, w, p)
			if ok && !rights.Lawful(offer, used, w, p) || !ok && rights.Lawful(other, used, w, p) || ok != rights.Lawful(none, used, w, p) {
				t.Fatal(l, w, p)
			}
		}
	}
}

func TestP29_5Fewer(t *testing.T) {
	r := rand.New(rand.NewSource(4))
	for range 1000 {
		l, used, w := some(r)
		fewer := make([]int, 12)
		less := w
		less.Uses = 1
		for _, p := range packages(l, w) {
			if rights.Lawful(l, used, w, p) && (!rights.Lawful(l, fewer, w, p) || !rights.Lawful(l, used, less, p)) {
				t.Fatal(l, w, p)
			}
		}
	}
	l := []api.Clause{clause(api.COffer, 1), limit(1, 5)}
	used := make([]int, 12)
	used[1] = 3
	if !rights.Lawful(l, used, want(2, []int{1}), []int{1}) || rights.Lawful(l, used, want(3, []int{1}), []int{1}) {
		t.Error("a limit")
	}
}

func TestP29_6Order(t *testing.T) {
	r := rand.New(rand.NewSource(5))
	for range 1000 {
		l, used, w := some(r)
		p, core := solve(t, l, used, w)
		mixed := slices.Clone(l)
		r.Shuffle(len(mixed), func(i, j int) { mixed[i], mixed[j] = mixed[j], mixed[i] })
		q, other := solve(t, mixed, used, w)
		if !slices.Equal(p, q) || len(core) != len(other) {
			t.Fatal(l, w)
		}
		less := w
		less.Needs = slices.Clone(w.Needs)
		i := r.Intn(len(less.Needs))
		less.Needs[i] = less.Needs[i][:1]
		if q, _ := solve(t, l, used, less); len(q) > 0 && len(p) == 0 {
			t.Fatal(l, w)
		}
	}
}

func TestP29_1Limits(t *testing.T) {
	c := api.Clause{Work: 11, Kind: api.COffer, Territories: 128, Classes: 128, From: api.MaxTime, To: api.MaxTime}
	most := limit(11, 1000000)
	most.From, most.To = api.MaxTime, api.MaxTime
	l := []api.Clause{c, most, apart(11, 0), apart(0, 11), limit(0, 0)}
	w := api.Want{Reader: api.Reader{Territory: 7, Class: 7}, At: api.MaxTime, Uses: 1000000, Needs: [][]int{{0, 9, 10, 11}, {0, 1}, {0}, {11}}}
	if !rights.Valid(l) || !rights.ValidWant(w) || !rights.Applies(c, w) {
		t.Error("the greatest numbers")
	}
	w.Needs = [][]int{{8, 9, 10, 11}}
	if p, _ := solve(t, l, make([]int, 12), w); !slices.Equal(p, []int{11}) {
		t.Error(p)
	}
	used := slices.Repeat([]int{1000000}, 12)
	if p, core := solve(t, l, used, w); len(p) != 0 || !slices.Equal(core, []int{1}) {
		t.Error(p, core)
	}
}
