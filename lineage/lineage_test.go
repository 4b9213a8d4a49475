package lineage_test

import (
	"math/rand"
	"reflect"
	"slices"
	"testing"

	"newswire/api"
	"newswire/edit"
	"newswire/lineage"
	"newswire/samples"
	"newswire/term"
)

func leaf(id, fact, version int) api.Node {
	return api.Node{ID: id, Kind: api.NSentence, Fact: fact, Version: version, Source: -1, Says: api.Statement{Whom: -1, From: -1, To: -1}}
}

func story(nodes ...api.Node) api.Term {
	return api.Term{Nodes: append([]api.Node{{Parent: -1, Kind: api.NStory}}, nodes...)}
}

func own(id int) api.Edit { return api.Edit{Kind: api.EOwn, Node: id, Text: "so we say"} }

func must(t *testing.T, f api.Family, e api.Errno) api.Family {
	t.Helper()
	if e != api.OK || !lineage.Valid(f) {
		t.Fatal(e, f)
	}
	return f
}

// example is the document's family: a story, a copy of it, and a copy of this in which the first sentence was replaced.
func example(t *testing.T) api.Family {
	t.Helper()
	f, e := lineage.New(story(leaf(1, 3, 1), leaf(2, 3, 1)))
	f = must(t, f, e)
	f, e = lineage.Derive(f, 0, nil)
	f = must(t, f, e)
	f, e = lineage.Derive(f, 1, []api.Edit{own(1)})
	return must(t, f, e)
}

func corrected(t *testing.T, f api.Family, x api.Term) api.Family {
	t.Helper()
	g, e := lineage.Correct(f, x)
	return must(t, g, e)
}

func newest(t *testing.T, f api.Family, copy int) api.Term {
	t.Helper()
	x, e := lineage.Newest(f, copy)
	if e != api.OK {
		t.Fatal(e)
	}
	return x
}

// bumped is x with further versions of some leaves, and some leaves removed.
func bumped(r *rand.Rand, x api.Term, remove bool) api.Term {
	for _, n := range x.Nodes {
		y, e := x, api.OK
		switch {
		case !term.States(n.Kind) || r.Intn(2) == 0:
		case remove && r.Intn(4) == 0:
			y, e = term.Remove(x, n.ID)
		default:
			n.Version = 1 + n.Version%8
			n.Says.Who = r.Intn(20)
			y, e = term.Replace(x, n)
		}
		if e == api.OK {
			x = y
		}
	}
	return x
}

// random is a family of copies with edits, in which the desk has corrected its story several times.
func random(t *testing.T, r *rand.Rand) api.Family {
	t.Helper()
	f, e := lineage.New(samples.Term(r.Intn, 10))
	f = must(t, f, e)
	for range 1 + r.Intn(4) {
		of := r.Intn(len(f.Copies))
		x := newest(t, f, of)
		var l []api.Edit
		for range r.Intn(3) {
			id := x.Nodes[r.Intn(len(x.Nodes))].ID
			k := []api.Edit{{Kind: api.ECut, Node: id}, own(id)}[r.Intn(2)]
			if y, _, e := edit.Apply(x, []api.Edit{k}); e == api.OK {
				x, l = y, append(l, k)
			}
		}
		f, e = lineage.Derive(f, of, l)
		f = must(t, f, e)
	}
	for range 1 + r.Intn(3) {
		f = corrected(t, f, bumped(r, newest(t, f, 0), true))
	}
	return f
}

func TestP21_1Examples(t *testing.T) {
	f := example(t)
	f = corrected(t, f, story(leaf(1, 3, 2), leaf(2, 3, 2)))
	if l := lineage.Shows(f, 3); !reflect.DeepEqual(l, [][2]int{{0, 2}, {1, 1}, {2, 1}}) {
		t.Error(l)
	}
	g, r, e := lineage.Deliver(f, 1, 1)
	g = must(t, g, e)
	d, _ := term.Digest(newest(t, f, 0))
	if r.Copy != 1 || r.Got != 1 || r.Number != 1 || len(r.Conflicts) != 0 || r.Digest != d {
		t.Error(r)
	}
	h, l, e := lineage.Settle(g)
	h = must(t, h, e)
	if s := lineage.Shows(h, 3); !reflect.DeepEqual(s, [][2]int{{0, 2}, {1, 2}, {2, 2}}) {
		t.Error(s)
	}
	if len(l) != 2 || !slices.Equal(l[1].Conflicts, []api.Conflict{{Node: 1, Fact: 3, Version: 2}}) || !slices.Equal(h.Copies[2].Conflicts, l[1].Conflicts) {
		t.Error(l)
	}
	x := newest(t, h, 2)
	if len(x.Nodes) != 4 || x.Nodes[1].Kind != api.NOwn || x.Nodes[2].Kind != api.NNotice || x.Nodes[3] != leaf(2, 3, 2) {
		t.Error(x)
	}
	if same := corrected(t, h, newest(t, h, 0)); !lineage.Same(same, h) {
		t.Error("the same correction")
	}
	if lineage.Same(f, g) || !lineage.Same(g, g) {
		t.Error("Same")
	}
}

func TestP21_1Errors(t *testing.T) {
	f := corrected(t, example(t), story(leaf(1, 3, 2), leaf(2, 3, 2)))
	for i, change := range []func(f *api.Family){
		func(f *api.Family) { f.Copies = nil }, func(f *api.Family) { f.Copies[0].Of = 0 }, func(f *api.Family) { f.Copies[0].Base = 1 }, func(f *api.Family) { f.Copies[0].Got = 1 }, func(f *api.Family) { f.Copies[0].Edits = []api.Edit{own(1)} }, func(f *api.Family) { f.Copies[0].Conflicts = []api.Conflict{{}} },
		func(f *api.Family) { f.Copies[0].Terms = nil }, func(f *api.Family) { f.Copies[1].Terms = nil }, func(f *api.Family) { f.Copies[0].Terms = slices.Repeat(f.Copies[0].Terms, 6) }, func(f *api.Family) { f.Copies[0].Terms[1] = f.Copies[0].Terms[0] },
		func(f *api.Family) {
			f.Copies[0].Terms[1] = api.Term{Nodes: []api.Node{{ID: 5, Parent: -1, Kind: api.NStory}}}
		}, func(f *api.Family) { f.Copies[0].Terms[1] = api.Term{Nodes: []api.Node{{Parent: -1, Kind: api.NList}}} },
		func(f *api.Family) { f.Copies[1].Of = 1 }, func(f *api.Family) { f.Copies[1].Of = -1 }, func(f *api.Family) { f.Copies[1].Base = -1 }, func(f *api.Family) { f.Copies[1].Base = 1 }, func(f *api.Family) { f.Copies[1].Got = 2 }, func(f *api.Family) { f.Copies[1].Got = 1 },
		func(f *api.Family) { f.Copies[1].Edits = []api.Edit{own(1)} }, func(f *api.Family) { f.Copies[2].Edits = nil }, func(f *api.Family) { f.Copies[2].Edits = []api.Edit{own(9)} }, func(f *api.Family) { f.Copies[2].Conflicts = []api.Conflict{{Node: 1}} }, func(f *api.Family) { f.Copies[1].Terms = append(f.Copies[1].Terms, f.Copies[0].Terms[1]) },
	} {
		g, _ := lineage.Derive(f, 0, nil)
		change(&g)
		_, a := lineage.Derive(g, 0, nil)
		_, b := lineage.Correct(g, story())
		_, _, c := lineage.Deliver(g, 1, 0)
		_, _, d := lineage.Settle(g)
		_, e := lineage.Newest(g, 0)
		if lineage.Valid(g) || a != api.ErrLineage || b != api.ErrLineage || c != api.ErrLineage || d != api.ErrLineage || e != api.ErrLineage || lineage.Shows(g, 3) != nil {
			t.Error(i, a, b, c, d, e)
		}
	}
	for i, x := range []api.Term{{}, {Nodes: []api.Node{{Parent: -1, Kind: api.NList}}}} {
		if g, e := lineage.New(x); g.Copies != nil || e != api.ErrLineage {
			t.Error(i, e)
		}
	}
	for i, do := range []func() (api.Family, api.Errno){
		func() (api.Family, api.Errno) { return lineage.Derive(f, -1, nil) }, func() (api.Family, api.Errno) { return lineage.Derive(f, 3, nil) }, func() (api.Family, api.Errno) { return lineage.Derive(f, 0, []api.Edit{own(9)}) }, func() (api.Family, api.Errno) { return lineage.Derive(f, 0, make([]api.Edit, 21)) },
		func() (api.Family, api.Errno) { return lineage.Correct(f, api.Term{}) }, func() (api.Family, api.Errno) {
			return lineage.Correct(f, api.Term{Nodes: []api.Node{{ID: 5, Parent: -1, Kind: api.NStory}}})
		},
		func() (api.Family, api.Errno) { g, _, e := lineage.Deliver(f, 0, 0); return g, e }, func() (api.Family, api.Errno) { g, _, e := lineage.Deliver(f, 3, 0); return g, e }, func() (api.Family, api.Errno) { g, _, e := lineage.Deliver(f, 1, 2); return g, e }, func() (api.Family, api.Errno) { g, _, e := lineage.Deliver(f, 1, -1); return g, e },
	} {
		if g, e := do(); g.Copies != nil || e != api.ErrLineage {
			t.Error(i, e)
		}
	}
	for _, i := range []int{-1, 3} {
		if x, e := lineage.Newest(f, i); x.Nodes != nil || e != api.ErrLineage {
			t.Error(i, e)
		}
	}
	for range 3 {
		g, e := lineage.Derive(f, 0, nil)
		f = must(t, g, e)
	}
	if _, e := lineage.Derive(f, 0, nil); e != api.ErrLineage {
		t.Error("seven copies", e)
	}
	for v := range 8 {
		f = corrected(t, f, story(leaf(1, 3, 1+v%8)))
	}
	if _, e := lineage.Correct(f, story()); e != api.ErrLineage {
		t.Error("eleven terms", e)
	}
}

// without is n without its parent.
func without(n api.Node) api.Node {
	n.Parent = 0
	return n
}

func TestP21_2EveryCopy(t *testing.T) {
	r := rand.New(rand.NewSource(1))
	for range 200 {
		f := random(t, r)
		g, _, e := lineage.Settle(f)
		if e != api.OK {
			continue
		}
		for _, c := range g.Copies[1:] {
			base, now := g.Copies[c.Of].Terms[c.Base], newest(t, g, c.Of)
			x := c.Terms[len(c.Terms)-1]
			for _, n := range x.Nodes {
				i, j := term.Find(base, n.ID), term.Find(now, n.ID)
				if !term.Leaf(n.Kind) || i < 0 || !term.Leaf(base.Nodes[i].Kind) {
					continue
				}
				same := j >= 0 && without(now.Nodes[j]) == without(n)
				still := j >= 0 && without(now.Nodes[j]) == without(base.Nodes[i])
				if !same && !still && !slices.ContainsFunc(c.Conflicts, func(k api.Conflict) bool { return k.Node == n.ID }) {
					t.Fatal(n, c.Conflicts)
				}
			}
		}
	}
}

func TestP21_3AnyOrder(t *testing.T) {
	r := rand.New(rand.NewSource(2))
	for range 200 {
		f := random(t, r)
		last := len(f.Copies[0].Terms) - 1
		at := slices.IndexFunc(f.Copies, func(c api.Copy) bool { return c.Of == 0 })
		a, _, e := lineage.Deliver(f, at, last)
		if e != api.OK {
			continue
		}
		b := f
		for range 4 {
			if c, _, e := lineage.Deliver(b, at, r.Intn(last+1)); e == api.OK {
				b = must(t, c, e)
			}
		}
		b, x, e := lineage.Deliver(b, at, last)
		c, y, g := lineage.Deliver(b, at, r.Intn(last+1))
		if e != api.OK || g != api.OK || !term.Same(newest(t, a, at), newest(t, b, at)) || !lineage.Same(b, c) || !reflect.DeepEqual(x, y) || !slices.Equal(a.Copies[at].Conflicts, b.Copies[at].Conflicts) {
			t.Fatal(e, g)
		}
	}
}

func TestP21_4Receipts(t *testing.T) {
	r := rand.New(rand.NewSource(3))
	for range 100 {
		f := random(t, r)
		g, l, e := lineage.Settle(f)
		if e != api.OK {
			continue
		}
		for i, c := range g.Copies[1:] {
			d, _ := term.Digest(newest(t, g, i+1))
			if k := l[i]; k.Copy != i+1 || k.Got != len(g.Copies[c.Of].Terms)-1 || k.Number != len(c.Terms)-1 || k.Digest != d || !slices.Equal(k.Conflicts, c.Conflicts) {
				t.Fatal(k)
			}
		}
		if h, k, e := lineage.Settle(g); e != api.OK || !lineage.Same(g, h) || !reflect.DeepEqual(k, l) {
			t.Fatal("a second time", e)
		}
	}
}

func TestP21_5Shows(t *testing.T) {
	r := rand.New(rand.NewSource(4))
	for range 50 {
		f := random(t, r)
		for fact := range 5 {
			var want [][2]int
			for i := range f.Copies {
				for _, k := range term.Facts(newest(t, f, i)) {
					if k[0] == fact {
						want = append(want, [2]int{i, k[1]})
					}
				}
			}
			if l := lineage.Shows(f, fact); !slices.Equal(l, want) {
				t.Fatal(l, want)
			}
		}
	}
}

func TestP21_6WithoutEdits(t *testing.T) {
	r := rand.New(rand.NewSource(5))
	for range 100 {
		f, e := lineage.New(samples.Term(r.Intn, 10))
		f = must(t, f, e)
		for of := range 3 {
			f, e = lineage.Derive(f, of, nil)
			f = must(t, f, e)
			f = corrected(t, f, bumped(r, newest(t, f, 0), false))
		}
		g, _, e := lineage.Settle(f)
		g = must(t, g, e)
		for i := range g.Copies {
			if !term.Same(newest(t, g, i), newest(t, g, 0)) {
				t.Fatal(i)
			}
		}
	}
}

func TestP21_7Others(t *testing.T) {
	r := rand.New(rand.NewSource(6))
	for range 50 {
		f := random(t, r)
		if len(f.Copies) == 6 {
			continue
		}
		more, e := lineage.Derive(f, r.Intn(len(f.Copies)), nil)
		more = must(t, more, e)
		a, k, e := lineage.Settle(f)
		b, l, g := lineage.Settle(more)
		if e != api.OK || g != api.OK {
			continue
		}
		b.Copies = b.Copies[:len(b.Copies)-1]
		if !lineage.Same(a, b) || !reflect.DeepEqual(k, l[:len(k)]) {
			t.Fatal("a copy plays a part for others")
		}
	}
	f := example(t)
	g := corrected(t, f, story(leaf(2, 3, 1)))
	g.Copies[2].Edits[0].Text = "x"
	g.Copies[0].Terms[0].Nodes[1].Fact = 9
	if !lineage.Same(f, example(t)) {
		t.Error("a result shares memory with an argument")
	}
}
