package kill_test

import (
	"math/rand"
	"reflect"
	"slices"
	"testing"

	"newswire/api"
	"newswire/kill"
	"newswire/locale"
	"newswire/render"
	"newswire/samples"
	"newswire/term"
)

func leaf(id, parent, kind, fact int) api.Node {
	return api.Node{ID: id, Parent: parent, Kind: kind, Fact: fact, Version: 1, Source: -1, Says: api.Statement{Whom: -1, From: -1, To: -1}}
}

func example() api.Term {
	return api.Term{Nodes: []api.Node{{Parent: -1, Kind: api.NStory}, leaf(4, 0, api.NHeadline, 2), {ID: 8, Kind: api.NTable}, leaf(5, 8, api.NRow, 2), leaf(6, 8, api.NRow, 3)}}
}

func random(r *rand.Rand) api.Term {
	return samples.Term(r.Intn, 2+r.Intn(25))
}

func killed(t *testing.T, x api.Term, fact int) (api.Term, api.Obituary) {
	t.Helper()
	y, o, e := kill.Kill(x, fact)
	if e != api.OK || !term.Valid(y) {
		t.Fatal(x, fact, e)
	}
	return y, o
}

func TestP22_1Examples(t *testing.T) {
	x := example()
	y, o := killed(t, x, 2)
	if !term.Same(y, api.Term{Nodes: []api.Node{x.Nodes[0], {ID: 4, Kind: api.NNotice, Fact: 2, Version: 1, Not: true}, x.Nodes[2], x.Nodes[4]}}) {
		t.Error(y)
	}
	root, _ := kill.Root(x)
	if !slices.Equal(o.Indices, []int{1, 3}) || !slices.Equal(o.Leaves, []api.Node{x.Nodes[1], x.Nodes[3]}) || o.Count != 5 || o.Fact != 2 || o.Root != root || len(o.Proofs) != 2 {
		t.Error(o)
	}
	if kill.States(y, 2) || !kill.States(y, 3) || !kill.States(x, 2) || kill.States(api.Term{Nodes: x.Nodes[1:]}, 2) {
		t.Error("States")
	}
	again, o := killed(t, y, 2)
	if !term.Same(again, y) || len(o.Leaves) != 0 || o.Count != 4 {
		t.Error(again, o)
	}
	if l, e := kill.Index([]api.Term{x}); !slices.Equal(l, []api.Entry{{Fact: 2, Node: 4}, {Fact: 2, Node: 5}, {Fact: 3, Node: 6}}) || e != api.OK {
		t.Error(l, e)
	}
	row := api.Term{Nodes: []api.Node{leaf(1, -1, api.NRow, 2)}}
	if y, _ := killed(t, row, 2); len(y.Nodes) != 1 || y.Nodes[0].Kind != api.NNotice {
		t.Error(y)
	}
}

func TestP22_1Errors(t *testing.T) {
	x := example()
	if s, e := kill.Root(api.Term{}); s != "" || e != api.ErrKill {
		t.Error(e)
	}
	for i, c := range []struct {
		x    api.Term
		fact int
	}{{api.Term{}, 2}, {x, -1}, {x, 16}} {
		y, o, e := kill.Kill(c.x, c.fact)
		l, p, f := kill.All([]api.Term{x, c.x}, c.fact)
		if y.Nodes != nil || o.Count != 0 || e != api.ErrKill || l != nil || p != nil || f != api.ErrKill {
			t.Error(i, e, f)
		}
	}
	many := slices.Repeat([]api.Term{x}, 21)
	_, a := kill.Index(many)
	_, _, b := kill.All(many, 2)
	_, c := kill.Index([]api.Term{{}})
	_, d := kill.Index(many[:20])
	if a != api.ErrKill || b != api.ErrKill || c != api.ErrKill || d != api.OK {
		t.Error(a, b, c, d)
	}
}

func TestP22_2NothingStatesIt(t *testing.T) {
	r := rand.New(rand.NewSource(1))
	for range 100 {
		x, fact := random(r), r.Intn(4)
		y, _ := killed(t, x, fact)
		var left []api.Node
		for _, n := range x.Nodes {
			if !(term.States(n.Kind) && n.Fact == fact) {
				left = append(left, n)
			}
		}
		var same []api.Node
		for _, n := range y.Nodes {
			if i := term.Find(x, n.ID); x.Nodes[i] == n {
				same = append(same, n)
			}
		}
		if kill.States(y, fact) || !slices.Equal(left, same) {
			t.Fatal(x, y)
		}
		for _, g := range samples.Grammars() {
			p, e := render.Render(g, y)
			if e != api.OK || slices.ContainsFunc(p.Spans, func(s api.Span) bool { return s.Fact == fact }) {
				t.Fatal(p, e)
			}
		}
	}
}

func TestP22_3ItWasThere(t *testing.T) {
	r := rand.New(rand.NewSource(2))
	for range 300 {
		x, fact := random(r), r.Intn(5)
		_, o := killed(t, x, fact)
		if !kill.Check(o) || o.Count != len(x.Nodes) {
			t.Fatal(x, o)
		}
		for i, n := range o.Leaves {
			if x.Nodes[o.Indices[i]] != n || n.Fact != fact {
				t.Fatal(n)
			}
		}
		if len(o.Leaves) == 0 && kill.States(x, fact) {
			t.Fatal(x, o)
		}
	}
}

func TestP22_4Once(t *testing.T) {
	r := rand.New(rand.NewSource(3))
	for range 300 {
		x := random(r)
		a, _ := killed(t, x, 1)
		again, o := killed(t, a, 1)
		ab, _ := killed(t, a, 2)
		b, _ := killed(t, x, 2)
		ba, _ := killed(t, b, 1)
		if !term.Same(a, again) || len(o.Leaves) != 0 || !kill.Check(o) || !term.Same(ab, ba) {
			t.Fatal(x)
		}
	}
}

func TestP22_5Commutes(t *testing.T) {
	r := rand.New(rand.NewSource(4))
	place, rates := api.Place{Offset: 60, Units: api.PImperial, Money: api.PEuros}, api.Rates{Cents: 10, Euros: 9}
	for range 300 {
		x := random(r)
		a, _ := killed(t, x, 1)
		moved, e := locale.Localize(x, place, rates)
		if e != api.OK {
			t.Fatal(e)
		}
		b, _ := killed(t, moved, 1)
		if c, e := locale.Localize(a, place, rates); e != api.OK || !term.Same(b, c) {
			t.Fatal(x)
		}
		n := x.Nodes[r.Intn(len(x.Nodes))]
		less, e := term.Remove(x, n.ID)
		if e != api.OK || term.Find(a, n.ID) < 0 {
			continue
		}
		b, _ = killed(t, less, 1)
		if c, e := term.Remove(a, n.ID); e != api.OK || !term.Same(b, c) {
			t.Fatal(x, n)
		}
	}
}

func TestP22_6Index(t *testing.T) {
	r := rand.New(rand.NewSource(5))
	for range 50 {
		var l []api.Term
		var want []api.Entry
		for i := range 5 {
			x := random(r)
			l = append(l, x)
			for _, n := range x.Nodes {
				if term.States(n.Kind) {
					want = append(want, api.Entry{Fact: n.Fact, Term: i, Node: n.ID})
				}
			}
		}
		slices.SortStableFunc(want, func(a, b api.Entry) int { return 100*(a.Fact-b.Fact) + a.Term - b.Term })
		got, e := kill.Index(l)
		if e != api.OK || !slices.Equal(got, want) {
			t.Fatal(got, want, e)
		}
		m, o, e := kill.All(l, 2)
		if e != api.OK || len(o) != len(l) {
			t.Fatal(e)
		}
		for i, x := range l {
			if y, p := killed(t, x, 2); !term.Same(y, m[i]) || !reflect.DeepEqual(p, o[i]) {
				t.Fatal(x)
			}
		}
		left, _ := kill.Index(m)
		want = slices.DeleteFunc(want, func(x api.Entry) bool { return x.Fact == 2 })
		if !slices.Equal(left, want) {
			t.Fatal(left, want)
		}
	}
}

func TestP22_7Refused(t *testing.T) {
	r := rand.New(rand.NewSource(6))
	for range 200 {
		x := random(r)
		_, o := killed(t, x, 1)
		if len(o.Leaves) == 0 {
			continue
		}
		for i, change := range []func(o *api.Obituary){
			func(o *api.Obituary) { o.Leaves[0].Says.Who = (o.Leaves[0].Says.Who + 1) % 20 }, func(o *api.Obituary) { o.Leaves[0].Version = 0 }, func(o *api.Obituary) { o.Leaves[0].Fact = 2 }, func(o *api.Obituary) { o.Leaves[0].ID = 5555 },
			func(o *api.Obituary) { o.Indices[0]-- }, func(o *api.Obituary) { o.Indices[0] = o.Count }, func(o *api.Obituary) { o.Count = 0 }, func(o *api.Obituary) { o.Count = 41 }, func(o *api.Obituary) { o.Fact = 16 }, func(o *api.Obituary) { o.Fact = 2 },
			func(o *api.Obituary) { o.Proofs[0] = o.Proofs[0][1:] }, func(o *api.Obituary) { o.Proofs[0][0] = o.Root }, func(o *api.Obituary) { o.Root = o.Root[1:] + "x" }, func(o *api.Obituary) { o.Proofs = o.Proofs[1:] }, func(o *api.Obituary) { o.Leaves = o.Leaves[1:] }, func(o *api.Obituary) { o.Indices = append(o.Indices, o.Indices[0]) },
		} {
			_, p := killed(t, x, 1)
			change(&p)
			if kill.Check(p) {
				t.Fatal(i, "is accepted")
			}
		}
	}
}

func TestP22_1Limits(t *testing.T) {
	x := api.Term{Nodes: []api.Node{{Parent: -1, Kind: api.NStory}}}
	for i := range 39 {
		x.Nodes = append(x.Nodes, leaf(i+1, 0, api.NSentence, 15*(i%2)))
	}
	for _, fact := range []int{0, 15} {
		if _, o := killed(t, x, fact); !kill.Check(o) || o.Count != 40 || len(o.Leaves) < 19 {
			t.Error(fact)
		}
	}
	one := api.Term{Nodes: []api.Node{leaf(1, -1, api.NSentence, 3)}}
	_, o := killed(t, one, 3)
	if !kill.Check(o) || o.Count != 1 {
		t.Error(o)
	}
	for i, change := range []func(o *api.Obituary){func(o *api.Obituary) { o.Fact = -1 }, func(o *api.Obituary) { o.Indices = []int{-1} }, func(o *api.Obituary) { o.Indices = []int{1} }, func(o *api.Obituary) { o.Indices = nil }, func(o *api.Obituary) { o.Leaves = nil }, func(o *api.Obituary) { o.Proofs = nil }, func(o *api.Obituary) { o.Leaves[0].Kind = api.NNotice }} {
		_, p := killed(t, one, 3)
		change(&p)
		if kill.Check(p) {
			t.Error(i)
		}
	}
}
