package brief_test

import (
	"math/rand"
	"reflect"
	"slices"
	"testing"

	"newswire/api"
	"newswire/brief"
	"newswire/render"
	"newswire/samples"
	"newswire/term"
)

var worths = []api.Worth{{Fact: 3, Value: 2}}

func example() api.Term {
	says := api.Statement{Whom: -1, From: -1, To: -1}
	counted, met := says, says
	counted.Count = api.Amount{Lo: 3, Hi: 3, Unit: api.UPeople}
	met.Whom = 1
	return api.Term{Nodes: []api.Node{
		{Parent: -1, Kind: api.NStory},
		{ID: 4, Kind: api.NSentence, Fact: 2, Source: -1, Says: counted},
		{ID: 5, Kind: api.NSentence, Fact: 3, Source: -1, Says: met},
	}}
}

func someWorths(r *rand.Rand, least int) []api.Worth {
	var l []api.Worth
	for f := range 4 {
		if r.Intn(2) == 0 {
			l = append(l, api.Worth{Fact: f, Value: least + r.Intn(4)})
		}
	}
	return l
}

func length(t *testing.T, g api.Grammar, x api.Term) int {
	t.Helper()
	p, e := render.Render(g, x)
	if e != api.OK {
		t.Fatal(e)
	}
	return len(render.Words(p))
}

// all returns all cut-downs of x, in the order in which they are to be preferred.
func all(x api.Term) []api.Term {
	var out []api.Term
	var choose func(i int, nodes []api.Node)
	choose = func(i int, nodes []api.Node) {
		if i == len(x.Nodes) {
			b := api.Term{Nodes: slices.Clone(nodes)}
			for _, n := range nodes {
				if !term.Leaf(n.Kind) && n.Parent != -1 && len(term.Children(b, n.ID)) == 0 {
					return
				}
			}
			if term.Valid(b) {
				out = append(out, b)
			}
			return
		}
		n := x.Nodes[i]
		for form := range 4 {
			m := n
			if s, ok := brief.Reduce(n.Says, form); term.States(n.Kind) && ok {
				m.Says = s
			} else if form > 0 {
				continue
			}
			choose(i+1, append(slices.Clone(nodes), m))
		}
		if n.Kind != api.NNotice && i > 0 {
			choose(i+1, nodes)
		}
	}
	choose(0, nil)
	return out
}

func TestP17_1Examples(t *testing.T) {
	g, x := samples.Small(), example()
	short := x.Nodes[1]
	short.Says.Count = api.Amount{}
	for _, c := range []struct {
		limit, value, words int
		nodes               []api.Node
	}{{16, 12, 16, x.Nodes}, {15, 10, 13, []api.Node{x.Nodes[0], short, x.Nodes[2]}}, {9, 8, 9, []api.Node{x.Nodes[0], x.Nodes[2]}}, {8, 2, 6, []api.Node{x.Nodes[0], short}}, {2, 0, 2, x.Nodes[:1]}} {
		b, e := brief.Cut(g, x, worths, c.limit)
		v, n, f := brief.Value(g, x, worths, b)
		if !slices.Equal(b.Nodes, c.nodes) || v != c.value || n != c.words || e != api.OK || f != api.OK {
			t.Error(c.limit, b, v, n, e, f)
		}
	}
	if b, e := brief.Cut(g, x, worths, 1); b.Nodes != nil || e != api.ErrBrief {
		t.Error(b, e)
	}
	for limit, want := range map[int]api.Node{7: x.Nodes[2], 6: short, 4: short} {
		want.ID, want.Parent, want.Kind = 0, -1, api.NHeadline
		if n, e := brief.Headline(g, x, worths, limit); n != want || e != api.OK {
			t.Error(limit, n, e)
		}
	}
	if n, e := brief.Headline(g, x, worths, 3); n != (api.Node{}) || e != api.ErrBrief {
		t.Error(n, e)
	}
}

func TestP17_1Forms(t *testing.T) {
	s := api.Statement{Whom: -1, Count: api.Amount{Lo: 1, Hi: 2, Unit: 1}, From: 3, To: 4}
	for form, want := range []api.Statement{s, {Whom: -1, Count: s.Count, From: -1, To: -1}, {Whom: -1, From: 3, To: 4}, {Whom: -1, From: -1, To: -1}} {
		if u, ok := brief.Reduce(s, form); u != want || !ok || !brief.Reduces(s, u) {
			t.Error(form, u, ok)
		}
	}
	bare := api.Statement{Whom: -1, From: -1, To: -1}
	for _, form := range []int{-1, 1, 2, 3, 4} {
		if u, ok := brief.Reduce(bare, form); ok || u != (api.Statement{}) {
			t.Error(form, u)
		}
	}
	if brief.Reduces(bare, s) || !brief.Reduces(bare, bare) {
		t.Error("Reduces")
	}
}

func TestP17_1Errors(t *testing.T) {
	g, x := samples.Small(), example()
	far := example()
	far.Nodes[1].Says.Who = 7
	bounds, _ := brief.Certify(g, x, worths, 20)
	for i, c := range []struct {
		g     api.Grammar
		x     api.Term
		l     []api.Worth
		limit int
	}{{api.Grammar{}, x, worths, 20}, {g, api.Term{}, worths, 20}, {g, far, worths, 20}, {g, x, []api.Worth{{Fact: 16}}, 20}, {g, x, []api.Worth{{Value: 101}}, 20}, {g, x, []api.Worth{{Value: -1}}, 20}, {g, x, []api.Worth{{Fact: 2}, {Fact: 2}}, 20}, {g, x, worths, -1}, {g, x, worths, 401}} {
		_, a := brief.Cut(c.g, c.x, c.l, c.limit)
		_, b := brief.Certify(c.g, c.x, c.l, c.limit)
		_, d := brief.Headline(c.g, c.x, c.l, c.limit)
		_, _, f := brief.Value(c.g, c.x, c.l, x)
		if a != api.ErrBrief || b != api.ErrBrief || d != api.ErrBrief || f != api.ErrBrief && i < 7 || brief.Check(c.g, c.x, c.l, c.limit, x, bounds) {
			t.Error(i, a, b, d, f)
		}
	}
}

func TestP17_1CutDowns(t *testing.T) {
	r := rand.New(rand.NewSource(1))
	g := samples.Grammar(1)
	for range 100 {
		x := samples.Term(r.Intn, 6)
		for _, b := range all(x) {
			if _, n, e := brief.Value(g, x, nil, b); e != api.OK || n != length(t, g, b) {
				t.Fatal(x, b, e)
			}
			y := api.Term{Nodes: slices.Clone(b.Nodes)}
			k := &y.Nodes[r.Intn(len(y.Nodes))]
			switch {
			case term.States(k.Kind) && r.Intn(2) == 0:
				k.Version = 8
			case term.States(k.Kind):
				k.Says.What = (k.Says.What + 1) % 10
			default:
				k.ID += 1000
			}
			if v, n, e := brief.Value(g, x, nil, y); v != 0 || n != 0 || e != api.ErrBrief {
				t.Fatal(x, y)
			}
		}
	}
	x := api.Term{Nodes: []api.Node{{Parent: -1, Kind: api.NStory}, {ID: 1, Kind: api.NParagraph}, {ID: 2, Parent: 1, Kind: api.NNotice}, {ID: 3, Kind: api.NParagraph}, {ID: 4, Parent: 3, Kind: api.NOwn, Text: "x"}}}
	for _, b := range []api.Term{{Nodes: x.Nodes[:2]}, {Nodes: x.Nodes[:4]}, {Nodes: x.Nodes[1:3]}, {}} {
		if _, _, e := brief.Value(g, x, nil, b); e != api.ErrBrief {
			t.Error(b, e)
		}
	}
	if _, n, e := brief.Value(g, x, nil, api.Term{Nodes: x.Nodes[:3]}); n != 5 || e != api.OK {
		t.Error(n, e)
	}
}

func TestP17_2Best(t *testing.T) {
	r := rand.New(rand.NewSource(2))
	for i := range 120 {
		g, x, l := samples.Grammar(1+i%3), samples.Term(r.Intn, 6), someWorths(r, 0)
		limit := r.Intn(60)
		var best api.Term
		most, words := -1, 0
		for _, b := range all(x) {
			v, n, _ := brief.Value(g, x, l, b)
			if n <= limit && (v > most || v == most && n < words) {
				best, most, words = b, v, n
			}
		}
		b, e := brief.Cut(g, x, l, limit)
		if !term.Same(b, best) || (e == api.OK) != (most >= 0) {
			t.Fatalf("%v to %d: %v, %d; want %v", x, limit, b, e, best)
		}
		if c, _ := brief.Certify(g, x, l, limit); c.Best[0][limit] != most {
			t.Fatal(c.Best[0][limit], most)
		}
	}
}

func TestP17_3NothingLost(t *testing.T) {
	r := rand.New(rand.NewSource(3))
	for i := range 100 {
		g, x := samples.Grammar(1+i%3), samples.Term(r.Intn, 30)
		b, e := brief.Cut(g, x, nil, r.Intn(200))
		if e != api.OK {
			continue
		}
		for _, n := range x.Nodes {
			j := term.Find(b, n.ID)
			if j < 0 && n.Kind == api.NNotice {
				t.Fatal("a notice is lost")
			}
			if j < 0 || !term.States(n.Kind) {
				continue
			}
			if m := b.Nodes[j]; m.Fact != n.Fact || m.Version != n.Version || m.Source != n.Source || m.Not != n.Not || !brief.Reduces(n.Says, m.Says) {
				t.Fatal(n, m)
			}
		}
	}
}

func TestP17_4Certified(t *testing.T) {
	r := rand.New(rand.NewSource(4))
	for i := range 60 {
		g, x, l, limit := samples.Grammar(1+i%3), samples.Term(r.Intn, 12), someWorths(r, 0), r.Intn(80)
		b, e := brief.Cut(g, x, l, limit)
		c, f := brief.Certify(g, x, l, limit)
		if f != api.OK || len(c.Best) != len(x.Nodes)+1 || len(c.Best[0]) != limit+1 {
			t.Fatal(f)
		}
		if e != api.OK {
			if brief.Check(g, x, l, limit, b, c) {
				t.Fatal("nothing is accepted")
			}
			continue
		}
		if !brief.Check(g, x, l, limit, b, c) {
			t.Fatal(x, b)
		}
		k, w := r.Intn(len(c.Best)), r.Intn(limit+1)
		c.Best[k][w]++
		if brief.Check(g, x, l, limit, b, c) || brief.Check(g, x, l, limit, b, api.Bounds{Best: c.Best[1:]}) {
			t.Fatal("wrong bounds are accepted")
		}
		c.Best[k][w]--
		v, _, _ := brief.Value(g, x, l, b)
		for _, other := range []api.Term{{Nodes: x.Nodes[:1]}, x} {
			u, n, e := brief.Value(g, x, l, other)
			if ok := e == api.OK && n <= limit && u == v; brief.Check(g, x, l, limit, other, c) != ok {
				t.Fatal("another cut-down", other)
			}
		}
	}
}

// trimmed returns x without own words (but for the root), and without the containers that have nothing else in them.
func trimmed(x api.Term) api.Term {
	for i := len(x.Nodes) - 1; i > 0; i-- {
		n := x.Nodes[i]
		if n.Kind == api.NOwn || !term.Leaf(n.Kind) && len(term.Children(x, n.ID)) == 0 {
			x, _ = term.Remove(x, n.ID)
		}
	}
	return x
}

func TestP17_5Limits(t *testing.T) {
	r := rand.New(rand.NewSource(5))
	for i := range 60 {
		g, x, l := samples.Grammar(1+i%3), samples.Term(r.Intn, 12), someWorths(r, 1)
		last := -1
		for limit := 0; limit < 100; limit += 9 {
			b, e := brief.Cut(g, x, l, limit)
			if e != api.OK {
				continue
			}
			v, _, _ := brief.Value(g, x, l, b)
			if v < last {
				t.Fatal(x, limit)
			}
			last = v
		}
		if b, e := brief.Cut(g, x, l, length(t, g, x)); e != api.OK || !term.Same(b, trimmed(x)) {
			t.Fatal(x, b, e)
		}
	}
}

func TestP17_6Again(t *testing.T) {
	r := rand.New(rand.NewSource(6))
	for i := range 60 {
		g, x, l, limit := samples.Grammar(1+i%3), samples.Term(r.Intn, 12), someWorths(r, 1), 20+r.Intn(60)
		b, e := brief.Cut(g, x, l, limit)
		if e != api.OK {
			continue
		}
		if c, e := brief.Cut(g, b, l, limit); e != api.OK || !term.Same(b, c) {
			t.Fatal(b, c)
		}
		if len(l) == 0 {
			continue
		}
		v, _, _ := brief.Value(g, x, l, b)
		more := slices.Clone(l)
		more[0].Value++
		c, _ := brief.Cut(g, x, more, limit)
		if u, _, _ := brief.Value(g, x, more, c); u < v {
			t.Fatal(x, u, v)
		}
	}
}

func TestP17_7Headlines(t *testing.T) {
	r := rand.New(rand.NewSource(7))
	for i := range 100 {
		g, x, l, limit := samples.Grammar(1+i%3), samples.Term(r.Intn, 15), someWorths(r, 0), r.Intn(25)
		best, words, found := api.Node{}, 0, false
		most := -1
		for _, n := range x.Nodes {
			for form := range 4 {
				s, ok := brief.Reduce(n.Says, form)
				if !term.States(n.Kind) || !ok {
					continue
				}
				m := n
				m.ID, m.Parent, m.Kind, m.Says = 0, -1, api.NHeadline, s
				worth := 1
				for _, w := range l {
					if w.Fact == n.Fact {
						worth = w.Value
					}
				}
				v, k := worth*(4-form), length(t, g, api.Term{Nodes: []api.Node{m}})
				if k <= limit && (v > most || v == most && k < words) {
					best, most, words, found = m, v, k, true
				}
			}
		}
		n, e := brief.Headline(g, x, l, limit)
		if !reflect.DeepEqual(n, best) || (e == api.OK) != found {
			t.Fatal(x, n, best, e)
		}
	}
}

func TestP17_1Limits(t *testing.T) {
	g, x := samples.Small(), example()
	timed := api.Statement{Whom: -1, From: 3, To: 4}
	counted := api.Statement{Whom: -1, Count: api.Amount{Unit: 1}, From: -1, To: -1}
	for i, c := range []struct {
		s    api.Statement
		form int
		ok   bool
	}{{timed, 1, true}, {timed, 2, false}, {timed, 3, false}, {counted, 1, false}, {counted, 2, true}, {counted, 3, false}} {
		if u, ok := brief.Reduce(c.s, c.form); ok != c.ok || !ok && u != (api.Statement{}) {
			t.Error(i, u, ok)
		}
	}
	rich := []api.Worth{{Fact: 0, Value: 0}, {Fact: 2, Value: 100}, {Fact: 15, Value: 100}}
	for _, limit := range []int{0, 400} {
		c, e := brief.Certify(g, x, rich, limit)
		b, f := brief.Cut(g, x, rich, limit)
		if e != api.OK || len(c.Best[0]) != limit+1 || (f == api.OK) != (limit == 400) || (limit == 400) != term.Same(b, x) || c.Best[0][limit] != map[int]int{0: -1, 400: 404}[limit] {
			t.Error(limit, e, f)
		}
		if n, e := brief.Headline(g, x, rich, limit); (e == api.OK) != (limit == 400) || e == api.OK && n.Fact != 2 {
			t.Error(limit, n, e)
		}
	}
	noted := api.Term{Nodes: append(slices.Clone(x.Nodes), api.Node{ID: 9, Kind: api.NNotice, Fact: 3})}
	if _, _, e := brief.Value(g, noted, nil, x); e != api.ErrBrief {
		t.Error("a notice is lost", e)
	}
	own := api.Term{Nodes: []api.Node{{ID: 4, Parent: -1, Kind: api.NOwn, Text: "so they say"}}}
	if b, e := brief.Cut(g, own, nil, 5); !term.Same(b, own) || e != api.OK {
		t.Error("own words as the root", b, e)
	}
	if _, e := brief.Cut(g, own, nil, 4); e != api.ErrBrief {
		t.Error("own words that do not fit", e)
	}
}
