package render_test

import (
	"math/rand"
	"reflect"
	"slices"
	"strings"
	"testing"

	"newswire/api"
	"newswire/grammar"
	"newswire/render"
	"newswire/samples"
	"newswire/term"
)

func example() api.Term {
	return api.Term{Nodes: []api.Node{
		{Parent: -1, Kind: api.NStory},
		{ID: 4, Kind: api.NSentence, Fact: 2, Version: 1, Source: -1, Says: api.Statement{Whom: -1, From: -1, To: -1}},
		{ID: 6, Kind: api.NOwn, Text: "so they say"},
	}}
}

func printed(t *testing.T, g api.Grammar, x api.Term) api.Printed {
	t.Helper()
	p, e := render.Render(g, x)
	if e != api.OK || !render.Valid(p) {
		t.Fatal(x, e)
	}
	return p
}

func random(r *rand.Rand) api.Term {
	return samples.Term(r.Intn, 2+r.Intn(28))
}

func TestP14_1Examples(t *testing.T) {
	g := samples.Small()
	p := printed(t, g, example())
	want := api.Printed{Text: "tale dot the minister warns own 3 so they say fin", Spans: []api.Span{{Node: 4, From: 1, To: 5, Fact: 2, Version: 1}}}
	if !render.Same(p, want) || !render.Check(g, example(), p) || render.Check(g, api.Term{}, p) {
		t.Error(p)
	}
	if s, e := render.Excerpt(p, 4); s != "dot the minister warns" || e != api.OK {
		t.Error(s, e)
	}
	if s, e := render.Excerpt(p, 6); s != "" || e != api.ErrRender {
		t.Error(s, e)
	}
	for word, node := range map[int]int{1: 4, 3: 4, 4: 4, 0: -1, 5: -1, 6: -1, 10: -1, -1: -1, 99: -1} {
		if n, ok := render.At(p, word); ok != (node >= 0) || ok && n != node || !ok && n != 0 {
			t.Error(word, n, ok)
		}
	}
	if l := render.Stated(p); !reflect.DeepEqual(l, [][2]int{{2, 1}}) {
		t.Error(l)
	}
	if l := render.Words(p); len(l) != 11 || l[10] != "fin" || render.Words(api.Printed{}) != nil {
		t.Error(l)
	}
	if render.Same(p, api.Printed{Text: p.Text}) || render.Same(p, api.Printed{Spans: p.Spans}) {
		t.Error("Same")
	}
}

func TestP14_1Errors(t *testing.T) {
	g := samples.Small()
	far := example()
	far.Nodes[1].Says.Who = 5
	for i, f := range []func() (api.Printed, api.Errno){
		func() (api.Printed, api.Errno) { return render.Render(api.Grammar{}, example()) },
		func() (api.Printed, api.Errno) { return render.Render(g, api.Term{}) },
		func() (api.Printed, api.Errno) { return render.Render(g, far) },
	} {
		if p, e := f(); e != api.ErrRender || p.Text != "" || p.Spans != nil {
			t.Error(i, p, e)
		}
	}
	span := api.Span{Node: 4, From: 0, To: 2, Fact: 2, Version: 1}
	for i, change := range []func(p *api.Printed){
		func(p *api.Printed) { p.Text = "a  b" }, func(p *api.Printed) { p.Text = " a b" }, func(p *api.Printed) { p.Text = "a" }, func(p *api.Printed) { p.Text = "" },
		func(p *api.Printed) { p.Spans[0].Node = -1 }, func(p *api.Printed) { p.Spans[0].Node = 10000 }, func(p *api.Printed) { p.Spans[0].Fact = 16 }, func(p *api.Printed) { p.Spans[0].Version = 9 }, func(p *api.Printed) { p.Spans[0].Version = -1 },
		func(p *api.Printed) { p.Spans[0].From = -1 }, func(p *api.Printed) { p.Spans[0].From = 2 }, func(p *api.Printed) { p.Spans[0].To = 4 },
		func(p *api.Printed) { p.Spans = append(p.Spans, api.Span{Node: 4, From: 2, To: 3}) }, func(p *api.Printed) { p.Spans = append(p.Spans, api.Span{Node: 5, From: 1, To: 3}) },
	} {
		p := api.Printed{Text: "a b c", Spans: []api.Span{span}}
		change(&p)
		_, ok := render.At(p, 1)
		_, e := render.Excerpt(p, 4)
		if render.Valid(p) || render.Words(p) != nil || render.Stated(p) != nil || ok || e != api.ErrRender {
			t.Error(i, p)
		}
	}
	if !render.Valid(api.Printed{}) {
		t.Error("nothing is not valid")
	}
}

func TestP14_2Spans(t *testing.T) {
	r := rand.New(rand.NewSource(1))
	for i := range 200 {
		g, x := samples.Grammar(1+i%3), random(r)
		p := printed(t, g, x)
		at := 0
		for _, n := range x.Nodes {
			if !term.States(n.Kind) {
				continue
			}
			s := p.Spans[at]
			at++
			words, _ := grammar.Say(g, n)
			if text, e := render.Excerpt(p, n.ID); s.Node != n.ID || s.Fact != n.Fact || s.Version != n.Version || e != api.OK || text != strings.Join(words, " ") {
				t.Fatal(n, s, text, e)
			}
		}
		if at != len(p.Spans) {
			t.Fatal("too many spans")
		}
	}
}

func TestP14_3Parts(t *testing.T) {
	r := rand.New(rand.NewSource(2))
	for i := range 200 {
		g, x := samples.Grammar(1+i%3), random(r)
		text, words := g.Marks[api.NStory], 1
		var spans []api.Span
		for _, c := range term.Children(x, 0) {
			sub, _ := term.Subtree(x, c)
			p := printed(t, g, sub)
			for _, s := range p.Spans {
				s.From, s.To = s.From+words, s.To+words
				spans = append(spans, s)
			}
			text += " " + p.Text
			words += len(render.Words(p))
		}
		if p := printed(t, g, x); !render.Same(p, api.Printed{Text: text + " " + g.End, Spans: spans}) {
			t.Fatal(x)
		}
	}
}

func TestP14_4Apart(t *testing.T) {
	r := rand.New(rand.NewSource(3))
	for i := range 300 {
		g, x := samples.Grammar(1+i%3), random(r)
		p := printed(t, g, x)
		k := r.Intn(len(x.Nodes))
		n := x.Nodes[k]
		if !term.States(n.Kind) {
			continue
		}
		n.Says = samples.Statement(r.Intn)
		y, e := term.Replace(x, n)
		if e != api.OK {
			t.Fatal(e)
		}
		q := printed(t, g, y)
		a, b := render.Words(p), render.Words(q)
		j := slices.IndexFunc(p.Spans, func(s api.Span) bool { return s.Node == n.ID })
		from, more := p.Spans[j].From, len(b)-len(a)
		if !slices.Equal(a[:from], b[:from]) || !slices.Equal(a[p.Spans[j].To:], b[q.Spans[j].To:]) {
			t.Fatal(p, q)
		}
		for m, s := range p.Spans {
			if m > j {
				s.From += more
			}
			if m >= j {
				s.To += more
			}
			if s != q.Spans[m] {
				t.Fatal(s, q.Spans[m])
			}
		}
	}
}

func TestP14_5Stated(t *testing.T) {
	r := rand.New(rand.NewSource(4))
	for i := range 200 {
		x := random(r)
		p := printed(t, samples.Grammar(1+i%3), x)
		if !reflect.DeepEqual(render.Stated(p), term.Facts(x)) {
			t.Fatal(x)
		}
	}
}

func TestP14_6BareText(t *testing.T) {
	r := rand.New(rand.NewSource(5))
	seen := map[string]api.Term{}
	for range 500 {
		x := samples.Term(r.Intn, 2+r.Intn(3))
		p := printed(t, samples.Grammar(1), x)
		b, _ := term.Bare(x)
		if printed(t, samples.Grammar(1), b).Text != p.Text {
			t.Fatal(x)
		}
		if y, ok := seen[p.Text]; ok && !term.Same(y, b) {
			t.Fatal(p.Text)
		}
		seen[p.Text] = b
	}
}

func TestP14_7Languages(t *testing.T) {
	r := rand.New(rand.NewSource(6))
	for range 100 {
		x := random(r)
		var first []api.Span
		for _, g := range samples.Grammars() {
			p := printed(t, g, x)
			for i := range p.Spans {
				p.Spans[i].From, p.Spans[i].To = 0, 0
			}
			if first == nil {
				first = p.Spans
			}
			if !slices.Equal(first, p.Spans) {
				t.Fatal(x)
			}
		}
	}
}

func TestP14_1Limits(t *testing.T) {
	for _, s := range []api.Span{{To: 1}, {Node: 9999, From: 2, To: 3, Fact: 15, Version: 8}} {
		if p := (api.Printed{Text: "a b c", Spans: []api.Span{s}}); !render.Valid(p) {
			t.Error(s)
		}
	}
	p := printed(t, samples.Small(), example())
	for i, q := range []api.Printed{{Text: p.Text}, {Text: p.Text + " fin", Spans: p.Spans}, {}} {
		if render.Check(samples.Small(), example(), q) {
			t.Error(i)
		}
	}
}
