package meter_test

import (
	"math/rand"
	"slices"
	"strings"
	"testing"

	"newswire/api"
	"newswire/fact"
	"newswire/grammar"
	"newswire/meter"
	"newswire/parse"
	"newswire/render"
	"newswire/samples"
	"newswire/term"
)

func says(who int) api.Statement {
	return api.Statement{Who: who, Whom: -1, From: -1, To: -1}
}

// file has two versions of the fact 3, which say something else.
func file() api.File {
	return api.File{Sources: []api.Source{{ID: 0, Kind: api.SNamed}}, Versions: []api.Version{
		{Fact: 3, Number: 1, Kind: api.VAssert, Says: says(1), Sources: []int{0}},
		{Fact: 3, Number: 2, Kind: api.VCorrect, Says: says(2), Sources: []int{0}},
	}}
}

func leaf(id, kind, source int) api.Node {
	return api.Node{ID: id, Kind: kind, Fact: 3, Version: 2, Source: source, Says: says(2)}
}

func story(nodes ...api.Node) api.Term {
	return api.Term{Nodes: append([]api.Node{{Parent: -1, Kind: api.NStory}}, nodes...)}
}

func printed(t *testing.T, g api.Grammar, x api.Term) api.Printed {
	t.Helper()
	p, e := render.Render(g, x)
	if e != api.OK {
		t.Fatal(e)
	}
	return p
}

// random returns a term, and a file that has versions which say what its leaves say.
func random(t *testing.T, r *rand.Rand) (api.Term, api.File) {
	t.Helper()
	f := api.File{Sources: []api.Source{{ID: 0, Kind: api.SNamed}}}
	x := samples.Term(r.Intn, 20)
	for i := range x.Nodes {
		n := &x.Nodes[i]
		if !term.States(n.Kind) {
			continue
		}
		last, ok := fact.Newest(f, n.Fact, api.MaxTime)
		if ok && last.Number > 2 {
			n.Version, n.Says = last.Number, last.Says
			continue
		}
		v := api.Version{Fact: n.Fact, Number: last.Number + 1, Kind: api.VCorrect, Says: n.Says, Sources: []int{0}}
		if !ok {
			v.Kind = api.VAssert
		}
		n.Version = v.Number
		var e api.Errno
		if f, e = fact.Add(f, v); e != api.OK {
			t.Fatal(e)
		}
	}
	return x, f
}

func use(reader, f, version, source, kind, count int) api.Use {
	return api.Use{Reader: reader, Fact: f, Version: version, Source: source, Kind: kind, Count: count}
}

// some is a valid list of uses.
func some(r *rand.Rand) []api.Use {
	var l []api.Use
	for i := range r.Intn(12) {
		l = append(l, use(i/4, i%4, 1+r.Intn(3), r.Intn(13)-1, 5+r.Intn(4), 1+r.Intn(100)))
	}
	return l
}

func add(t *testing.T, a, b []api.Use) []api.Use {
	t.Helper()
	l, e := meter.Add(a, b)
	if e != api.OK || !meter.Valid(l) {
		t.Fatal(a, b, e)
	}
	return l
}

func TestP30_1Examples(t *testing.T) {
	g := samples.Grammar(1)
	p := printed(t, g, story(leaf(1, api.NSentence, -1), leaf(2, api.NSentence, -1)))
	if l, e := meter.Uses(g, file(), 4, p); !meter.Same(l, []api.Use{use(4, 3, 2, -1, 5, 2)}) || e != api.OK {
		t.Error(l, e)
	}
	p.Spans[1].Version = 1
	if l, e := meter.Uses(g, file(), 4, p); l != nil || e != api.ErrMeter {
		t.Error(l, e)
	}
	p = printed(t, g, story(leaf(1, api.NSentence, -1), leaf(3, api.NQuote, 1), leaf(2, api.NSentence, -1)))
	if l, e := meter.Uses(g, file(), 4, p); !meter.Same(l, []api.Use{use(4, 3, 2, -1, 5, 2), use(4, 3, 2, 1, 7, 1)}) || e != api.OK {
		t.Error(l, e)
	}
	p.Spans[0].Node = 77
	if l, e := meter.Uses(g, file(), 4, p); len(l) != 2 || e != api.OK {
		t.Error(l, e)
	}
}

func TestP30_1Errors(t *testing.T) {
	g := samples.Grammar(1)
	p := printed(t, g, story(leaf(1, api.NSentence, -1)))
	for i, c := range []struct {
		g      api.Grammar
		f      api.File
		reader int
		p      api.Printed
	}{{api.Grammar{}, file(), 4, p}, {g, api.File{Versions: file().Versions}, 4, p}, {g, file(), -1, p}, {g, file(), 100, p}, {g, file(), 4, api.Printed{}}, {g, file(), 4, api.Printed{Text: p.Text}}, {g, api.File{}, 4, p}, {samples.Grammar(2), file(), 4, p}} {
		if l, e := meter.Uses(c.g, c.f, c.reader, c.p); l != nil || e != api.ErrMeter {
			t.Error(i, l, e)
		}
	}
	ok := use(1, 1, 1, -1, 5, 1)
	for i, l := range [][]api.Use{{use(-1, 1, 1, -1, 5, 1)}, {use(100, 1, 1, -1, 5, 1)}, {use(1, 16, 1, -1, 5, 1)}, {use(1, 1, 0, -1, 5, 1)}, {use(1, 1, 9, -1, 5, 1)}, {use(1, 1, 1, -2, 5, 1)}, {use(1, 1, 1, 12, 5, 1)}, {use(1, 1, 1, -1, 4, 1)}, {use(1, 1, 1, -1, 9, 1)}, {use(1, 1, 1, -1, 5, 0)}, {use(1, 1, 1, -1, 5, 1000001)}, {ok, ok}, {use(2, 1, 1, -1, 5, 1), ok}, slices.Repeat([]api.Use{ok}, 201)} {
		_, a := meter.Add(l, nil)
		_, b := meter.Add(nil, l)
		x, y, c := meter.Less(l, 1)
		n, d := meter.Total(l, -1, -1, -1)
		s, e := meter.Encode(l)
		if meter.Valid(l) || a != api.ErrMeter || b != api.ErrMeter || c != api.ErrMeter || d != api.ErrMeter || e != api.ErrMeter || x != nil || y != nil || n != 0 || s != "" {
			t.Error(i, a, b, c, d, e)
		}
	}
	much := []api.Use{use(1, 1, 1, -1, 5, 1000000)}
	if l, e := meter.Add(much, []api.Use{ok}); l != nil || e != api.ErrMeter {
		t.Error("a count that is too great", e)
	}
	if !meter.Valid([]api.Use{use(99, 15, 8, 99, 8, 1000000)}) {
		t.Error("the greatest use")
	}
}

func TestP30_2WhatWasPrinted(t *testing.T) {
	r := rand.New(rand.NewSource(1))
	for range 60 {
		x, f := random(t, r)
		var first []api.Use
		for i, g := range samples.Grammars() {
			l, e := meter.Uses(g, f, 4, printed(t, g, x))
			if e != api.OK || i > 0 && !meter.Same(l, first) {
				t.Fatal(x, l, e)
			}
			first = l
		}
		for _, n := range x.Nodes {
			if term.States(n.Kind) {
				i := slices.IndexFunc(first, func(u api.Use) bool {
					return u.Fact == n.Fact && u.Version == n.Version && u.Source == n.Source && u.Kind == n.Kind
				})
				if i < 0 {
					t.Fatal("not counted", n)
				}
				first[i].Count--
			}
		}
		if slices.ContainsFunc(first, func(u api.Use) bool { return u.Count != 0 }) {
			t.Fatal("counted too often", first)
		}
	}
}

func TestP30_3Sums(t *testing.T) {
	r := rand.New(rand.NewSource(2))
	for range 300 {
		a, b, c := some(r), some(r), some(r)
		if !meter.Same(add(t, a, b), add(t, b, a)) || !meter.Same(add(t, add(t, a, b), c), add(t, a, add(t, b, c))) {
			t.Fatal(a, b, c)
		}
		reader, f, version := r.Intn(4)-1, r.Intn(5)-1, r.Intn(4)-1
		if version == 0 {
			version = -1
		}
		x, _ := meter.Total(a, reader, f, version)
		y, _ := meter.Total(b, reader, f, version)
		if z, e := meter.Total(add(t, a, b), reader, f, version); z != x+y || e != api.OK {
			t.Fatal(a, b, x, y, z)
		}
	}
	if n, _ := meter.Total([]api.Use{use(1, 1, 1, -1, 5, 3), use(1, 2, 1, -1, 5, 4)}, -1, 2, 1); n != 4 {
		t.Error(n)
	}
}

func TestP30_4Kills(t *testing.T) {
	r := rand.New(rand.NewSource(3))
	for range 200 {
		l, f := some(r), r.Intn(5)
		rest, gone, e := meter.Less(l, f)
		if e != api.OK || !meter.Same(add(t, rest, gone), l) || slices.ContainsFunc(rest, func(u api.Use) bool { return u.Fact == f }) || slices.ContainsFunc(gone, func(u api.Use) bool { return u.Fact != f }) {
			t.Fatal(l, f)
		}
	}
}

func TestP30_5NothingElse(t *testing.T) {
	r := rand.New(rand.NewSource(4))
	for range 100 {
		x, f := random(t, r)
		g := samples.Grammar(1 + r.Intn(3))
		p := printed(t, g, x)
		if len(p.Spans) == 0 {
			continue
		}
		i := r.Intn(len(p.Spans))
		for j, change := range []func(p *api.Printed){
			func(p *api.Printed) { p.Spans[i].From++ }, func(p *api.Printed) { p.Spans[i].To-- }, func(p *api.Printed) { p.Spans[i].To++ },
			func(p *api.Printed) { p.Spans = slices.Delete(p.Spans, i, i+1) }, func(p *api.Printed) { p.Spans = append(p.Spans, p.Spans[i]) }, func(p *api.Printed) { p.Spans[i].Fact = 15 },
		} {
			q := api.Printed{Text: p.Text, Spans: slices.Clone(p.Spans)}
			change(&q)
			if l, e := meter.Uses(g, f, 4, q); l != nil || e != api.ErrMeter {
				t.Fatal(j, l, e)
			}
		}
		words, all := strings.Fields(p.Text), grammar.Words(g)
		at := r.Intn(len(words))
		words[at] = all[r.Intn(len(all))]
		q := api.Printed{Text: strings.Join(words, " "), Spans: p.Spans}
		if _, e := meter.Uses(g, f, 4, q); e != api.OK {
			continue
		}
		l, _ := parse.Stated(g, q.Text)
		for k, n := range l {
			if !slices.ContainsFunc(f.Versions, func(v api.Version) bool {
				return v.Fact == p.Spans[k].Fact && v.Number == p.Spans[k].Version && v.Says == n.Says
			}) {
				t.Fatal("no version says", n)
			}
		}
	}
}

func TestP30_6Codes(t *testing.T) {
	r := rand.New(rand.NewSource(5))
	for range 300 {
		l := some(r)
		s, e := meter.Encode(l)
		k, next, f := meter.Decode("ab"+s+"c", 2)
		if e != api.OK || f != api.OK || next != 2+len(s) || !meter.Same(l, k) {
			t.Fatal(l, k, e, f)
		}
		if k, next, e := meter.Decode(s[:r.Intn(len(s))], 0); k != nil || next != 0 || e != api.ErrMeter {
			t.Fatal(e)
		}
		b := []byte(s)
		b[r.Intn(len(b))] ^= 1 << r.Intn(8)
		if k, next, e := meter.Decode(string(b), 0); e == api.OK {
			if u, _ := meter.Encode(k); u != string(b[:next]) {
				t.Fatal("another encoding is decoded")
			}
		}
	}
}

func TestP30_1Limits(t *testing.T) {
	p := printed(t, samples.Grammar(1), story(leaf(1, api.NSentence, -1)))
	for _, reader := range []int{0, 99} {
		if l, e := meter.Uses(samples.Grammar(1), file(), reader, p); len(l) != 1 || l[0].Reader != reader || e != api.OK {
			t.Error(reader, e)
		}
	}
	var l []api.Use
	for i := range 200 {
		l = append(l, use(i/2, 0, 1, -1, 5+i%2, 1))
	}
	if !meter.Valid(l) {
		t.Error("200 uses")
	}
	if _, e := meter.Add(l, []api.Use{use(99, 15, 8, 99, 8, 1)}); e != api.ErrMeter {
		t.Error("201 uses", e)
	}
}
