package upgrade_test

import (
	"math/rand"
	"slices"
	"testing"

	"newswire/api"
	"newswire/samples"
	"newswire/term"
	"newswire/upgrade"
)

// cut returns a grammar with fewer entities, and another word for the first one.
func cut(g api.Grammar, entities int, word string) api.Grammar {
	g.Entities = slices.Clone(g.Entities[:entities])
	g.Entities[0].Word = word
	return g
}

// library has editions with 3, 4 and all 20 entities.
func library() api.Library {
	var l api.Library
	for i, n := range []int{3, 4, 20} {
		var edition []api.Grammar
		for _, g := range samples.Grammars() {
			edition = append(edition, cut(g, n, []string{"herald-in", "premier", "chief"}[i]))
		}
		l.Editions = append(l.Editions, edition)
	}
	return l
}

func fleet() []api.Station {
	return []api.Station{{Language: 1, Edition: 1}, {Language: 2, Edition: 2}, {Language: 3, Edition: 3}}
}

func sentence(who int) api.Term {
	return api.Term{Nodes: []api.Node{{Parent: -1, Kind: api.NSentence, Source: -1, Says: api.Statement{Who: who, Whom: -1, From: -1, To: -1}}}}
}

// small is a term about the first entities alone.
func small(r *rand.Rand, entities int) api.Term {
	x := samples.Term(r.Intn, 10)
	for i := range x.Nodes {
		n := &x.Nodes[i]
		if term.States(n.Kind) {
			n.Says.Who %= entities
			n.Says.Whom = min(n.Says.Whom, entities-1)
		}
	}
	return x
}

func TestP37_1Examples(t *testing.T) {
	l, f := library(), fleet()
	if n, e := upgrade.Common(l, f[0], f[1]); n != 1 || e != api.OK {
		t.Error(n, e)
	}
	w, x, e := upgrade.Send(l, f, 1, 0, sentence(0))
	if w != (api.Wired{Language: 2, Edition: 1, Text: "punkt der herald-in warnt"}) || !term.Same(x, sentence(0)) || e != api.OK {
		t.Error(w, x, e)
	}
	if w, x, e := upgrade.Send(l, f, 1, 0, sentence(3)); w != (api.Wired{}) || x.Nodes != nil || e != api.ErrUpgrade {
		t.Error(w, x, e)
	}
	g, e := upgrade.Step(l, f, 0)
	if !slices.Equal(g, []api.Station{{Language: 1, Edition: 2}, f[1], f[2]}) || e != api.OK || !slices.Equal(f, fleet()) {
		t.Error(g, e)
	}
	if w, x, e := upgrade.Send(l, g, 1, 0, sentence(3)); w.Edition != 2 || !term.Same(x, sentence(3)) || e != api.OK {
		t.Error(w, x, e)
	}
	f[2].Edition = 7
	if g[2].Edition != 3 {
		t.Error("a result shares memory with an argument")
	}
}

func TestP37_1Errors(t *testing.T) {
	for i, change := range []func(l *api.Library){
		func(l *api.Library) { l.Editions = nil }, func(l *api.Library) { l.Editions = slices.Repeat(l.Editions[:1], 5) }, func(l *api.Library) { l.Editions[0] = l.Editions[0][:2] }, func(l *api.Library) { l.Editions[0] = append(l.Editions[0], l.Editions[0][0]) }, func(l *api.Library) { l.Editions[1][0], l.Editions[1][1] = l.Editions[1][1], l.Editions[1][0] },
		func(l *api.Library) { l.Editions[0][1].End = "" }, func(l *api.Library) { l.Editions[0][1].Entities = l.Editions[0][1].Entities[:2] }, func(l *api.Library) { l.Editions[0], l.Editions[1] = l.Editions[1], l.Editions[0] }, func(l *api.Library) {
			for i := range l.Editions[2] {
				l.Editions[2][i].Sources = nil
			}
		},
	} {
		l := library()
		change(&l)
		w := api.Wired{Language: 1, Edition: 1, Text: "note"}
		s := api.Station{Language: 1, Edition: 1}
		_, a := upgrade.Common(l, s, s)
		_, b := upgrade.Print(l, s, 1, sentence(0))
		_, c := upgrade.Read(l, s, w)
		_, d := upgrade.Convert(l, w, 2, 1)
		_, _, e := upgrade.Send(l, []api.Station{s}, 0, 0, sentence(0))
		_, f := upgrade.Step(l, []api.Station{s}, 0)
		if upgrade.Valid(l) || upgrade.ValidFleet(l, nil) || a != api.ErrUpgrade || b != api.ErrUpgrade || c != api.ErrUpgrade || d != api.ErrUpgrade || e != api.ErrUpgrade || f != api.ErrUpgrade {
			t.Error(i, a, b, c, d, e, f)
		}
	}
	l, f := library(), fleet()
	for i, s := range []api.Station{{}, {Language: 4, Edition: 1}, {Language: 0, Edition: 1}, {Language: 1, Edition: 0}, {Language: 1, Edition: 4}} {
		_, a := upgrade.Common(l, s, f[0])
		_, b := upgrade.Common(l, f[0], s)
		_, c := upgrade.Print(l, s, 1, sentence(0))
		_, d := upgrade.Step(l, []api.Station{s}, 0)
		if a != api.ErrUpgrade || b != api.ErrUpgrade || c != api.ErrUpgrade || d != api.ErrUpgrade || upgrade.ValidFleet(l, []api.Station{s}) {
			t.Error(i, a, b, c, d)
		}
	}
	if upgrade.ValidFleet(l, slices.Repeat(f, 3)) || !upgrade.ValidFleet(l, slices.Repeat(f[:1], 8)) {
		t.Error("the number of stations")
	}
	for i, c := range [][2]int{{-1, 0}, {3, 0}, {0, -1}, {0, 3}} {
		if _, _, e := upgrade.Send(l, f, c[0], c[1], sentence(0)); e != api.ErrUpgrade {
			t.Error(i, e)
		}
	}
	for _, i := range []int{-1, 3, 2} {
		if g, e := upgrade.Step(l, f, i); g != nil || e != api.ErrUpgrade {
			t.Error(i, e)
		}
	}
	w := api.Wired{Language: 1, Edition: 1, Text: "note"}
	for i, c := range []struct {
		w                 api.Wired
		language, edition int
	}{{api.Wired{Edition: 1, Text: "note"}, 1, 1}, {api.Wired{Language: 1, Text: "note"}, 1, 1}, {w, 0, 1}, {w, 4, 1}, {w, 1, 0}, {w, 1, 4}, {api.Wired{Language: 1, Edition: 1, Text: "foo"}, 1, 1}, {api.Wired{Language: 1, Edition: 2, Text: "dot the pilot warns"}, 1, 1}} {
		if x, e := upgrade.Convert(l, c.w, c.language, c.edition); x != (api.Wired{}) || e != api.ErrUpgrade {
			t.Error(i, e)
		}
	}
	if _, e := upgrade.Read(l, f[0], api.Wired{Language: 1, Edition: 1, Text: "foo"}); e != api.ErrUpgrade {
		t.Error(e)
	}
}

func TestP37_2MixedFleet(t *testing.T) {
	r := rand.New(rand.NewSource(1))
	l := library()
	for range 60 {
		f := []api.Station{{Language: 1 + r.Intn(3), Edition: 1 + r.Intn(3)}, {Language: 1 + r.Intn(3), Edition: 1 + r.Intn(3)}}
		n, _ := upgrade.Common(l, f[0], f[1])
		x := small(r, []int{3, 4, 20}[n-1])
		w, y, e := upgrade.Send(l, f, 0, 1, x)
		want, _ := term.Bare(x)
		if e != api.OK || w.Edition != n || w.Language != f[0].Language || !term.Same(y, want) {
			t.Fatal(f, x, w, y, e)
		}
	}
}

func TestP37_3OneByOne(t *testing.T) {
	r := rand.New(rand.NewSource(2))
	l := library()
	for range 8 {
		f := []api.Station{{Language: 1, Edition: 1}, {Language: 2, Edition: 1}, {Language: 3, Edition: 1}}
		x := small(r, 3)
		want, _ := term.Bare(x)
		for range 4 {
			g, e := upgrade.Step(l, f, r.Intn(3))
			if e != api.OK {
				continue
			}
			for i := range f {
				j := r.Intn(3)
				a, _ := upgrade.Common(l, f[i], f[j])
				b, _ := upgrade.Common(l, g[i], g[j])
				if _, y, e := upgrade.Send(l, g, i, j, x); e != api.OK || !term.Same(y, want) || b < a {
					t.Fatal(f, g, e)
				}
			}
			f = g
		}
	}
}

func TestP37_4Conversions(t *testing.T) {
	r := rand.New(rand.NewSource(3))
	l := library()
	convert := func(w api.Wired, language, edition int) api.Wired {
		x, e := upgrade.Convert(l, w, language, edition)
		if e != api.OK || x.Language != language || x.Edition != edition {
			t.Fatal(w, e)
		}
		return x
	}
	for range 25 {
		w, e := upgrade.Print(l, api.Station{Language: 1, Edition: 3}, 1+r.Intn(3), small(r, 3))
		if e != api.OK {
			t.Fatal(e)
		}
		language, edition := 1+r.Intn(3), 1+r.Intn(3)
		over := convert(convert(w, 1+r.Intn(3), 1+r.Intn(3)), language, edition)
		if at := convert(w, language, edition); over != at || convert(at, w.Language, w.Edition) != w {
			t.Fatal(w)
		}
		s := api.Station{Language: 2, Edition: 3}
		x, _ := upgrade.Read(l, s, w)
		if y, _ := upgrade.Read(l, s, over); !term.Same(x, y) {
			t.Fatal(x, y)
		}
	}
}

func TestP37_5NotKnown(t *testing.T) {
	l, s := library(), api.Station{Language: 1, Edition: 2}
	for edition := -1; edition < 6; edition++ {
		w, e := upgrade.Print(l, s, edition, sentence(0))
		if ok := edition == 1 || edition == 2; (e == api.OK) != ok || !ok && w != (api.Wired{}) {
			t.Error(edition, e)
		}
		full := api.Station{Language: 2, Edition: 3}
		w, _ = upgrade.Print(l, full, edition, sentence(0))
		if x, e := upgrade.Read(l, s, w); (e == api.OK) != (edition == 1 || edition == 2) || e != api.OK && x.Nodes != nil {
			t.Error(edition, e)
		}
	}
}

func TestP37_6NothingLost(t *testing.T) {
	r := rand.New(rand.NewSource(4))
	l := library()
	for range 20 {
		x := small(r, []int{3, 4, 20}[r.Intn(3)])
		said := false
		for edition := 1; edition <= 3; edition++ {
			for language := 1; language <= 3; language++ {
				_, e := upgrade.Print(l, api.Station{Language: language, Edition: 3}, edition, x)
				if said && e != api.OK {
					t.Fatal(x, edition, language)
				}
				said = said || e == api.OK && language == 3
			}
		}
	}
}

func TestP37_1Limits(t *testing.T) {
	l := library()
	one := api.Library{Editions: l.Editions[:1]}
	four := api.Library{Editions: append(slices.Clone(l.Editions), l.Editions[2])}
	if !upgrade.Valid(one) || !upgrade.Valid(four) {
		t.Error("the number of editions")
	}
	f := []api.Station{{Language: 3, Edition: 4}, {Language: 3, Edition: 4}}
	if n, e := upgrade.Common(four, f[0], f[1]); n != 4 || e != api.OK {
		t.Error(n, e)
	}
	bad := library()
	for i := range bad.Editions[2] {
		bad.Editions[2][i].Verbs = bad.Editions[2][i].Verbs[:9]
	}
	if upgrade.Valid(bad) {
		t.Error("fewer verbs")
	}
}
