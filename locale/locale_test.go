package locale_test

import (
	"math/rand"
	"reflect"
	"testing"

	"newswire/api"
	"newswire/locale"
	"newswire/parse"
	"newswire/render"
	"newswire/samples"
	"newswire/term"
	"newswire/unit"
)

var (
	rates = api.Rates{Cents: 100, Euros: 90}
	place = api.Place{Offset: 60, Units: api.PImperial, Money: api.PEuros}
)

func random(r *rand.Rand) api.Term {
	return samples.Term(r.Intn, 2+r.Intn(20))
}

func anywhere(r *rand.Rand) api.Place {
	return api.Place{Offset: r.Intn(2*api.MaxOffset+1) - api.MaxOffset, Units: 1 + r.Intn(2), Money: 1 + r.Intn(2)}
}

func text(t *testing.T, g api.Grammar, x api.Term) string {
	t.Helper()
	p, e := render.Render(g, x)
	if e != api.OK {
		t.Fatal(e)
	}
	return p.Text
}

func translate(t *testing.T, from, to api.Grammar, s string) string {
	t.Helper()
	u, e := locale.Translate(from, to, s)
	if e != api.OK {
		t.Fatal(s, e)
	}
	return u
}

func TestP16_1Examples(t *testing.T) {
	for _, c := range [][2]api.Amount{
		{{Lo: 10, Hi: 10, Unit: api.UMetre}, {Lo: 32, Hi: 33, Unit: api.UFoot}},
		{{Lo: 250, Hi: 260, Unit: api.UCent}, {Lo: 225, Hi: 234, Unit: api.UEuro}},
		{{Lo: 7, Hi: 7, Unit: api.UPeople}, {Lo: 7, Hi: 7, Unit: api.UPeople}},
		{{Lo: 7, Hi: 8, Unit: api.UPound}, {Lo: 7, Hi: 8, Unit: api.UPound}},
		{{}, {}},
	} {
		if a, e := locale.Amount(c[0], place, rates); a != c[1] || e != api.OK {
			t.Error(c, a, e)
		}
	}
	s, e := locale.Statement(api.Statement{Whom: -1, From: 1000, To: 1200}, place, rates)
	if s.From != 1060 || s.To != 1260 || e != api.OK {
		t.Error(s, e)
	}
	s, e = locale.Statement(api.Statement{Whom: -1, From: -1, To: -1}, place, rates)
	if s.From != -1 || s.To != -1 || e != api.OK {
		t.Error(s, e)
	}
}

func TestP16_1Errors(t *testing.T) {
	for _, p := range []api.Place{{}, {Offset: 841, Units: 1, Money: 1}, {Offset: -841, Units: 1, Money: 1}, {Units: 3, Money: 1}, {Units: 1, Money: 3}, {Units: 1}} {
		_, a := locale.Amount(api.Amount{}, p, rates)
		_, b := locale.Statement(api.Statement{Whom: -1, From: -1, To: -1}, p, rates)
		_, c := locale.Localize(random(rand.New(rand.NewSource(1))), p, rates)
		if locale.Valid(p) || a != api.ErrLocale || b != api.ErrLocale || c != api.ErrLocale {
			t.Error(p, a, b, c)
		}
	}
	if _, e := locale.Amount(api.Amount{}, place, api.Rates{}); e != api.ErrLocale {
		t.Error("no rates", e)
	}
	for _, a := range []api.Amount{{Lo: 2, Hi: 1, Unit: 1}, {Lo: 1, Hi: 1, Unit: 9}, {Lo: 1, Hi: 999999, Unit: api.UMetre}} {
		if b, e := locale.Amount(a, place, rates); b != (api.Amount{}) || e != api.ErrLocale {
			t.Error(a, b, e)
		}
	}
	west := place
	west.Offset = -60
	for _, c := range []struct {
		s api.Statement
		p api.Place
	}{
		{api.Statement{Whom: -1, From: 59, To: 100}, west}, {api.Statement{Whom: -1, From: 0, To: api.MaxTime - 59}, place}, {api.Statement{Whom: -2, From: -1, To: -1}, place},
		{api.Statement{Whom: -1, From: -1, To: 5}, place}, {api.Statement{Whom: -1, From: -1, To: -1, Count: api.Amount{Lo: 1, Hi: 999999, Unit: api.UMetre}}, place},
	} {
		if s, e := locale.Statement(c.s, c.p, rates); s != (api.Statement{}) || e != api.ErrLocale {
			t.Error(c, s, e)
		}
		x := api.Term{Nodes: []api.Node{{Parent: -1, Kind: api.NSentence, Source: -1, Says: c.s}}}
		if y, e := locale.Localize(x, c.p, rates); y.Nodes != nil || e != api.ErrLocale {
			t.Error(c, y, e)
		}
	}
	for _, s := range []string{"", "foo", "dot the minister"} {
		if u, e := locale.Translate(samples.Grammar(1), samples.Grammar(2), s); u != "" || e != api.ErrLocale {
			t.Errorf("%q: %q, %d", s, u, e)
		}
	}
	if u, e := locale.Translate(samples.Grammar(1), samples.Small(), "dot the mayor warns"); u != "" || e != api.ErrLocale {
		t.Error(u, e)
	}
}

func TestP16_2Translations(t *testing.T) {
	r := rand.New(rand.NewSource(2))
	g := samples.Grammars()
	for range 60 {
		x := random(r)
		en, de, es := text(t, g[0], x), text(t, g[1], x), text(t, g[2], x)
		if translate(t, g[0], g[1], en) != de || translate(t, g[2], g[1], translate(t, g[0], g[2], en)) != de || translate(t, g[1], g[0], de) != en || translate(t, g[1], g[2], de) != es {
			t.Fatal(en)
		}
	}
}

func TestP16_3SameStatements(t *testing.T) {
	r := rand.New(rand.NewSource(3))
	for range 60 {
		x := random(r)
		first, _ := parse.Stated(samples.Grammar(1), text(t, samples.Grammar(1), x))
		for _, g := range samples.Grammars() {
			if l, e := parse.Stated(g, text(t, g, x)); e != api.OK || !reflect.DeepEqual(l, first) {
				t.Fatal(x)
			}
		}
	}
}

func TestP16_4Outward(t *testing.T) {
	r := rand.New(rand.NewSource(4))
	for range 2000 {
		a, p := samples.Amount(r.Intn), anywhere(r)
		b, e := locale.Amount(a, p, rates)
		if e != api.OK {
			t.Fatal(a, e)
		}
		if again, _ := locale.Amount(b, p, rates); again != b {
			t.Fatal(a, b, again)
		}
		if a.Unit == b.Unit {
			if a != b {
				t.Fatal(a, b)
			}
			continue
		}
		if back, e := unit.Convert(b, a.Unit, rates); e != api.OK || !unit.Contains(back, a) {
			t.Fatal(a, b, back)
		}
	}
}

func TestP16_5Clocks(t *testing.T) {
	r := rand.New(rand.NewSource(5))
	for range 1000 {
		s, p, q := samples.Statement(r.Intn), anywhere(r), anywhere(r)
		a, e := locale.Statement(s, p, rates)
		b, f := locale.Statement(s, q, rates)
		if e != api.OK || f != api.OK {
			t.Fatal(s, e, f)
		}
		if s.From == -1 {
			if a.From != -1 || a.To != -1 {
				t.Fatal(s, a)
			}
			continue
		}
		if a.From-s.From != p.Offset || a.To-s.To != p.Offset || a.From-b.From != p.Offset-q.Offset {
			t.Fatal(s, a, b)
		}
	}
}

func TestP16_6NothingElse(t *testing.T) {
	r := rand.New(rand.NewSource(6))
	for range 300 {
		x, p := random(r), anywhere(r)
		y, e := locale.Localize(x, p, rates)
		if e != api.OK || len(x.Nodes) != len(y.Nodes) {
			t.Fatal(e)
		}
		for i, n := range x.Nodes {
			m := y.Nodes[i]
			if m.Says.Who != n.Says.Who || m.Says.What != n.Says.What || m.Says.Whom != n.Says.Whom {
				t.Fatal(n, m)
			}
			if want, _ := locale.Statement(n.Says, p, rates); term.States(n.Kind) && m.Says != want {
				t.Fatal(n, m)
			}
			m.Says = n.Says
			if m != n {
				t.Fatal(n, m)
			}
		}
	}
}

func TestP16_7Commute(t *testing.T) {
	r := rand.New(rand.NewSource(7))
	g := samples.Grammars()
	for range 60 {
		y, e := locale.Localize(random(r), anywhere(r), rates)
		if e != api.OK {
			t.Fatal(e)
		}
		if translate(t, g[0], g[2], text(t, g[0], y)) != text(t, g[2], y) {
			t.Fatal(y)
		}
	}
}

func TestP16_4UnitsOfPlaces(t *testing.T) {
	for _, p := range []api.Place{{Units: 1, Money: 1}, {Units: 1, Money: 2}, {Units: 2, Money: 1}, {Units: 2, Money: 2}} {
		want := []int{0, api.UPeople, api.UMetre + p.Units - 1, api.UMetre + p.Units - 1, api.UKilogram + p.Units - 1, api.UKilogram + p.Units - 1, api.UCent + p.Money - 1, api.UCent + p.Money - 1}
		for u := 1; u <= 7; u++ {
			if a, e := locale.Amount(api.Amount{Lo: 5, Hi: 6, Unit: u}, p, rates); a.Unit != want[u] || e != api.OK {
				t.Error(p, u, a, e)
			}
		}
	}
}

func TestP16_5BeforeTheBeginning(t *testing.T) {
	west := api.Place{Offset: -60, Units: 1, Money: 1}
	for from, want := range map[int]api.Errno{59: api.ErrLocale, 60: api.OK, 0: api.ErrLocale} {
		if s, e := locale.Statement(api.Statement{Whom: -1, From: from, To: from}, west, rates); e != want || e == api.OK && s.From != 0 {
			t.Error(from, s, e)
		}
	}
	story := api.Term{Nodes: []api.Node{{Parent: -1, Kind: api.NStory}}}
	for i, c := range []struct {
		x api.Term
		p api.Place
		r api.Rates
	}{{api.Term{}, place, rates}, {story, api.Place{}, rates}, {story, place, api.Rates{}}} {
		if x, e := locale.Localize(c.x, c.p, c.r); x.Nodes != nil || e != api.ErrLocale {
			t.Error(i, e)
		}
	}
}
