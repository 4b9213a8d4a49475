package standing_test

import (
	"math/rand"
	"slices"
	"testing"

	"newswire/api"
	"newswire/fact"
	"newswire/standing"
)

var (
	says  = api.Statement{Who: 1, What: 2, Whom: -1, From: -1, To: -1}
	rules = api.Rules{Flat: 2, Attributed: 1, Dispute: 1}
)

func example(sources ...int) api.File {
	return api.File{Sources: []api.Source{{ID: 0, Kind: api.SNamed}, {ID: 1, Kind: api.SNamed, From: []int{0}}, {ID: 2, Kind: api.SWithheld}}, Versions: []api.Version{{Fact: 3, Number: 1, Kind: api.VAssert, Says: says, At: 10, Sources: sources}}}
}

// with returns f with a further version of its fact 3.
func with(t *testing.T, f api.File, kind int, at int, sources ...int) api.File {
	t.Helper()
	last, _ := fact.Newest(f, 3, api.MaxTime)
	g, e := fact.Add(f, api.Version{Fact: 3, Number: last.Number + 1, Kind: kind, Says: says, At: at, Sources: sources})
	if e != api.OK {
		t.Fatal(e)
	}
	return g
}

// some returns a file with a fact whose base and disputes have random sources.
func some(r *rand.Rand) api.File {
	var f api.File
	pick := func(n int) []int {
		l := r.Perm(n)[:1+r.Intn(min(n, 4))]
		slices.Sort(l)
		return l
	}
	for id := range 8 {
		s := api.Source{ID: id, Kind: 1 + r.Intn(2)}
		if id > 2 && r.Intn(2) == 0 {
			s.From = pick(id)[:1]
		}
		f.Sources = append(f.Sources, s)
	}
	f.Versions = append(f.Versions, api.Version{Fact: 3, Number: 1, Kind: api.VAssert, Says: says, Sources: pick(8)})
	for i := range r.Intn(3) {
		f.Versions = append(f.Versions, api.Version{Fact: 3, Number: 2 + i, Kind: api.VDispute, Says: says, At: 1, Sources: pick(8)})
	}
	return f
}

func someRules(r *rand.Rand) api.Rules {
	flat := 1 + r.Intn(4)
	k := api.Rules{Flat: flat, Attributed: 1 + r.Intn(flat), Dispute: r.Intn(3), Withheld: r.Intn(2) == 0}
	if k.Withheld {
		k.Covert = k.Attributed + r.Intn(2)
	}
	return k
}

func of(t *testing.T, f api.File, r api.Rules, wire int) api.Standing {
	t.Helper()
	s, e := standing.Of(f, r, 3, wire)
	if e != api.OK {
		t.Fatal(e)
	}
	return s
}

func TestP9_1Examples(t *testing.T) {
	covert := api.Rules{Flat: 2, Attributed: 1, Dispute: 1, Withheld: true, Covert: 1}
	for _, c := range []struct {
		f    api.File
		r    api.Rules
		want api.Standing
	}{
		{example(0, 1), rules, api.Standing{Kind: api.SAttributed, Source: 0, Version: 1, Support: 1}},
		{example(0, 2), rules, api.Standing{Kind: api.SFlat, Source: -1, Version: 1, Support: 2}},
		{example(2), rules, api.Standing{Source: -1, Version: 1, Support: 1}},
		{example(2), covert, api.Standing{Kind: api.SAttributed, Source: api.SomeSource, Version: 1, Support: 1}},
		{with(t, example(0, 2), api.VDispute, 20, 1), rules, api.Standing{Kind: api.SAttributed, Source: 0, Version: 1, Support: 2, Against: 1}},
	} {
		if s := of(t, c.f, c.r, 30); s != c.want {
			t.Errorf("%v; want %v", s, c.want)
		}
	}
	if s := of(t, example(0), rules, 9); s != (api.Standing{Source: -1}) {
		t.Error("before it was asserted", s)
	}
	if l, e := standing.All(example(0), rules, 30); len(l) != 16 || e != api.OK || l[3].Kind != api.SAttributed || l[4] != (api.Standing{Source: -1}) {
		t.Error(l, e)
	}
}

func TestP9_1Errors(t *testing.T) {
	for _, r := range []api.Rules{{}, {Flat: 13, Attributed: 1}, {Flat: 1, Attributed: 2}, {Flat: 2, Attributed: 0}, {Flat: 2, Attributed: 1, Dispute: 13}, {Flat: 2, Attributed: 1, Dispute: -1}, {Flat: 2, Attributed: 1, Covert: 1}, {Flat: 3, Attributed: 2, Withheld: true, Covert: 1}, {Flat: 3, Attributed: 2, Withheld: true, Covert: 13}} {
		if _, e := standing.Of(example(0), r, 3, 10); standing.Valid(r) || e != api.ErrStanding {
			t.Error(r, e)
		}
		if l, e := standing.All(example(0), r, 10); l != nil || e != api.ErrStanding {
			t.Error(r, e)
		}
	}
	for _, a := range [][2]int{{-1, 0}, {16, 0}, {3, -1}, {3, api.MaxTime + 1}} {
		if s, e := standing.Of(example(0), rules, a[0], a[1]); s != (api.Standing{}) || e != api.ErrStanding {
			t.Error(a, s, e)
		}
	}
	if _, e := standing.Of(example(), rules, 3, 10); e != api.ErrStanding {
		t.Error("a file that is not valid", e)
	}
	f := example(0)
	f.Sources = []api.Source{{ID: 0, Kind: 1}, {ID: 1, Kind: 1}, {ID: 2, Kind: 1}, {ID: 3, Kind: 1}, {ID: 4, Kind: 1, From: []int{0, 1, 2, 3}}}
	if s := of(t, f, rules, 10); s != (api.Standing{Source: -1, Version: 1}) {
		t.Error("sources that cannot be counted", s)
	}
}

func TestP9_2More(t *testing.T) {
	r := rand.New(rand.NewSource(1))
	for range 2000 {
		f, k := some(r), someRules(r)
		s := of(t, f, k, 5)
		less := k
		less.Flat = max(less.Attributed, less.Flat-1)
		less.Dispute = max(0, less.Dispute-1)
		if of(t, f, less, 5).Kind < s.Kind {
			t.Fatal(f, k)
		}
		id := r.Intn(8)
		base := &f.Versions[0]
		named := slices.ContainsFunc(base.Sources, func(id int) bool { return f.Sources[id].Kind == api.SNamed })
		if slices.Contains(base.Sources, id) || !named && f.Sources[id].Kind == api.SNamed {
			continue
		}
		base.Sources = append(slices.Clone(base.Sources), id)
		slices.Sort(base.Sources)
		if of(t, f, k, 5).Kind < s.Kind {
			t.Fatal("one more source harms", f, k)
		}
	}
}

func TestP9_3Copies(t *testing.T) {
	r := rand.New(rand.NewSource(2))
	for range 1000 {
		f, k := some(r), someRules(r)
		s := of(t, f, k, 5)
		base := &f.Versions[0]
		named := slices.ContainsFunc(base.Sources, func(id int) bool { return f.Sources[id].Kind == api.SNamed })
		f.Sources = append(f.Sources, api.Source{ID: 8, Kind: 1 + r.Intn(2), From: base.Sources[:1]})
		base.Sources = append(slices.Clone(base.Sources), 8)
		if more := of(t, f, k, 5); more.Support != s.Support || named && more.Kind != s.Kind {
			t.Fatal(f, k, s, more)
		}
	}
}

func TestP9_4Disputes(t *testing.T) {
	r := rand.New(rand.NewSource(3))
	for range 500 {
		f, k := some(r), someRules(r)
		if len(f.Versions) > 5 {
			continue
		}
		g := with(t, f, api.VDispute, 3, r.Intn(8))
		if of(t, g, k, 5).Kind > of(t, f, k, 5).Kind {
			t.Fatal(f, k)
		}
		for _, kind := range []int{api.VWithdraw, api.VKill} {
			if s := of(t, with(t, f, kind, 4), k, 5); s != (api.Standing{Source: -1}) {
				t.Fatal(kind, s)
			}
		}
	}
}

func TestP9_5TwoTimes(t *testing.T) {
	f := example(0)
	g := with(t, f, api.VKill, 20)
	g, _ = fact.Add(g, api.Version{Fact: 5, Number: 1, Kind: api.VAssert, Says: says, At: 1, Sources: []int{0}})
	for w := range 20 {
		if of(t, f, rules, w) != of(t, g, rules, w) {
			t.Error(w)
		}
	}
	if of(t, g, rules, 20).Kind != api.SNone {
		t.Error("killed")
	}
}

func node(source int) api.Node {
	return api.Node{Kind: api.NSentence, Fact: 3, Version: 1, Source: source, Says: says}
}

func TestP9_6May(t *testing.T) {
	flat, attributed := example(0, 2), with(t, example(0, 2), api.VDispute, 20, 1)
	no := func(n api.Node) api.Node { n.Not, n.Version = true, 2; return n }
	quote, other, old, odd := node(0), node(0), node(0), node(0)
	quote.Kind, other.Says.Who, old.Version, odd.Kind = api.NQuote, 7, 0, api.NNotice
	alone := quote
	alone.Source = -1
	covert := api.Rules{Flat: 2, Attributed: 1, Withheld: true, Covert: 1}
	for i, c := range []struct {
		f  api.File
		r  api.Rules
		n  api.Node
		ok bool
	}{
		{flat, rules, node(-1), true}, {flat, rules, node(0), true}, {flat, rules, node(2), false}, {flat, rules, node(1), false}, {flat, rules, node(-2), false},
		{flat, rules, quote, true}, {flat, rules, alone, false}, {flat, rules, other, false}, {flat, rules, old, false}, {flat, rules, odd, false}, {flat, rules, no(node(1)), false},
		{attributed, rules, node(-1), false}, {attributed, rules, node(0), true}, {attributed, rules, no(node(1)), true}, {attributed, rules, no(node(0)), false}, {attributed, rules, no(node(-1)), false},
		{example(2), rules, node(api.SomeSource), false}, {example(2), covert, node(api.SomeSource), true}, {example(0), covert, node(api.SomeSource), false},
		{example(0), api.Rules{}, node(0), false}, {with(t, flat, api.VKill, 25), rules, node(0), false},
	} {
		if standing.May(c.f, c.r, 30, c.n) != c.ok {
			t.Error(i, c.n)
		}
	}
	withheld := with(t, example(0), api.VDispute, 20, 2)
	if standing.May(withheld, rules, 30, no(node(2))) {
		t.Error("a withheld source that disputes is named")
	}
}

func TestP9_6SomeWay(t *testing.T) {
	r := rand.New(rand.NewSource(4))
	for range 500 {
		f, k := some(r), someRules(r)
		s := of(t, f, k, 5)
		n := node(s.Source)
		if standing.May(f, k, 5, n) != (s.Kind != api.SNone) {
			t.Fatal(f, k, s)
		}
		if standing.May(f, k, 5, node(-1)) != (s.Kind == api.SFlat) {
			t.Fatal(f, k, s)
		}
	}
}

func TestP9_1Limits(t *testing.T) {
	for _, r := range []api.Rules{{Flat: 1, Attributed: 1}, {Flat: 12, Attributed: 12, Dispute: 12, Withheld: true, Covert: 12}, {Flat: 3, Attributed: 2, Withheld: true, Covert: 2}} {
		if !standing.Valid(r) {
			t.Error(r)
		}
	}
	for _, a := range [][2]int{{0, 0}, {15, api.MaxTime}} {
		if s, e := standing.Of(example(0), rules, a[0], a[1]); s != (api.Standing{Source: -1}) || e != api.OK {
			t.Error(a, s, e)
		}
	}
	f := example(0)
	f.Versions[0].Fact = 15
	if s, e := standing.Of(f, rules, 15, 10); s.Kind != api.SAttributed || e != api.OK {
		t.Error(s, e)
	}
	row := node(0)
	row.Kind = api.NRow
	if !standing.May(example(0), rules, 30, row) {
		t.Error("a row")
	}
}
