package grammar_test

import (
	"math/rand"
	"reflect"
	"slices"
	"strings"
	"testing"

	"newswire/api"
	"newswire/grammar"
	"newswire/parse"
	"newswire/samples"
)

func say(t *testing.T, g api.Grammar, n api.Node) string {
	t.Helper()
	l, e := grammar.Say(g, n)
	if e != api.OK {
		t.Fatalf("Say of %v: %d", n, e)
	}
	return strings.Join(l, " ")
}

func sentence(who, whom int) api.Node {
	return api.Node{Kind: api.NSentence, Source: -1, Says: api.Statement{Who: who, Whom: whom, From: -1, To: -1}}
}

func leaf(r *rand.Rand) api.Node {
	return samples.Leaf(r.Intn, api.NSentence+r.Intn(6))
}

func TestP12_1Examples(t *testing.T) {
	g := samples.Small()
	not := sentence(0, 1)
	not.Source, not.Not = 0, true
	many := sentence(1, -1)
	many.Says.Count = api.Amount{Lo: 3, Hi: 3, Unit: api.UPeople}
	some := sentence(0, -1)
	some.Source, some.Says.From, some.Says.To = api.SomeSource, 84960, 84961
	some.Says.Count = api.Amount{Lo: 0, Hi: 21, Unit: api.UEuro}
	at := sentence(0, -1)
	at.Kind, at.Says.From, at.Says.To = api.NRow, 0, 0
	for _, c := range []struct {
		n api.Node
		s string
	}{
		{sentence(0, 1), "dot the minister warns to them senators"},
		{not, "dot per gazette the minister warns never to them senators"},
		{many, "dot the senators warn with three people"},
		{some, "dot per some the minister warns with between zero and twenty-one eurocents since 2000-02-29 00:00 until 2000-02-29 00:01"},
		{at, "row the minister warns at 2000-01-01 00:00"},
		{api.Node{Kind: api.NNotice, Fact: 3, Not: true}, "note"},
		{api.Node{Kind: api.NOwn, Text: "so they say"}, "own 3 so they say"},
	} {
		if s := say(t, g, c.n); s != c.s {
			t.Errorf("%q; want %q", s, c.s)
		}
	}
	if s, e := grammar.Form(g, 0, 1); s != "warn" || e != api.OK {
		t.Error(s, e)
	}
	if s, e := grammar.Article(g, 1, true); s != "them" || e != api.OK {
		t.Error(s, e)
	}
	words := grammar.Words(g)
	if !slices.IsSorted(words) || !slices.Contains(words, "minister") || !slices.Contains(words, "the") || len(words) != 2+2+1+7+10+11+2 {
		t.Error(words)
	}
}

func TestP12_1NotValid(t *testing.T) {
	for i, change := range []func(g *api.Grammar){
		func(g *api.Grammar) { g.Language = 0 }, func(g *api.Grammar) { g.Language = 4 }, func(g *api.Grammar) { g.Entities = nil }, func(g *api.Grammar) { g.Verbs = nil },
		func(g *api.Grammar) { g.Entities = make([]api.Entity, 21) }, func(g *api.Grammar) { g.Entities[0].Gender = 3 }, func(g *api.Grammar) { g.Entities[0].Gender = -1 },
		func(g *api.Grammar) { g.Units[0] = "x" }, func(g *api.Grammar) { g.Marks[0] = "x" }, func(g *api.Grammar) { g.Units[3] = "" }, func(g *api.Grammar) { g.Marks[10] = "" },
		func(g *api.Grammar) { g.Order = [5]int{2, 1, 3, 4, 5} }, func(g *api.Grammar) { g.Order = [5]int{1, 2, 3, 4, 4} }, func(g *api.Grammar) { g.Order = [5]int{} }, func(g *api.Grammar) { g.Order[0] = 6 },
		func(g *api.Grammar) { g.Entities[0].Word = "Minister" }, func(g *api.Grammar) { g.Entities[0].Word = "seven" }, func(g *api.Grammar) { g.Entities[0].Word = strings.Repeat("x", 21) }, func(g *api.Grammar) { g.Entities[0].Word = "dot" },
		func(g *api.Grammar) { g.Verbs[0].Many = "" }, func(g *api.Grammar) { g.Verbs[0].One = "per" }, func(g *api.Grammar) { g.Sources[0] = "fin" }, func(g *api.Grammar) { g.Sources = make([]string, 13) },
		func(g *api.Grammar) { g.End = "per" }, func(g *api.Grammar) { g.Until = "thousand" }, func(g *api.Grammar) { g.Not = "a b" },
		func(g *api.Grammar) { g.Subjects[5] = "" }, func(g *api.Grammar) { g.Objects[2] = "to" }, func(g *api.Grammar) { g.Subjects[0] = "one" }, func(g *api.Grammar) { g.Objects[0] = "minister" },
	} {
		g := samples.Small()
		g.Entities, g.Verbs, g.Sources = slices.Clone(g.Entities), slices.Clone(g.Verbs), slices.Clone(g.Sources)
		change(&g)
		if grammar.Valid(g) || grammar.Sayable(g, sentence(0, 1)) || grammar.Words(g) != nil {
			t.Error(i, "is valid")
		}
		if l, e := grammar.Say(g, sentence(0, 1)); l != nil || e != api.ErrGrammar {
			t.Error(i, l, e)
		}
		if _, e := grammar.Form(g, 0, 0); e != api.ErrGrammar {
			t.Error(i, e)
		}
		if _, e := grammar.Article(g, 0, false); e != api.ErrGrammar {
			t.Error(i, e)
		}
	}
	g := samples.Small()
	g.Verbs = []api.Verb{{One: "warns", Many: "warns"}}
	g.Language, g.Entities[0].Word = api.LGerman, "seven"
	if !grammar.Valid(g) {
		t.Error("a word that is a number elsewhere alone")
	}
}

func TestP12_1NotSayable(t *testing.T) {
	g := samples.Small()
	for i, change := range []func(n *api.Node){
		func(n *api.Node) { n.Kind = api.NStory }, func(n *api.Node) { n.Kind = 11 }, func(n *api.Node) { n.Kind = -1 }, func(n *api.Node) { n.Source = 1 }, func(n *api.Node) { n.Source = -2 },
		func(n *api.Node) { n.Says.Who = 2 }, func(n *api.Node) { n.Says.Who = -1 }, func(n *api.Node) { n.Says.Whom = 2 }, func(n *api.Node) { n.Says.Whom = -2 }, func(n *api.Node) { n.Says.What = 1 },
		func(n *api.Node) { n.Says.Count.Lo = 1 }, func(n *api.Node) { n.Says.Count = api.Amount{Lo: 2, Hi: 1, Unit: 1} }, func(n *api.Node) { n.Says.Count = api.Amount{Hi: 1000000, Unit: 1} }, func(n *api.Node) { n.Says.Count.Unit = 8 },
		func(n *api.Node) { n.Says.From = 0 }, func(n *api.Node) { n.Says.To = 0 }, func(n *api.Node) { n.Says.From, n.Says.To = 5, 4 }, func(n *api.Node) { n.Says.From, n.Says.To = 0, api.MaxTime+1 },
	} {
		n := sentence(0, 1)
		change(&n)
		if l, e := grammar.Say(g, n); l != nil || e != api.ErrGrammar || grammar.Sayable(g, n) {
			t.Error(i, l, e)
		}
	}
	for _, s := range []string{"", " ", "a  b", " a", "a ", "A", "a-b", strings.Repeat("x", 201)} {
		if grammar.Sayable(g, api.Node{Kind: api.NOwn, Text: s}) {
			t.Errorf("%q", s)
		}
	}
	if !grammar.Sayable(g, api.Node{Kind: api.NOwn, Text: strings.Repeat("x", 200)}) || !grammar.Sayable(g, api.Node{Kind: api.NQuote, Source: -1, Says: sentence(0, 1).Says}) {
		t.Error("what can be said")
	}
	for _, a := range [][2]int{{1, 0}, {-1, 0}, {0, 2}, {0, -1}} {
		if s, e := grammar.Form(g, a[0], a[1]); s != "" || e != api.ErrGrammar {
			t.Error(a, s, e)
		}
	}
	if s, e := grammar.Article(g, 2, false); s != "" || e != api.ErrGrammar {
		t.Error(s, e)
	}
}

// told is what the words of a node tell about it.
func told(n api.Node) api.Node {
	n.Fact, n.Version = 0, 0
	if n.Kind == api.NNotice {
		n.Not = false
	}
	return n
}

func TestP12_2NoDoubt(t *testing.T) {
	r := rand.New(rand.NewSource(1))
	for _, g := range samples.Grammars() {
		seen := map[string]api.Node{}
		for range 2000 {
			n := leaf(r)
			s := say(t, g, n)
			if m, ok := seen[s]; ok && m != told(n) {
				t.Fatalf("%v and %v are %q", m, n, s)
			}
			seen[s] = told(n)
			m := n
			switch r.Intn(4) {
			case 0:
				m.Source = samples.Source(r.Intn)
			case 1:
				m.Not = !m.Not
			case 2:
				m.Says.Count = samples.Amount(r.Intn)
			case 3:
				m.Says.From, m.Says.To = -1, -1
			}
			if n.Kind <= api.NRow && (say(t, g, m) == s) != (m == n) {
				t.Fatalf("%v and %v are %q", m, n, s)
			}
		}
	}
}

func TestP12_2Lists(t *testing.T) {
	r := rand.New(rand.NewSource(5))
	for i := range 100 {
		g := samples.Grammar(1 + i%3)
		var l []api.Node
		var words []string
		for range 1 + r.Intn(5) {
			n := leaf(r)
			said, _ := grammar.Say(g, n)
			l, words = append(l, n), append(words, said...)
		}
		at := 0
		for _, n := range l {
			m, next, e := parse.Leaf(g, words, at)
			m.Parent = 0
			if e != api.OK || m != told(n) {
				t.Fatalf("%v is read as %v", n, m)
			}
			at = next
		}
		if at != len(words) {
			t.Fatal("words are left")
		}
	}
}

func TestP12_3Agreement(t *testing.T) {
	for _, g := range samples.Grammars() {
		for a := range g.Entities {
			for b := range g.Entities {
				if a == b || g.Entities[a].Gender != g.Entities[b].Gender || g.Entities[a].Many != g.Entities[b].Many {
					continue
				}
				x, y := strings.Fields(say(t, g, sentence(a, 1))), strings.Fields(say(t, g, sentence(b, 1)))
				changed := 0
				for i := range x {
					if x[i] != y[i] {
						changed++
					}
				}
				f, _ := grammar.Form(g, 3, a)
				h, _ := grammar.Form(g, 3, b)
				if changed != 1 || f != h {
					t.Error(a, b, changed)
				}
			}
		}
	}
}

func TestP12_4Parts(t *testing.T) {
	r := rand.New(rand.NewSource(2))
	for _, g := range samples.Grammars() {
		for range 300 {
			n := samples.Leaf(r.Intn, api.NSentence)
			n.Not = false
			l, _ := grammar.Say(g, n)
			m := n
			m.Not = true
			k, _ := grammar.Say(g, m)
			i := slices.Index(k, g.Not)
			if len(k) != len(l)+1 || !slices.Equal(slices.Delete(k, i, i+1), l) {
				t.Fatal(n)
			}
			where := map[int]int{api.PSubject: slices.Index(l, g.Entities[n.Says.Who].Word)}
			f, _ := grammar.Form(g, n.Says.What, n.Says.Who)
			where[api.PVerb], where[api.PObject], where[api.PCount] = slices.Index(l, f), slices.Index(l, g.Object), slices.Index(l, g.Count)
			where[api.PTime] = max(slices.Index(l, g.At), slices.Index(l, g.Since))
			last := 0
			for _, p := range g.Order {
				if where[p] >= 0 && where[p] <= last {
					t.Fatal(g.Language, n, l)
				}
				last = max(last, where[p])
			}
			if (where[api.PObject] < 0) != (n.Says.Whom == -1) || (where[api.PCount] < 0) != (n.Says.Count.Unit == 0) || (where[api.PTime] < 0) != (n.Says.From == -1) || l[0] != g.Marks[n.Kind] || (l[1] == g.Per) != (n.Source != -1) {
				t.Fatal(n, l)
			}
		}
	}
}

func TestP12_5Languages(t *testing.T) {
	r := rand.New(rand.NewSource(3))
	for range 500 {
		n := leaf(r)
		if r.Intn(3) == 0 {
			n.Says.Who, n.Source = r.Intn(30), r.Intn(20)
		}
		g := samples.Grammars()
		if a, b, c := grammar.Sayable(g[0], n), grammar.Sayable(g[1], n), grammar.Sayable(g[2], n); a != b || b != c {
			t.Fatal(n)
		}
	}
}

func TestP12_6Exchange(t *testing.T) {
	r := rand.New(rand.NewSource(4))
	for range 200 {
		g := samples.Grammar(1 + r.Intn(3))
		h := g
		h.Entities, h.Sources = slices.Clone(g.Entities), slices.Clone(g.Sources)
		a, b := r.Intn(20), r.Intn(20)
		h.Entities[a].Word, h.Entities[b].Word = g.Entities[b].Word, g.Entities[a].Word
		h.Sources[0], h.Sources[1] = g.Sources[1], g.Sources[0]
		if !grammar.Valid(h) || !reflect.DeepEqual(grammar.Words(g), grammar.Words(h)) {
			t.Fatal("not valid")
		}
		n := sentence(a, -1)
		n.Source = 0
		other := strings.NewReplacer(g.Entities[a].Word, g.Entities[b].Word, g.Sources[0], g.Sources[1])
		if say(t, h, n) != other.Replace(say(t, g, n)) {
			t.Fatal(say(t, h, n))
		}
	}
}

func TestP12_1Limits(t *testing.T) {
	g := samples.Small()
	g.Entities = []api.Entity{{Word: strings.Repeat("x", 20), Gender: 2}}
	g.Sources = nil
	if !grammar.Valid(g) {
		t.Error("the smallest grammar")
	}
	for _, s := range []string{"a", "z", "0", "9", "az09 x"} {
		if !grammar.Sayable(g, api.Node{Kind: api.NOwn, Text: s}) {
			t.Error(s)
		}
	}
	for _, s := range []string{"`", "{", "/", ":", "a_"} {
		if grammar.Sayable(g, api.Node{Kind: api.NOwn, Text: s}) {
			t.Error(s)
		}
	}
	n := sentence(0, -1)
	n.Says.Count, n.Says.From, n.Says.To = api.Amount{Lo: 0, Hi: 999999, Unit: 7}, 0, api.MaxTime
	if !grammar.Sayable(g, n) {
		t.Error("the greatest numbers")
	}
	n.Says.Count, n.Says.From = api.Amount{Unit: 1}, api.MaxTime
	if s := say(t, g, n); !strings.Contains(s, "with zero people at 2095-") {
		t.Error(s)
	}
}

func TestP12_3Articles(t *testing.T) {
	g := samples.Small()
	g.Entities = nil
	for i := range 6 {
		g.Entities = append(g.Entities, api.Entity{Word: "entity-" + string(rune('a'+i)), Gender: i / 2, Many: i%2 == 1})
		g.Subjects[i], g.Objects[i] = "subject-"+string(rune('a'+i)), "object-"+string(rune('a'+i))
	}
	for i := range 6 {
		s, e := grammar.Article(g, i, false)
		o, f := grammar.Article(g, i, true)
		v, h := grammar.Form(g, 0, i)
		if s != g.Subjects[i] || o != g.Objects[i] || v != []string{"warns", "warn"}[i%2] || e != api.OK || f != api.OK || h != api.OK {
			t.Error(i, s, o, v)
		}
	}
}
