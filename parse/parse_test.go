package parse_test

import (
	"math/rand"
	"slices"
	"strings"
	"testing"

	"newswire/api"
	"newswire/grammar"
	"newswire/parse"
	"newswire/render"
	"newswire/samples"
	"newswire/term"
)

func random(r *rand.Rand) api.Term {
	return samples.Term(r.Intn, 2+r.Intn(28))
}

func text(t *testing.T, g api.Grammar, x api.Term) string {
	t.Helper()
	p, e := render.Render(g, x)
	if e != api.OK {
		t.Fatal(e)
	}
	return p.Text
}

func TestP15_1Split(t *testing.T) {
	for s, n := range map[string]int{"": 0, "a": 1, " ": 2, "a b": 2, " a  b ": 5} {
		if l := parse.Split(s); len(l) != n || strings.Join(l, " ") != s {
			t.Errorf("%q: %q", s, l)
		}
	}
}

func TestP15_1Examples(t *testing.T) {
	g := samples.Small()
	x, n, e := parse.Parse(g, "tale dot the minister warns to them senators fin")
	want := api.Term{Nodes: []api.Node{{Parent: -1, Kind: api.NStory}, {ID: 1, Kind: api.NSentence, Source: -1, Says: api.Statement{Whom: 1, From: -1, To: -1}}}}
	if !term.Same(x, want) || n != 9 || e != api.OK {
		t.Error(x, n, e)
	}
	l, n, e := parse.Leaf(g, parse.Split("x dot the minister warns own"), 1)
	if l != (api.Node{Parent: -1, Kind: api.NSentence, Source: -1, Says: api.Statement{Whom: -1, From: -1, To: -1}}) || n != 5 || e != api.OK {
		t.Error(l, n, e)
	}
	if l, n, e := parse.Leaf(g, []string{"note"}, 0); l != (api.Node{Parent: -1, Kind: api.NNotice}) || n != 1 || e != api.OK {
		t.Error(l, n, e)
	}
}

func TestP15_1FirstWrongWord(t *testing.T) {
	g := samples.Small()
	g.Objects = [6]string{"them", "themselves", "x", "x", "x", "x"}
	long := strings.Repeat("x", 150)
	for s, n := range map[string]int{
		"":                       0,
		" ":                      0,
		"foo":                    0,
		"dot the senators warns": 3,
		"dot the minister warns with three people people":                      7,
		"quote the minister warns":                                             1,
		"quote per the minister warns":                                         2,
		"dot the minister":                                                     3,
		"dot":                                                                  1,
		"dot minister":                                                         1,
		"dot the them":                                                         2,
		"dot them minister warns":                                              1,
		"dot the minister warns never never":                                   5,
		"row the minister warns never":                                         4,
		"dot per":                                                              2,
		"dot per foo the minister warns":                                       2,
		"dot the minister warns to":                                            5,
		"dot the minister warns to them senators":                              6,
		"dot the minister warns to themselves senators to":                     7,
		"dot the minister warns with people":                                   5,
		"dot the minister warns with three":                                    6,
		"dot the minister warns with three four people":                        6,
		"dot the minister warns with between three and three people":           8,
		"dot the minister warns with between three and two people":             8,
		"dot the minister warns with between three four people":                7,
		"dot the minister warns at 2000-01-01":                                 6,
		"dot the minister warns at 2000-01-32 00:00":                           5,
		"dot the minister warns at 2000-01-01 24:00":                           6,
		"dot the minister warns at 1999-12-31 23:59":                           5,
		"dot the minister warns at 2000-01-01 00:00 with one people":           7,
		"dot the minister warns since 2000-01-02 00:05 until 2000-01-02 00:05": 9,
		"dot the minister warns since 2000-01-02 00:05 until 2000-01-01 00:06": 8,
		"dot the minister warns since 2000-01-02 00:05 2000-01-03 00:05":       7,
		"dot the minister warns since 2000-01-02 23:59 until 2000-01-02 23:59": 8,
		"dot the minister warns since 2095-01-24 05:20 until 2095-01-24 05:20": 8,
		"dot the minister warns since 2095-01-24 05:21 until 2095-01-24 05:20": 6,
		"note note":                        1,
		"own 0":                            1,
		"own 01 x":                         1,
		"own 101 x":                        1,
		"own +1 x":                         1,
		"own x":                            1,
		"own 2 x":                          3,
		"own 2 x X":                        3,
		"own 2 x ":                         3,
		"own 2 " + long + " " + long:       3,
		"tale":                             1,
		"tale fin fin":                     2,
		"tale tale fin fin":                1,
		"para head the minister warns fin": 1,
		"tale para head the minister warns fin fin":    2,
		"tale row the minister warns fin":              1,
		"table dot the minister warns fin":             1,
		"table note fin":                               1,
		"table para fin fin":                           1,
		"tale foo fin":                                 1,
		"fin":                                          0,
		strings.TrimSpace(strings.Repeat("para ", 41)): 40,
		strings.TrimSpace(strings.Repeat("para ", 40)): 40,
	} {
		if x, at, e := parse.Parse(g, s); x.Nodes != nil || at != n || e != api.ErrParse {
			t.Errorf("%q: %v, %d, %d; want %d", s, x, at, e, n)
		}
		if l, e := parse.Stated(g, s); l != nil || e != api.ErrParse {
			t.Errorf("%q: %v, %d", s, l, e)
		}
	}
	for _, s := range []string{"head the minister warns", "row the minister warns", "table row the minister warns fin", "own 2 " + long + " " + long[:49], strings.Repeat("para ", 39) + "note" + strings.Repeat(" fin", 39), "tale fin", "dot the minister warns since 2000-01-02 23:59 until 2000-01-03 00:00"} {
		if _, _, e := parse.Parse(g, s); e != api.OK {
			t.Errorf("%q cannot be read", s)
		}
	}
	for _, at := range []int{-1, 5} {
		if n, next, e := parse.Leaf(g, []string{"note"}, at); n.Kind != 0 || next != 0 || e != api.ErrParse {
			t.Error(at, next, e)
		}
	}
	if n, next, e := parse.Leaf(g, []string{"note"}, 1); n.Kind != 0 || next != 1 || e != api.ErrParse {
		t.Error(next, e)
	}
	if _, next, e := parse.Leaf(g, []string{"tale"}, 0); next != 0 || e != api.ErrParse {
		t.Error(next, e)
	}
	if _, next, e := parse.Parse(api.Grammar{}, "dot"); next != 0 || e != api.ErrParse {
		t.Error(next, e)
	}
}

func TestP15_2ThereAndBack(t *testing.T) {
	r := rand.New(rand.NewSource(1))
	for i := range 400 {
		g, x := samples.Grammar(1+i%3), random(r)
		s := text(t, g, x)
		b, _ := term.Bare(x)
		if y, n, e := parse.Parse(g, s); !term.Same(b, y) || n != len(parse.Split(s)) || e != api.OK {
			t.Fatal(s, n, e)
		}
	}
	for i := range 500 {
		g, n := samples.Grammar(1+i%3), samples.Leaf(r.Intn, api.NSentence+r.Intn(6))
		l, _ := grammar.Say(g, n)
		n.Parent, n.Fact, n.Version = -1, 0, 0
		if n.Kind == api.NNotice {
			n.Not = false
		}
		if m, next, e := parse.Leaf(g, append([]string{"x"}, l...), 1); m != n || next != 1+len(l) || e != api.OK {
			t.Fatal(n, m, next, e)
		}
	}
}

// changed returns words in which one is another one, or that are cut off.
func changed(r *rand.Rand, words []string, all []string) ([]string, int) {
	l := slices.Clone(words)
	i := r.Intn(len(l))
	switch r.Intn(4) {
	case 0:
		return l[:i], i
	case 1:
		l[i] = l[r.Intn(len(l))]
	default:
		l[i] = all[r.Intn(len(all))]
	}
	return l, i
}

func TestP15_3NothingElse(t *testing.T) {
	r := rand.New(rand.NewSource(2))
	for i := range 2000 {
		g := samples.Grammar(1 + i%3)
		l, _ := changed(r, parse.Split(text(t, g, samples.Term(r.Intn, 2+r.Intn(6)))), grammar.Words(g))
		s := strings.Join(l, " ")
		if x, n, e := parse.Parse(g, s); e == api.OK && (!term.Valid(x) || text(t, g, x) != s || n != len(l)) {
			t.Fatal(s)
		}
	}
}

func TestP15_4Near(t *testing.T) {
	r := rand.New(rand.NewSource(3))
	for i := range 1500 {
		g := samples.Grammar(1 + i%3)
		l, at := changed(r, parse.Split(text(t, g, random(r))), grammar.Words(g))
		_, n, e := parse.Parse(g, strings.Join(l, " "))
		if e == api.OK {
			continue
		}
		if n < at-10 {
			t.Fatal(at, n)
		}
		if end := n + 11; end < len(l) {
			if _, m, e := parse.Parse(g, strings.Join(l[:end], " ")); m != n || e != api.ErrParse {
				t.Fatal("what comes later plays a part", n, m)
			}
		}
	}
}

func TestP15_5Stated(t *testing.T) {
	r := rand.New(rand.NewSource(4))
	for i := range 300 {
		g, x := samples.Grammar(1+i%3), random(r)
		l, e := parse.Stated(g, text(t, g, x))
		if e != api.OK {
			t.Fatal(e)
		}
		for _, n := range x.Nodes {
			if !term.States(n.Kind) {
				continue
			}
			if len(l) == 0 || l[0].Kind != n.Kind || l[0].Not != n.Not || l[0].Source != n.Source || l[0].Says != n.Says {
				t.Fatal(n, l)
			}
			l = l[1:]
		}
		if len(l) > 0 {
			t.Fatal("more is stated")
		}
	}
}

func TestP15_6SameWords(t *testing.T) {
	r := rand.New(rand.NewSource(5))
	g := samples.Grammar(2)
	for range 200 {
		x := random(r)
		whole := text(t, g, x)
		read, _, _ := parse.Parse(g, whole)
		for _, c := range term.Children(x, 0) {
			sub, _ := term.Subtree(x, c)
			s := text(t, g, sub)
			if !strings.Contains(whole, s) {
				t.Fatal(s)
			}
			if y, _, _ := parse.Parse(g, s); (s == whole) != term.Same(y, read) {
				t.Fatal(s)
			}
		}
	}
}

func TestP15_1Limits(t *testing.T) {
	g := samples.Small()
	hundred := strings.TrimSpace(strings.Repeat("x ", 100))
	for _, s := range []string{"own 100 " + hundred, "own 1 z9", "dot the minister warns with zero people", "dot the minister warns at 2000-01-01 00:00", "dot the minister warns since 2000-01-01 00:00 until 2000-01-01 00:01", "dot the minister warns since 2000-01-01 23:58 until 2000-01-01 23:59", "dot the minister warns since 2095-01-24 05:19 until 2095-01-24 05:20", "dot the minister warns with between zero and nine hundred ninety-nine thousand nine hundred ninety-nine people"} {
		x, n, e := parse.Parse(g, s)
		if e != api.OK || n != len(parse.Split(s)) || text(t, g, x) != s {
			t.Errorf("%q: %d, %d", s, n, e)
		}
	}
	for s, n := range map[string]int{"own 2 " + strings.Repeat("x", 100) + " " + strings.Repeat("x", 100): 3, "own 1 " + strings.Repeat("x", 201): 2, "dot the minister warns since 2000-01-01 23:59 until 2000-01-01 23:59": 8} {
		if _, at, e := parse.Parse(g, s); at != n || e != api.ErrParse {
			t.Error(s, at, e)
		}
	}
}
