package service_test

import (
	"math/rand"
	"reflect"
	"slices"
	"strings"
	"testing"

	"newswire/api"
	"newswire/book"
	"newswire/digest"
	"newswire/disk"
	"newswire/fact"
	"newswire/label"
	"newswire/lineage"
	"newswire/merge"
	"newswire/meter"
	"newswire/relay"
	"newswire/render"
	"newswire/samples"
	"newswire/service"
	"newswire/standing"
	"newswire/term"
)

var says = api.Statement{Who: 2, Whom: 3, From: -1, To: -1}

func none(n int) []int { return slices.Repeat([]int{-1}, n) }

func setup() api.Setup {
	u := api.Setup{
		Rules:    api.Rules{Flat: 2, Attributed: 1},
		Grammars: samples.Grammars(),
		Sources:  []api.Source{{ID: 0, Kind: api.SNamed}, {ID: 2, Kind: api.SNamed}, {ID: 3, Kind: api.SNamed, From: []int{0}}, {ID: 5, Kind: api.SWithheld}},
		Tariff:   api.Tariff{Bureaus: none(16), Translators: none(4), Sources: none(12), Parts: [3]int{60, 20, 20}},
		Price:    100,
		Readers:  []api.Reader{{}, {Territory: 1}, {Class: 2}},
		Paper:    200,
	}
	u.Tariff.Bureaus[3], u.Tariff.Translators[2], u.Tariff.Sources[2] = 1, 2, 3
	return u
}

func file(desk, at, f, kind int, sources ...int) api.Event {
	return api.Event{Kind: api.WFile, At: at, Desk: desk, Filing: api.Filing{Fact: f, Kind: kind, Says: says, Sources: sources}}
}

func story(at int, facts ...int) api.Event {
	return api.Event{Kind: api.WStory, At: at, Facts: facts}
}

func print(at, story, copy, language, reader int) api.Event {
	return api.Event{Kind: api.WPrint, At: at, Story: story, Copy: copy, Language: language, Reader: reader}
}

func run(t *testing.T, u api.Setup, l ...api.Event) api.Service {
	t.Helper()
	s, acted, e := service.Run(u, l)
	if e != api.OK || len(acted) != len(l) {
		t.Fatal(e)
	}
	for i, ok := range acted {
		if !ok {
			t.Fatal("does not act:", i, l[i])
		}
	}
	return s
}

func do(t *testing.T, u api.Setup, s api.Service, e api.Event) api.Service {
	t.Helper()
	next, f := service.Do(u, s, e)
	if f != api.OK {
		t.Fatal(e, f)
	}
	return next
}

func quiet(t *testing.T, u api.Setup, s api.Service) api.Service {
	t.Helper()
	q, e := service.Quiet(u, s)
	if e != api.OK {
		t.Fatal(e)
	}
	return q
}

func shown(t *testing.T, u api.Setup, s api.Service, story, copy int) api.Term {
	t.Helper()
	x, e := service.Shown(u, s, story, copy)
	if e != api.OK {
		t.Fatal(e)
	}
	return x
}

func facts(t *testing.T, d api.Desk) api.File {
	t.Helper()
	f, _, e := merge.Facts(d)
	if e != api.OK {
		t.Fatal(e)
	}
	return f
}

// some is a random event at a minute, which may act or not.
func some(r *rand.Rand, at int) api.Event {
	e := api.Event{Kind: 1 + r.Intn(11), At: at, Desk: r.Intn(2), Story: r.Intn(3), Copy: r.Intn(3), Number: r.Intn(4), Language: 1 + r.Intn(3), Reader: r.Intn(3), Relay: r.Intn(2), Fact: r.Intn(4), Label: label.None()}
	e.Other = 1 - e.Desk
	switch e.Kind {
	case api.WFile:
		e.Filing = api.Filing{Fact: r.Intn(4), Kind: []int{1, 1, 1, 2, 2, 3, 4, 5}[r.Intn(8)], Says: says, Sources: [][]int{{0}, {2}, {0, 2}, {3}, {5}}[r.Intn(5)]}
		e.Filing.Says.Who = r.Intn(2)
	case api.WStory:
		e.Facts = r.Perm(4)[:1+r.Intn(4)]
	case api.WLabel:
		e.Label.Until, e.Label.Classes = r.Intn(2)*r.Intn(60), 255&^r.Intn(8)
	case api.WDeliver:
		e.Story, e.Copy, e.Number = r.Intn(2), 1+r.Intn(2), 1+r.Intn(2)
	case api.WCopy:
		e.Story, e.Copy = r.Intn(2), r.Intn(2)
		id := 1 + r.Intn(4)
		e.Edits = [][]api.Edit{nil, {{Kind: api.ECut, Node: id}}, {{Kind: api.EOwn, Node: id, Text: "so we say"}}, {{Kind: api.EMove, Node: id}}}[r.Intn(4)]
	case api.WHear:
		e.Other = 1 - e.Relay
	}
	return e
}

// events are some that lead somewhere: facts and stories come first.
func events(r *rand.Rand, n int) []api.Event {
	l := []api.Event{
		file(0, 0, 0, 1, 0), file(1, 0, 1, 1, 0, 2), file(0, 1, 2, 1, 2), story(1, 0, 2), story(2, 2, 1, 0),
		{Kind: api.WCopy, At: 2}, {Kind: api.WCopy, At: 2, Copy: 1, Edits: []api.Edit{{Kind: api.EOwn, Node: 1, Text: "so we say"}}},
		{Kind: api.WCopy, At: 2, Story: 1, Edits: []api.Edit{{Kind: api.EMove, Node: 3, Index: 1}}}, {Kind: api.WCopy, At: 2, Story: 1, Copy: 1},
	}
	for i := range n {
		l = append(l, some(r, 2+i/2))
	}
	return l
}

func random(t *testing.T, r *rand.Rand, n int) api.Service {
	t.Helper()
	s, _, e := service.Run(setup(), events(r, n))
	if e != api.OK {
		t.Fatal(e)
	}
	return s
}

func TestP39_1Examples(t *testing.T) {
	u := setup()
	s := run(t, u, file(0, 5, 3, 1, 0), story(6, 3), print(7, 0, 0, 1, 0))
	x := shown(t, u, s, 0, 0)
	if len(x.Nodes) != 2 || x.Nodes[1] != (api.Node{ID: 4, Kind: api.NSentence, Fact: 3, Version: 1, Source: 0, Says: says}) {
		t.Error(x)
	}
	if b, _ := book.Statement(s.Book, 0); b[11] != -100 || len(s.Sheets) != 1 || s.Sheets[0].Text != "tale dot per gazette the mayor warns to themselves baker fin" || len(s.Relays[0].Kept) != 1 {
		t.Error(b, s.Sheets)
	}
	s = quiet(t, u, do(t, u, s, file(1, 8, 3, 1, 2)))
	if n := shown(t, u, s, 0, 0).Nodes[1]; n.Source != -1 || n.Version != 2 {
		t.Error(n)
	}
	s = quiet(t, u, do(t, u, s, file(1, 9, 3, api.VKill)))
	if n := shown(t, u, s, 0, 0).Nodes[1]; n != (api.Node{ID: 4, Kind: api.NNotice, Fact: 3, Version: 3, Not: true}) {
		t.Error(n)
	}
	s = do(t, u, s, api.Event{Kind: api.WRefund, At: 10, Fact: 3})
	if b, _ := book.Statement(s.Book, 0); slices.Max(b) != 0 || slices.Min(b) != 0 {
		t.Error(b)
	}
}

func TestP39_1Setups(t *testing.T) {
	for i, change := range []func(u *api.Setup){
		func(u *api.Setup) { u.Rules.Flat = 0 }, func(u *api.Setup) { u.Sources[0].Kind = 0 }, func(u *api.Setup) { u.Grammars = u.Grammars[:2] }, func(u *api.Setup) { u.Grammars[0], u.Grammars[1] = u.Grammars[1], u.Grammars[0] }, func(u *api.Setup) { u.Grammars[0].Entities = u.Grammars[0].Entities[:19] }, func(u *api.Setup) { u.Grammars[1].Verbs = u.Grammars[1].Verbs[:9] }, func(u *api.Setup) { u.Grammars[2].Sources = u.Grammars[2].Sources[:11] }, func(u *api.Setup) { u.Grammars[2].End = "" },
		func(u *api.Setup) { u.Price = -1 }, func(u *api.Setup) { u.Price = 1001 }, func(u *api.Setup) { u.Paper = -1 }, func(u *api.Setup) { u.Paper = 10001 }, func(u *api.Setup) { u.Readers = nil }, func(u *api.Setup) { u.Readers = make([]api.Reader, 7) }, func(u *api.Setup) { u.Readers[0].Class = 8 }, func(u *api.Setup) { u.Readers[0].Territory = -1 },
		func(u *api.Setup) { u.Tariff.Desk = 11 }, func(u *api.Setup) { u.Tariff.Bureaus[0] = 9 }, func(u *api.Setup) { u.Tariff.Parts[0] = 61 },
	} {
		u := setup()
		s, _ := service.New(u)
		change(&u)
		_, a := service.New(u)
		_, b := service.Do(u, s, file(0, 5, 3, 1, 0))
		_, _, c := service.Run(u, nil)
		_, d := service.Quiet(u, s)
		_, e := service.Shown(u, s, 0, 0)
		k, _ := disk.New(100)
		x, f := service.Open(k, u)
		if service.Valid(u) || x != nil || a != api.ErrService || b != api.ErrService || c != api.ErrService || d != api.ErrService || e != api.ErrService || f != api.ErrService {
			t.Error(i, a, b, c, d, e, f)
		}
	}
	u := setup()
	u.Readers, u.Price, u.Paper = make([]api.Reader, 6), 1000, 10000
	if !service.Valid(u) {
		t.Error("the greatest setup")
	}
	if _, _, e := service.Run(u, make([]api.Event, 201)); e != api.ErrService {
		t.Error("201 events", e)
	}
	if _, acted, e := service.Run(u, make([]api.Event, 200)); e != api.OK || slices.Contains(acted, true) {
		t.Error("200 events", e)
	}
}

func TestP39_1ComposeGuard(t *testing.T) {
	f := api.File{Sources: setup().Sources, Versions: []api.Version{
		{Fact: 1, Number: 1, Kind: api.VAssert, Says: says, At: 5, Sources: []int{0, 2}},
		{Fact: 2, Number: 1, Kind: api.VAssert, Says: says, At: 5, Sources: []int{5}},
		{Fact: 3, Number: 1, Kind: api.VAssert, Says: says, At: 5, Sources: []int{0}},
		{Fact: 3, Number: 2, Kind: api.VWithdraw, Says: says, At: 8},
	}}
	rules := setup().Rules
	flat := api.Node{ID: 2, Kind: api.NSentence, Fact: 1, Version: 1, Source: -1, Says: says}
	gone := api.Node{ID: 4, Kind: api.NNotice, Fact: 3, Version: 2, Not: true}
	x, e := service.Compose(f, rules, 9, []int{3, 2, 1, 7})
	if e != api.OK || !slices.Equal(x.Nodes, []api.Node{{Parent: -1, Kind: api.NStory}, gone, flat}) {
		t.Error(x, e)
	}
	if x, e := service.Compose(f, rules, 4, []int{1, 2, 3}); e != api.OK || len(x.Nodes) != 1 {
		t.Error(x, e)
	}
	bad := f
	bad.Sources = nil
	for i, c := range []struct {
		f     api.File
		r     api.Rules
		wire  int
		facts []int
	}{{bad, rules, 9, nil}, {f, api.Rules{}, 9, nil}, {f, rules, -1, nil}, {f, rules, 9, []int{1, 1}}, {f, rules, 9, []int{16}}, {f, rules, 9, []int{-1}}} {
		if x, e := service.Compose(c.f, c.r, c.wire, c.facts); x.Nodes != nil || e != api.ErrService {
			t.Error(i, e)
		}
		if x, e := service.Guard(c.f, c.r, c.wire, api.Term{}); x.Nodes != nil || e != api.ErrService {
			t.Error(i, e)
		}
		if i < 3 {
			if x, e := service.Guard(c.f, c.r, c.wire, api.Term{Nodes: []api.Node{{Parent: -1, Kind: api.NStory}}}); x.Nodes != nil || e != api.ErrService {
				t.Error(i, e)
			}
		}
	}
	row, odd, strange := flat, flat, flat
	row.ID, row.Parent, row.Kind, row.Fact = 7, 6, api.NRow, 3
	odd.ID, odd.Fact = 8, 2
	strange.ID, strange.Fact = 9, 12
	x = api.Term{Nodes: []api.Node{{Parent: -1, Kind: api.NStory}, flat, {ID: 6, Kind: api.NTable}, row, odd, strange}}
	want := []api.Node{x.Nodes[0], flat, x.Nodes[2], {ID: 8, Kind: api.NNotice, Fact: 2, Version: 1}, {ID: 9, Kind: api.NNotice, Fact: 12, Not: true}}
	if y, e := service.Guard(f, rules, 9, x); e != api.OK || !slices.Equal(y.Nodes, want) {
		t.Error(y, e)
	}
}

func TestP39_1Events(t *testing.T) {
	u := setup()
	own := []api.Edit{{Kind: api.EOwn, Node: 4, Text: "x"}}
	secret := label.None()
	secret.Until = 50
	s := run(t, u, file(0, 5, 3, 1, 0), story(6, 3), api.Event{Kind: api.WCopy, At: 6, Edits: own}, file(0, 7, 3, 2, 2), api.Event{Kind: api.WFresh, At: 8}, api.Event{Kind: api.WDeliver, At: 8, Copy: 1, Number: 1}, print(9, 0, 1, 2, 1), api.Event{Kind: api.WHear, At: 9, Relay: 1}, api.Event{Kind: api.WPaper, At: 9, Number: 5})
	if len(s.Tales) != 1 || len(s.Tales[0].Family.Copies) != 2 || len(s.Tales[0].Family.Copies[1].Conflicts) != 1 || len(s.Relays[1].Kept) != 1 || len(s.Relays[0].Slips) != 1 || s.Relays[0].Paper != 204 || s.Now != 9 || s.Desks[0].Filings[1].At != 7 {
		t.Error(s)
	}
	locked := do(t, u, s, api.Event{Kind: api.WLabel, At: 9, Label: secret})
	full := s
	for range 3 {
		full = do(t, u, full, story(9, 1))
	}
	for i, c := range []struct {
		s api.Service
		e api.Event
	}{
		{s, api.Event{}}, {s, api.Event{Kind: 12, At: 9}}, {s, file(0, 8, 3, 1, 0)}, {s, file(0, api.MaxTime+1, 3, 1, 0)}, {s, file(2, 9, 3, 1, 0)}, {s, file(-1, 9, 3, 1, 0)}, {s, file(0, 9, 3, 1)}, {s, file(0, 9, 16, 1, 0)},
		{s, api.Event{Kind: api.WMerge, At: 9}}, {s, api.Event{Kind: api.WMerge, At: 9, Other: 2}}, {s, story(9)}, {s, story(9, 1, 1)}, {s, story(9, 16)}, {s, story(9, 0, 1, 2, 3, 4, 5, 6, 7, 8)}, {full, story(9, 1)},
		{s, api.Event{Kind: api.WLabel, At: 9, Story: 1, Label: secret}}, {s, api.Event{Kind: api.WLabel, At: 9, Label: api.Label{Until: -1}}}, {s, api.Event{Kind: api.WCopy, At: 9, Copy: 2}}, {s, api.Event{Kind: api.WCopy, At: 9, Story: 1}}, {s, api.Event{Kind: api.WCopy, At: 9, Edits: []api.Edit{{}}}},
		{s, api.Event{Kind: api.WFresh, At: 9, Story: -1}}, {s, api.Event{Kind: api.WDeliver, At: 9}}, {s, api.Event{Kind: api.WDeliver, At: 9, Copy: 1, Number: 2}}, {s, print(9, 1, 0, 1, 0)}, {s, print(9, 0, 2, 1, 0)}, {s, print(9, 0, 0, 0, 0)}, {s, print(9, 0, 0, 4, 0)}, {s, print(9, 0, 0, 1, 3)}, {s, print(9, 0, 0, 1, -1)}, {locked, print(9, 0, 0, 1, 0)},
		{s, api.Event{Kind: api.WHear, At: 9}}, {s, api.Event{Kind: api.WHear, At: 9, Other: 2}}, {s, api.Event{Kind: api.WPaper, At: 9, Number: -1}}, {s, api.Event{Kind: api.WPaper, At: 9, Number: 10001}}, {s, api.Event{Kind: api.WPaper, At: 9, Relay: 2}},
	} {
		if x, e := service.Do(u, c.s, c.e); x.Desks != nil || e != api.ErrService {
			t.Error(i, e)
		}
	}
	do(t, u, locked, print(50, 0, 0, 1, 0))
	do(t, u, s, api.Event{Kind: api.WRefund, At: 9, Fact: 77})
	many := s
	for range 15 {
		many = do(t, u, many, print(9, 0, 0, 1, 0))
	}
	if _, e := service.Do(u, many, print(9, 0, 0, 1, 0)); e != api.ErrService || len(many.Sheets) != 16 {
		t.Error("17 sheets", e)
	}
	for _, odd := range []api.Service{{}, {Desks: s.Desks, Relays: s.Relays[:1]}, {Desks: s.Desks[:1], Relays: s.Relays}} {
		_, a := service.Do(u, odd, file(0, 9, 3, 1, 0))
		_, b := service.Quiet(u, odd)
		_, c := service.Shown(u, odd, 0, 0)
		if a != api.ErrService || b != api.ErrService || c != api.ErrService {
			t.Error(a, b, c)
		}
	}
	for _, k := range [][2]int{{1, 0}, {-1, 0}, {0, 2}, {0, -1}} {
		if x, e := service.Shown(u, s, k[0], k[1]); x.Nodes != nil || e != api.ErrService {
			t.Error(k, e)
		}
	}
	if service.Same(s, locked) || service.Same(s, many) || !service.Same(s, do(t, u, s, api.Event{Kind: api.WMerge, At: 9, Other: 1})) {
		t.Error("Same")
	}
}

func TestP39_1Memory(t *testing.T) {
	u := setup()
	s := run(t, u, file(0, 5, 3, 1, 0), story(6, 3), print(7, 0, 0, 1, 0))
	same := run(t, u, file(0, 5, 3, 1, 0), story(6, 3), print(7, 0, 0, 1, 0))
	x := do(t, u, s, file(0, 8, 2, 1, 0))
	x.Tales[0].Facts[0], x.Tales[0].Family.Copies[0].Terms[0].Nodes[0].ID, x.Sheets[0].Uses[0].Fact, x.Book.Postings[0].Day, x.Relays[0].Kept[0].Story, x.Desks[0].Filings[0].Sources[0] = 9, 9, 9, 9, 9, 9
	if !service.Same(s, same) {
		t.Error("a result shares memory with an argument")
	}
}

func TestP39_1Codes(t *testing.T) {
	r := rand.New(rand.NewSource(1))
	for range 500 {
		e := some(r, r.Intn(1000))
		if r.Intn(4) == 0 {
			e.Edits = []api.Edit{{Kind: api.EJoin, To: 1, With: samples.Term(r.Intn, 10)}}
		}
		s, f := service.Encode(e)
		d, g := service.Decode(s)
		if f != api.OK || g != api.OK || len(d.Facts) != len(e.Facts) || !slices.Equal(d.Facts, e.Facts) || d.Filing.Says != e.Filing.Says || !label.Same(d.Label, e.Label) {
			t.Fatal(e, d, f, g)
		}
		if u, _ := service.Encode(d); u != s {
			t.Fatal(e, d)
		}
		b := []byte(s)
		b[r.Intn(len(b))] ^= 1 << r.Intn(8)
		for _, x := range []string{string(b), s + "\x00", s[:r.Intn(len(s))]} {
			if d, g := service.Decode(x); g == api.OK {
				if u, _ := service.Encode(d); u != x {
					t.Fatal("another encoding is decoded")
				}
			} else if !reflect.DeepEqual(d, api.Event{}) {
				t.Fatal("a value with an error", d)
			}
		}
	}
	for i, change := range []func(e *api.Event){
		func(e *api.Event) { e.Kind = -1 }, func(e *api.Event) { e.Kind = 101 }, func(e *api.Event) { e.At = 1000000001 }, func(e *api.Event) { e.Fact = -1000000001 }, func(e *api.Event) { e.Filing.Number = 1000000001 }, func(e *api.Event) { e.Filing.Says.Count.Hi = 1000000001 }, func(e *api.Event) { e.Filing.Sources = make([]int, 13) }, func(e *api.Event) { e.Filing.Sources = []int{1000000001} },
		func(e *api.Event) { e.Facts = make([]int, 9) }, func(e *api.Event) { e.Facts = []int{16} }, func(e *api.Event) { e.Facts = []int{-1} }, func(e *api.Event) { e.Edits = []api.Edit{{}} }, func(e *api.Event) { e.Edits = slices.Repeat([]api.Edit{{Kind: api.ECut}}, 21) }, func(e *api.Event) { e.Label.Until = -1 },
	} {
		var e api.Event
		if _, f := service.Encode(e); f != api.OK {
			t.Fatal(f)
		}
		change(&e)
		if s, f := service.Encode(e); s != "" || f != api.ErrService {
			t.Error(i, f)
		}
	}
}

func TestP39_2TheWhole(t *testing.T) {
	r := rand.New(rand.NewSource(2))
	u := setup()
	for range 40 {
		s, e := service.Quiet(u, random(t, r, 40))
		if e != api.OK {
			continue // more terms than a copy can have
		}
		f := facts(t, s.Desks[0])
		for i, tale := range s.Tales {
			for k := range tale.Family.Copies {
				x := shown(t, u, s, i, k)
				for _, n := range x.Nodes {
					if !term.States(n.Kind) {
						continue
					}
					st, _ := standing.Of(f, u.Rules, n.Fact, s.Now)
					last, _ := fact.Newest(f, n.Fact, s.Now)
					if n.Version != st.Version || last.Kind == api.VKill || !standing.May(f, u.Rules, s.Now, n) {
						t.Fatal(n, st)
					}
				}
				for _, g := range u.Grammars {
					p, e := render.Render(g, x)
					if e != api.OK {
						t.Fatal(e)
					}
					if _, e := meter.Uses(g, f, 0, p); e != api.OK {
						t.Fatal(e)
					}
				}
			}
		}
	}
}

func TestP39_3CutOff(t *testing.T) {
	r := rand.New(rand.NewSource(3))
	u := setup()
	for range 25 {
		l := events(r, 30)
		merges := func(e api.Event) bool { return e.Kind == api.WMerge }
		a, _, _ := service.Run(u, l)
		b, _, _ := service.Run(u, slices.DeleteFunc(slices.Clone(l), merges))
		x, e := service.Quiet(u, a)
		y, g := service.Quiet(u, b)
		if e != api.OK || g != api.OK {
			continue
		}
		f := facts(t, x.Desks[0])
		for _, d := range []api.Desk{x.Desks[1], y.Desks[0], y.Desks[1]} {
			if !fact.Same(f, facts(t, d)) {
				t.Fatal("another file")
			}
		}
	}
}

func balances(t *testing.T, s api.Service) []int {
	t.Helper()
	l, e := book.Statement(s.Book, 0)
	if e != api.OK {
		t.Fatal(e)
	}
	return l
}

func TestP39_4Money(t *testing.T) {
	r := rand.New(rand.NewSource(4))
	u := setup()
	for range 40 {
		s := random(t, r, 40)
		total := 0
		for _, n := range balances(t, s) {
			total += n
		}
		charged := make([]int, 16)
		for _, p := range s.Book.Postings {
			if p.Kind == api.PFee {
				charged[p.Subject] += p.Amount
			}
		}
		for i := range s.Sheets {
			if charged[i] != u.Price {
				t.Fatal(i, charged)
			}
		}
		after := do(t, u, s, api.Event{Kind: api.WRefund, At: s.Now, Fact: 0})
		again := do(t, u, after, api.Event{Kind: api.WRefund, At: s.Now, Fact: 0})
		if total != 0 || !service.Same(after, again) {
			t.Fatal(total)
		}
		for i, sheet := range s.Sheets {
			only := len(sheet.Uses) > 0 && !slices.ContainsFunc(sheet.Uses, func(x api.Use) bool { return x.Fact != 0 })
			has := slices.ContainsFunc(sheet.Uses, func(x api.Use) bool { return x.Fact == 0 })
			a, _ := book.Owed(s.Book, i)
			b, _ := book.Owed(after.Book, i)
			if only && (slices.Max(b) != 0 || slices.Min(b) != 0) || !has && !slices.Equal(a, b) {
				t.Fatal(sheet, a, b)
			}
		}
		after.Book = s.Book
		if !service.Same(after, s) {
			t.Fatal("something else has changed")
		}
	}
}

func TestP39_5Relays(t *testing.T) {
	r := rand.New(rand.NewSource(5))
	u := setup()
	for range 30 {
		s, e := service.Quiet(u, random(t, r, 40))
		if e != api.OK {
			continue
		}
		if !slices.Equal(s.Relays[0].Kept, s.Relays[1].Kept) || len(s.Relays[0].Kept) != len(s.Sheets) {
			t.Fatal("other dispatches")
		}
		for i, sheet := range s.Sheets {
			if s.Relays[0].Kept[i].Text != sheet.Text {
				t.Fatal("another text")
			}
		}
		for _, slip := range s.Relays[1].Slips {
			if slip.Digest != digest.Sum(s.Sheets[slip.Story].Text) {
				t.Fatal("another print")
			}
		}
		if !relay.Valid(s.Relays[0]) {
			t.Fatal("not valid")
		}
	}
}

func TestP39_6Embargoes(t *testing.T) {
	r := rand.New(rand.NewSource(6))
	u := setup()
	for range 25 {
		l := events(r, 40)
		s, acted, _ := service.Run(u, l)
		now, _ := service.New(u)
		for i, e := range l {
			if !acted[i] {
				continue
			}
			if e.Kind == api.WPrint {
				k, _ := merge.Label(now.Desks[e.Desk], e.Story)
				if !label.Open(k, u.Readers[e.Reader], api.Moment{Now: e.At}) {
					t.Fatal("printed under an embargo")
				}
			}
			now = do(t, u, now, e)
		}
		if !service.Same(s, now) {
			t.Fatal("another service")
		}
		other := slices.Clone(l)
		for i := len(other); i > 0; i -= 3 {
			other = slices.Insert(other, i, file(r.Intn(2), at(other, i), 9, 1+r.Intn(5), 0))
		}
		x, _, _ := service.Run(u, other)
		if !slices.EqualFunc(s.Sheets, x.Sheets, func(a, b api.Sheet) bool { return reflect.DeepEqual(a, b) }) {
			t.Fatal("a fact of no story has an influence")
		}
	}
}

// at is the minute of the event before an index.
func at(l []api.Event, i int) int {
	return l[i-1].At
}

func TestP39_7Power(t *testing.T) {
	r := rand.New(rand.NewSource(7))
	u := setup()
	for range 15 {
		d, _ := disk.New(20000)
		x, e := service.Open(d, u)
		if e != api.OK {
			t.Fatal(e)
		}
		var done []api.Event
		for _, k := range events(r, 25) {
			if r.Intn(3) == 0 {
				d.Cut(1 + r.Intn(3))
			}
			before := x.Now()
			e := x.Do(k)
			if e == api.OK {
				done = append(done, k)
			} else if !service.Same(before, x.Now()) {
				t.Fatal("changed by what does not act")
			}
			if e == api.OK && r.Intn(5) > 0 || e == api.ErrService {
				continue
			}
			var keep []int
			for i := range d.Pending() {
				if r.Intn(2) == 0 {
					keep = append(keep, i)
				}
			}
			d.Crash(keep, r.Intn(99)-1)
			x, e = service.Open(d, u)
			if e != api.OK {
				t.Fatal(e)
			}
			a, b := run(t, u, done...), append(slices.Clone(done), k)
			if service.Same(x.Now(), a) {
				continue
			}
			if s, _, _ := service.Run(u, b); !service.Same(x.Now(), s) {
				t.Fatal("another service")
			}
			done = b
		}
	}
}

func TestP39_7Errors(t *testing.T) {
	u := setup()
	if x, e := service.Open(nil, u); x != nil || e != api.ErrNil {
		t.Error(e)
	}
	var none *service.Store
	if none.Do(file(0, 5, 3, 1, 0)) != api.ErrNil || none.Now().Desks != nil {
		t.Error("a nil store")
	}
	d, _ := disk.New(80)
	x, _ := service.Open(d, u)
	if e := x.Do(api.Event{Kind: 500}); e != api.ErrService {
		t.Error(e)
	}
	if e := x.Do(story(5)); e != api.ErrService {
		t.Error(e)
	}
	for e := api.OK; e != api.ErrFull; {
		before := x.Now()
		if e = x.Do(file(0, 5, 3, 1, 0)); e != api.OK && (e != api.ErrFull || !service.Same(before, x.Now())) {
			t.Fatal(e)
		}
	}
	d.Write(0, "\x02")
	if x, e := service.Open(d, u); x != nil || e != api.ErrDamaged {
		t.Error(e)
	}
	for i, record := range []string{"x", encode(t, story(5))} {
		d, _ := disk.New(500)
		d.Write(0, stored(record))
		if x, e := service.Open(d, u); x != nil || e != api.ErrService {
			t.Error(i, e)
		}
	}
	d, _ = disk.New(5000)
	x, _ = service.Open(d, u)
	x.Do(file(0, 5, 3, 1, 0))
	u.Sources[0].Kind, u.Tariff.Bureaus[0] = 9, 99
	s := x.Now()
	s.Desks[0].Filings[0].Fact = 9
	if e := x.Do(story(6, 3)); e != api.OK || x.Now().Desks[0].Filings[0].Fact != 3 {
		t.Error("a store shares memory", e)
	}
}

func encode(t *testing.T, e api.Event) string {
	t.Helper()
	s, f := service.Encode(e)
	if f != api.OK {
		t.Fatal(f)
	}
	return s
}

// stored is a record as a journal stores it as the first one.
func stored(record string) string {
	n := 2 * len(record)
	length := string([]byte{byte(n)})
	if n >= 128 {
		length = string([]byte{byte(n%128) + 128, byte(n / 128)})
	}
	return "\x01" + length + record + digest.Chain(strings.Repeat("\x00", 32), record)
}

func TestP39_8TheRecord(t *testing.T) {
	r := rand.New(rand.NewSource(8))
	u := setup()
	for range 15 {
		l := events(r, 40)
		now, _ := service.New(u)
		for _, e := range l {
			next, fault := service.Do(u, now, e)
			if fault != api.OK {
				continue
			}
			if e.Kind == api.WPrint {
				sheet, f := next.Sheets[len(next.Sheets)-1], facts(t, now.Desks[e.Desk])
				x, _ := lineage.Newest(now.Tales[e.Story].Family, e.Copy)
				x, _ = service.Guard(f, u.Rules, e.At, x)
				p, _ := render.Render(u.Grammars[e.Language-1], x)
				uses, e := meter.Uses(u.Grammars[e.Language-1], f, e.Reader, p)
				if e != api.OK || p.Text != sheet.Text || !meter.Same(uses, sheet.Uses) {
					t.Fatal(sheet, e)
				}
			}
			now = next
		}
		if s, _, _ := service.Run(u, l); !service.Same(s, now) {
			t.Fatal("another service")
		}
	}
}

func TestP39_1Limits(t *testing.T) {
	u := setup()
	u.Price, u.Paper, u.Readers = 0, 0, u.Readers[:1]
	u.Readers[0] = api.Reader{Territory: 7, Class: 7}
	if !service.Valid(u) {
		t.Error("the smallest setup")
	}
	u = setup()
	s := run(t, u, file(0, 0, 3, 1, 0), story(0, 3, 0, 1, 2, 4, 5, 6, 15), print(0, 0, 0, 3, 2), file(1, api.MaxTime, 15, 1, 0))
	if s.Now != api.MaxTime || s.Relays[0].Kept[0].Edition != 1 || s.Relays[0].Kept[0].Class != api.DTake {
		t.Error(s.Relays)
	}
	back := do(t, u, s, api.Event{Kind: api.WRefund, At: api.MaxTime, Fact: 3})
	if p := back.Book.Postings; p[len(p)-1].Day != 0 || p[len(p)-1].Kind != api.PReverse {
		t.Error(p)
	}
	if again := do(t, u, back, print(api.MaxTime, 0, 0, 1, 0)); len(again.Sheets) != 2 {
		t.Error("a sheet after a refund")
	}
	var e api.Event
	e.Kind, e.At, e.Fact, e.Filing.Says.To = 100, 1000000000, -1000000000, 1000000000
	e.Filing.Sources, e.Facts, e.Edits = slices.Repeat([]int{-1000000000}, 12), slices.Repeat([]int{15}, 8), slices.Repeat([]api.Edit{{Kind: api.ECut}}, 20)
	text, f := service.Encode(e)
	if d, g := service.Decode(text); f != api.OK || g != api.OK || !reflect.DeepEqual(d, e) {
		t.Error(d, f, g)
	}
}

func TestP39_1GuardNotices(t *testing.T) {
	for kind, not := range map[int]bool{api.VCorrect: false, api.VDispute: false, api.VWithdraw: true, api.VKill: true} {
		f := api.File{Sources: setup().Sources, Versions: []api.Version{{Fact: 1, Number: 1, Kind: api.VAssert, Says: says, At: 5, Sources: []int{5}}, {Fact: 1, Number: 2, Kind: kind, Says: says, At: 6, Sources: []int{5}}}}
		x := api.Term{Nodes: []api.Node{{Parent: -1, Kind: api.NStory}, {ID: 2, Kind: api.NSentence, Fact: 1, Version: 1, Source: -1, Says: says}}}
		if y, e := service.Guard(f, setup().Rules, 9, x); e != api.OK || y.Nodes[1] != (api.Node{ID: 2, Kind: api.NNotice, Fact: 1, Version: 2, Not: not}) {
			t.Error(kind, y, e)
		}
	}
}
