package audit_test

import (
	"reflect"
	"slices"
	"testing"

	"newswire/api"
	"newswire/archive"
	"newswire/audit"
	"newswire/call"
	"newswire/edit"
	"newswire/fee"
	"newswire/label"
	"newswire/meter"
	"newswire/patch"
	"newswire/rational"
	"newswire/render"
	"newswire/samples"
)

var says = api.Statement{Who: 2, Whom: -1, From: -1, To: -1}

func none(n int) []int { return slices.Repeat([]int{-1}, n) }

func ratio(n, d int) api.Ratio {
	r, _ := rational.Of(n, d)
	return r
}

func leaf(id, version int) api.Node {
	return api.Node{ID: id, Kind: api.NSentence, Fact: 3, Version: version, Source: -1, Says: says}
}

func story(nodes ...api.Node) api.Term {
	return api.Term{Nodes: append([]api.Node{{Parent: -1, Kind: api.NStory}}, nodes...)}
}

func clause(kind, work int) api.Clause {
	return api.Clause{Work: work, Kind: kind, Territories: 255, Classes: 255, To: 1000}
}

// base is a log without entries.
func base(t *testing.T) api.Log {
	t.Helper()
	l := api.Log{
		Grammars: samples.Grammars(),
		File: api.File{Sources: []api.Source{{ID: 0, Kind: api.SNamed}}, Versions: []api.Version{
			{Fact: 3, Number: 1, Kind: api.VAssert, Says: says, At: 5, Sources: []int{0}},
			{Fact: 3, Number: 2, Kind: api.VKill, Says: says, At: 25},
		}},
		Rules:   api.Rules{Flat: 1, Attributed: 1},
		Clauses: []api.Clause{clause(api.COffer, 1), clause(api.COffer, 2), {Work: 1, Kind: api.CLimit, Territories: 255, Classes: 255, To: 1000, Uses: 3}},
		Tariff:  api.Tariff{Bureaus: none(16), Translators: none(4), Sources: none(12), Parts: [3]int{60, 20, 20}},
	}
	var e api.Errno
	if l.Races, e = call.Open(ratio(1, 2)); e != api.OK {
		t.Fatal(e)
	}
	if l.Races, e = call.Register(l.Races, api.Race{ID: 7, Sizes: []int{3, 2}, Alpha: ratio(1, 2), Bet: 50}); e != api.OK {
		t.Fatal(e)
	}
	for edition, until := range []int{0, 50} {
		x := api.Archived{At: 10 * (edition + 1), Story: 4, Edition: edition + 1, Language: 1, Copy: printed(t, 1), Label: label.None()}
		x.Label.Until = until
		if l.Archive, e = archive.Add(l.Archive, x); e != api.OK {
			t.Fatal(e)
		}
	}
	return l
}

func printed(t *testing.T, language int) api.Printed {
	t.Helper()
	p, e := render.Render(samples.Grammar(language), story(leaf(1, 1), leaf(2, 1)))
	if e != api.OK {
		t.Fatal(e)
	}
	return p
}

func print(t *testing.T, at, language int) api.Logged {
	return api.Logged{Kind: api.LPrint, At: at, Language: language, Copy: printed(t, language)}
}

func corrected(t *testing.T, at int) api.Logged {
	t.Helper()
	x := api.Logged{Kind: api.LPatch, At: at, Base: story(leaf(1, 1), leaf(2, 1)), New: story(leaf(1, 2), leaf(2, 2)), Edits: []api.Edit{{Kind: api.EOwn, Node: 1, Text: "x"}}}
	p, _ := patch.Compile(x.Base, x.New)
	q, _, _ := patch.Rebase(x.Base, p, x.Edits)
	u, _, _ := edit.Apply(x.Base, x.Edits)
	var e api.Errno
	if x.After, e = patch.Apply(u, q); e != api.OK {
		t.Fatal(e)
	}
	return x
}

func release(at, index, now, drift int) api.Logged {
	return api.Logged{Kind: api.LRelease, At: at, Index: index, Moment: api.Moment{Now: now, Drift: drift}}
}

func called(at, verdict int, ballots ...api.Ballots) api.Logged {
	return api.Logged{Kind: api.LCall, At: at, Race: 7, Ballots: ballots, Verdict: verdict}
}

func lot(at, uses int, works ...int) api.Logged {
	return api.Logged{Kind: api.LPackage, At: at, Want: api.Want{At: at, Uses: uses, Needs: [][]int{{1, 2}}}, Works: works}
}

func paid(t *testing.T, l api.Log, at, price, language int, prints ...api.Printed) api.Logged {
	t.Helper()
	x := api.Logged{Kind: api.LPay, At: at, Prints: prints, Bill: api.Bill{ID: 1, Payer: 11, Price: price, Language: language}}
	var e api.Errno
	for _, p := range prints {
		u, _ := meter.Uses(l.Grammars[language-1], l.File, 0, p)
		if x.Bill.Uses, e = meter.Add(x.Bill.Uses, u); e != api.OK {
			t.Fatal(e)
		}
	}
	if x.Shares, e = fee.Divide(l.Tariff, x.Bill); e != api.OK {
		t.Fatal(e)
	}
	return x
}

// full is a log with entries of all kinds, all of which follow.
func full(t *testing.T) api.Log {
	t.Helper()
	l := base(t)
	l.Entries = []api.Logged{
		print(t, 10, 1), print(t, 11, 2), corrected(t, 12), release(15, 0, 15, 0), release(30, 0, 32, 3), release(60, 1, 59, 1),
		called(60, api.COpen, api.Ballots{Votes: []bool{true}}), called(60, api.CCalled, api.Ballots{Votes: []bool{true, true}}),
		lot(61, 2, 1), lot(62, 2, 2), paid(t, l, 70, 100, 1, printed(t, 1)), paid(t, l, 71, 50, 2, printed(t, 2), printed(t, 2)), paid(t, l, 72, 10, 3),
	}
	return l
}

func expect(t *testing.T, what string, l api.Log, want api.Judgement) {
	t.Helper()
	if j := audit.Audit(l); j != want {
		t.Errorf("%s: %v; want %v", what, j, want)
	}
	_, used, e := audit.Play(l)
	if (e == api.OK) != (want.Verdict == api.AOk) || (len(used) == 12) != (e == api.OK) || e != api.OK && e != api.ErrAudit {
		t.Errorf("%s: Play: %v, %d", what, used, e)
	}
}

var fine = api.Judgement{Verdict: api.AOk, Entry: -1}

func wrong(entry, reason int) api.Judgement {
	return api.Judgement{Verdict: api.AFalse, Entry: entry, Reason: reason}
}

func TestP38_1Examples(t *testing.T) {
	l := base(t)
	expect(t, "nothing", l, fine)
	l.Entries = []api.Logged{print(t, 10, 1)}
	expect(t, "a print", l, fine)
	l.Entries = []api.Logged{print(t, 25, 1)}
	expect(t, "a print of what was killed", l, wrong(0, api.RSpan))
	bill := paid(t, l, 20, 100, 1)
	less := paid(t, l, 20, 100, 1)
	less.Shares[0].Amount = 99
	l.Entries = []api.Logged{print(t, 10, 1), bill, less}
	expect(t, "a bill", l, wrong(2, api.RFee))
	none := api.Logged{Kind: api.LPackage, At: 5, Want: api.Want{At: 5, Uses: 1, Needs: [][]int{{7}}}}
	l.Entries = []api.Logged{none}
	expect(t, "no package", l, fine)
}

func TestP38_1NotFormed(t *testing.T) {
	for i, change := range []func(l *api.Log){
		func(l *api.Log) { l.Grammars = l.Grammars[:2] }, func(l *api.Log) { l.Grammars[0], l.Grammars[1] = l.Grammars[1], l.Grammars[0] }, func(l *api.Log) { l.Grammars[2].End = "" }, func(l *api.Log) { l.File.Sources = nil }, func(l *api.Log) { l.Rules.Flat = 0 }, func(l *api.Log) { l.Archive.Entries[0].At = 99 }, func(l *api.Log) { l.Races.Budget = ratio(2, 1) }, func(l *api.Log) { l.Clauses[0].Work = 12 }, func(l *api.Log) { l.Tariff.Desk = 12 },
		func(l *api.Log) { l.Entries = slices.Repeat(l.Entries[:1], 31) }, func(l *api.Log) { l.Entries[3].Kind = 0 }, func(l *api.Log) { l.Entries[3].Kind = 7 }, func(l *api.Log) { l.Entries[3].At = 11 }, func(l *api.Log) { l.Entries[0].At = -1 }, func(l *api.Log) { l.Entries[12].At = api.MaxTime + 1 },
	} {
		l := full(t)
		change(&l)
		if audit.Valid(l) {
			t.Error(i, "is valid")
		}
		expect(t, "not formed", l, api.Judgement{Verdict: api.AForm, Entry: -1})
	}
}

func TestP38_2Right(t *testing.T) {
	l := full(t)
	expect(t, "all kinds", l, fine)
	races, used, e := audit.Play(l)
	if e != api.OK || used[1] != 2 || used[2] != 2 || races.Races[0].Yes != 2 || !call.Valid(races) {
		t.Error(races, used, e)
	}
	races.Races[0].Sizes[0] = 99
	if !reflect.DeepEqual(l, full(t)) {
		t.Error("a result shares memory with an argument")
	}
}

func TestP38_3TheFirst(t *testing.T) {
	for i, c := range []struct {
		entry  int
		change func(x *api.Logged)
	}{
		{0, func(x *api.Logged) { x.Copy.Spans = x.Copy.Spans[1:] }}, {0, func(x *api.Logged) { x.Copy.Spans[1].Version = 2 }}, {1, func(x *api.Logged) { x.Language = 1 }}, {1, func(x *api.Logged) { x.Language = 4 }}, {1, func(x *api.Logged) { x.Copy.Text = "punkt" }},
		{2, func(x *api.Logged) { x.After.Nodes = x.After.Nodes[:2] }}, {2, func(x *api.Logged) { x.Edits = nil }}, {2, func(x *api.Logged) { x.Base = api.Term{} }}, {2, func(x *api.Logged) { x.New = api.Term{} }}, {2, func(x *api.Logged) { x.Edits[0].Node = 9 }},
		{3, func(x *api.Logged) { x.Index = 1 }}, {3, func(x *api.Logged) { x.Index = -1 }}, {3, func(x *api.Logged) { x.Index = 2 }}, {3, func(x *api.Logged) { x.Moment.Now = 16 }}, {3, func(x *api.Logged) { x.Moment.Now = -1 << 63 }}, {4, func(x *api.Logged) { x.Moment.Now = 34 }}, {4, func(x *api.Logged) { x.Moment.Now = 26 }}, {4, func(x *api.Logged) { x.Reader.Class = 8 }}, {5, func(x *api.Logged) { x.Index = 0 }}, {5, func(x *api.Logged) { x.Moment.Drift = 10 }},
		{6, func(x *api.Logged) { x.Verdict = api.CCalled }}, {6, func(x *api.Logged) { x.Race = 8 }}, {7, func(x *api.Logged) { x.Ballots[0].District = 5 }}, {7, func(x *api.Logged) { x.Verdict = api.CCertain }},
		{8, func(x *api.Logged) { x.Works = []int{1, 2} }}, {8, func(x *api.Logged) { x.Works = nil }}, {9, func(x *api.Logged) { x.Works = []int{1} }}, {9, func(x *api.Logged) { x.Want.At = 61 }}, {9, func(x *api.Logged) { x.Want.Uses = 0 }},
		{10, func(x *api.Logged) { x.Shares = append(x.Shares, x.Shares[0]) }}, {10, func(x *api.Logged) { x.Bill.Uses = nil }}, {10, func(x *api.Logged) { x.Bill.Uses[0].Count++ }}, {10, func(x *api.Logged) { x.Prints[0].Text = "tale fin" }}, {10, func(x *api.Logged) { x.Bill.Language = 0 }}, {11, func(x *api.Logged) { x.Bill.Language = 1 }}, {11, func(x *api.Logged) { x.Prints = x.Prints[:1] }}, {12, func(x *api.Logged) { x.Bill.Payer = 0 }}, {12, func(x *api.Logged) { x.Shares[0].Amount-- }},
	} {
		l := full(t)
		c.change(&l.Entries[c.entry])
		if j := audit.Audit(l); j != wrong(c.entry, l.Entries[c.entry].Kind) {
			t.Errorf("%d: %v; want the entry %d", i, j, c.entry)
		}
	}
	l := full(t)
	l.Entries[2].Language, l.Entries[0].Verdict, l.Entries[6].Index = 9, 9, 9
	expect(t, "other fields", l, fine)
	l.Entries[9].Works, l.Entries[4].Index = nil, 1
	expect(t, "two that are wrong", l, wrong(4, api.RRelease))
}

func TestP38_4Beginnings(t *testing.T) {
	for k := range 13 {
		l := full(t)
		l.Entries[k].Language, l.Entries[k].After, l.Entries[k].Index, l.Entries[k].Verdict, l.Entries[k].Works, l.Entries[k].Shares = 0, api.Term{}, -1, 9, []int{9}, nil
		whole := audit.Audit(l)
		if whole.Entry != k {
			t.Fatal(k, whole)
		}
		for n := range 14 {
			short := l
			short.Entries = l.Entries[:n]
			want := fine
			if k < n {
				want = whole
			}
			if j := audit.Audit(short); j != want {
				t.Fatal(k, n, j)
			}
		}
	}
}

func TestP38_5NoKilledFact(t *testing.T) {
	for at := range 40 {
		l := base(t)
		l.Entries = []api.Logged{print(t, at, 1)}
		want := fine
		if at < 5 || at >= 25 {
			want = wrong(0, api.RSpan)
		}
		expect(t, "a print", l, want)
	}
	l := base(t)
	p, e := render.Render(samples.Grammar(1), story(leaf(1, 1), api.Node{ID: 2, Kind: api.NSentence, Fact: 3, Version: 1, Source: 5, Says: says}))
	l.Entries = []api.Logged{{Kind: api.LPrint, At: 10, Language: 1, Copy: p}}
	if e != api.OK {
		t.Fatal(e)
	}
	expect(t, "an attribution to somebody who has not said so", l, wrong(0, api.RSpan))
}

func TestP38_6Embargoes(t *testing.T) {
	for at := range 80 {
		for index := range 2 {
			l := base(t)
			l.Entries = []api.Logged{release(at, index, at, 0)}
			want := wrong(0, api.RRelease)
			if index == 0 && at >= 10 && at < 50 || index == 1 && at >= 50 {
				want = fine
			}
			expect(t, "a release", l, want)
		}
	}
}

func TestP38_7Fees(t *testing.T) {
	l := full(t)
	for _, x := range l.Entries {
		if x.Kind != api.LPay {
			continue
		}
		sum := 0
		for _, s := range x.Shares {
			sum += s.Amount
		}
		if sum != x.Bill.Price {
			t.Error(x)
		}
	}
	l.Entries = []api.Logged{lot(5, 2, 1), lot(6, 1, 1), lot(7, 1, 2)}
	expect(t, "a limit", l, fine)
	l.Entries[2].Works = []int{1}
	expect(t, "a limit that is broken", l, wrong(2, api.RPackage))
	l = base(t)
	l.Entries = []api.Logged{paid(t, l, 70, 100, 1, printed(t, 1))}
	expect(t, "a bill for what was not printed", l, wrong(0, api.RFee))
}

func TestP38_1Limits(t *testing.T) {
	l := base(t)
	l.Entries = slices.Repeat([]api.Logged{called(api.MaxTime, api.COpen)}, 30)
	expect(t, "30 entries", l, fine)
	l.Entries[0].At = 0
	expect(t, "at the minute 0", l, fine)
}

func TestP38_7Prints(t *testing.T) {
	l := base(t)
	other := corrected(t, 12)
	other.Language, other.Copy = 1, printed(t, 1)
	l.Entries = []api.Logged{other, paid(t, l, 70, 100, 1, printed(t, 1))}
	expect(t, "what no entry has printed", l, wrong(1, api.RFee))
	l.Entries = []api.Logged{paid(t, l, 10, 100, 1, printed(t, 1)), print(t, 10, 1)}
	expect(t, "what is printed later", l, wrong(0, api.RFee))
}
