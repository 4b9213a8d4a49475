package samples_test

import (
	"cmp"
	"maps"
	"math/rand"
	"reflect"
	"slices"
	"strings"
	"testing"

	"newswire/api"
	"newswire/archive"
	"newswire/audit"
	"newswire/book"
	"newswire/brief"
	"newswire/calendar"
	"newswire/call"
	"newswire/digest"
	"newswire/edit"
	"newswire/fact"
	"newswire/fee"
	"newswire/flow"
	"newswire/grammar"
	"newswire/integer"
	"newswire/journal"
	"newswire/kill"
	"newswire/label"
	"newswire/line"
	"newswire/lineage"
	"newswire/locale"
	"newswire/merge"
	"newswire/meter"
	"newswire/parse"
	"newswire/patch"
	"newswire/rational"
	"newswire/relay"
	"newswire/render"
	"newswire/rights"
	"newswire/samples"
	"newswire/sched"
	"newswire/service"
	"newswire/source"
	"newswire/standing"
	"newswire/take"
	"newswire/tally"
	"newswire/term"
	"newswire/unit"
	"newswire/upgrade"
	"newswire/wire"
	"newswire/word"
)

// functions returns the functions of the layers.
func functions() map[string]any {
	return map[string]any{
		"wire.PutInt": wire.PutInt, "wire.Int": wire.Int, "wire.PutString": wire.PutString, "wire.String": wire.String, "wire.Sum": wire.Sum,
		"digest.Sum": digest.Sum, "digest.Chain": digest.Chain, "digest.Leaf": digest.Leaf, "digest.Node": digest.Node, "digest.Root": digest.Root, "digest.Proof": digest.Proof, "digest.Verify": digest.Verify, "digest.Extension": digest.Extension, "digest.VerifyExtension": digest.VerifyExtension,
		"integer.Valid": integer.Valid, "integer.FromInt": integer.FromInt, "integer.ToInt": integer.ToInt, "integer.Compare": integer.Compare, "integer.Add": integer.Add, "integer.Sub": integer.Sub, "integer.Mul": integer.Mul, "integer.Div": integer.Div, "integer.Gcd": integer.Gcd, "integer.Root": integer.Root,
		"rational.Valid": rational.Valid, "rational.Make": rational.Make, "rational.Of": rational.Of, "rational.Add": rational.Add, "rational.Sub": rational.Sub, "rational.Mul": rational.Mul, "rational.Div": rational.Div, "rational.Compare": rational.Compare, "rational.Down": rational.Down, "rational.Up": rational.Up, "rational.Print": rational.Print, "rational.Parse": rational.Parse,
		"unit.Valid": unit.Valid, "unit.ValidRates": unit.ValidRates, "unit.Kind": unit.Kind, "unit.Convert": unit.Convert, "unit.Coarse": unit.Coarse, "unit.Share": unit.Share, "unit.Add": unit.Add, "unit.Meet": unit.Meet, "unit.Contains": unit.Contains,
		"calendar.Parts": calendar.Parts, "calendar.Minute": calendar.Minute, "calendar.Days": calendar.Days, "calendar.Print": calendar.Print, "calendar.Read": calendar.Read,
		"source.Valid": source.Valid, "source.Same": source.Same, "source.Find": source.Find, "source.Support": source.Support, "source.Named": source.Named, "source.Check": source.Check, "source.Origins": source.Origins,
		"fact.ValidStatement": fact.ValidStatement, "fact.Valid": fact.Valid, "fact.Same": fact.Same, "fact.Add": fact.Add, "fact.AsOf": fact.AsOf, "fact.Newest": fact.Newest, "fact.Told": fact.Told, "fact.In": fact.In, "fact.Encode": fact.Encode, "fact.Decode": fact.Decode,
		"standing.Valid": standing.Valid, "standing.Of": standing.Of, "standing.All": standing.All, "standing.May": standing.May,
		"label.Valid": label.Valid, "label.Same": label.Same, "label.None": label.None, "label.ValidMoment": label.ValidMoment, "label.Join": label.Join, "label.Below": label.Below, "label.Open": label.Open, "label.Reason": label.Reason, "label.Encode": label.Encode, "label.Decode": label.Decode,
		"word.Words": word.Words, "word.Number": word.Number, "word.Prefix": word.Prefix, "word.Is": word.Is, "word.Month": word.Month, "word.Weekday": word.Weekday, "word.MonthOf": word.MonthOf, "word.WeekdayOf": word.WeekdayOf,
		"grammar.Valid": grammar.Valid, "grammar.Words": grammar.Words, "grammar.Form": grammar.Form, "grammar.Article": grammar.Article, "grammar.Sayable": grammar.Sayable, "grammar.Say": grammar.Say,
		"term.Valid": term.Valid, "term.Same": term.Same, "term.Leaf": term.Leaf, "term.States": term.States, "term.Find": term.Find, "term.Size": term.Size, "term.Children": term.Children, "term.Facts": term.Facts, "term.Subtree": term.Subtree, "term.Insert": term.Insert, "term.Remove": term.Remove, "term.Replace": term.Replace, "term.Bare": term.Bare, "term.Encode": term.Encode, "term.Decode": term.Decode, "term.Digest": term.Digest,
		"render.Render": render.Render, "render.Check": render.Check, "render.Same": render.Same, "render.Valid": render.Valid, "render.Words": render.Words, "render.Excerpt": render.Excerpt, "render.At": render.At, "render.Stated": render.Stated,
		"parse.Split": parse.Split, "parse.Leaf": parse.Leaf, "parse.Parse": parse.Parse, "parse.Stated": parse.Stated,
		"locale.Valid": locale.Valid, "locale.Amount": locale.Amount, "locale.Statement": locale.Statement, "locale.Localize": locale.Localize, "locale.Translate": locale.Translate,
		"brief.Reduce": brief.Reduce, "brief.Reduces": brief.Reduces, "brief.Value": brief.Value, "brief.Cut": brief.Cut, "brief.Certify": brief.Certify, "brief.Check": brief.Check, "brief.Headline": brief.Headline,
		"edit.Valid": edit.Valid, "edit.Same": edit.Same, "edit.Apply": edit.Apply, "edit.Invert": edit.Invert, "edit.Touches": edit.Touches, "edit.Apart": edit.Apart, "edit.Encode": edit.Encode, "edit.Decode": edit.Decode,
		"patch.Valid": patch.Valid, "patch.Same": patch.Same, "patch.Compile": patch.Compile, "patch.Apply": patch.Apply, "patch.Invert": patch.Invert, "patch.Rebase": patch.Rebase, "patch.Encode": patch.Encode, "patch.Decode": patch.Decode,
		"take.Valid": take.Valid, "take.Same": take.Same, "take.Next": take.Next, "take.Play": take.Play, "take.Split": take.Split, "take.Show": take.Show, "take.Encode": take.Encode, "take.Decode": take.Decode,
		"lineage.Valid": lineage.Valid, "lineage.Same": lineage.Same, "lineage.New": lineage.New, "lineage.Derive": lineage.Derive, "lineage.Correct": lineage.Correct, "lineage.Deliver": lineage.Deliver, "lineage.Settle": lineage.Settle, "lineage.Newest": lineage.Newest, "lineage.Shows": lineage.Shows,
		"kill.States": kill.States, "kill.Root": kill.Root, "kill.Kill": kill.Kill, "kill.Check": kill.Check, "kill.Index": kill.Index, "kill.All": kill.All,
		"line.Valid": line.Valid, "line.ValidHeld": line.ValidHeld, "line.Same": line.Same, "line.New": line.New, "line.Cut": line.Cut, "line.Split": line.Split, "line.Resume": line.Resume, "line.Encode": line.Encode, "line.Decode": line.Decode, "line.Receive": line.Receive, "line.Missing": line.Missing, "line.Text": line.Text, "line.Carry": line.Carry,
		"sched.Valid": sched.Valid, "sched.Proper": sched.Proper, "sched.Trace": sched.Trace, "sched.Finish": sched.Finish, "sched.Response": sched.Response, "sched.Divide": sched.Divide,
		"relay.Valid": relay.Valid, "relay.Same": relay.Same, "relay.New": relay.New, "relay.Pages": relay.Pages, "relay.Put": relay.Put, "relay.Tell": relay.Tell, "relay.Hear": relay.Hear, "relay.Waiting": relay.Waiting, "relay.Print": relay.Print, "relay.Refill": relay.Refill,
		"flow.Valid": flow.Valid, "flow.Seen": flow.Seen, "flow.Feed": flow.Feed, "flow.Read": flow.Read, "flow.Alike": flow.Alike, "flow.Tells": flow.Tells,
		"tally.Valid": tally.Valid, "tally.Same": tally.Same, "tally.New": tally.New, "tally.Add": tally.Add, "tally.Join": tally.Join, "tally.Totals": tally.Totals, "tally.Sure": tally.Sure, "tally.Open": tally.Open, "tally.Encode": tally.Encode, "tally.Decode": tally.Decode,
		"call.Valid": call.Valid, "call.Same": call.Same, "call.Open": call.Open, "call.Register": call.Register, "call.Left": call.Left, "call.Report": call.Report, "call.Verdict": call.Verdict,
		"rights.Valid": rights.Valid, "rights.ValidWant": rights.ValidWant, "rights.Applies": rights.Applies, "rights.Broken": rights.Broken, "rights.Lawful": rights.Lawful, "rights.Solve": rights.Solve, "rights.Forbids": rights.Forbids,
		"meter.Valid": meter.Valid, "meter.Same": meter.Same, "meter.Uses": meter.Uses, "meter.Add": meter.Add, "meter.Less": meter.Less, "meter.Total": meter.Total, "meter.Encode": meter.Encode, "meter.Decode": meter.Decode,
		"book.Valid": book.Valid, "book.Post": book.Post, "book.Dispute": book.Dispute, "book.Close": book.Close, "book.Balance": book.Balance, "book.Statement": book.Statement, "book.Owed": book.Owed, "book.Encode": book.Encode, "book.Head": book.Head,
		"fee.ValidTariff": fee.ValidTariff, "fee.Valid": fee.Valid, "fee.Split": fee.Split, "fee.Divide": fee.Divide, "fee.Refund": fee.Refund, "fee.Charge": fee.Charge, "fee.Adjust": fee.Adjust,
		"journal.Open":  journal.Open,
		"archive.Valid": archive.Valid, "archive.Same": archive.Same, "archive.Encode": archive.Encode, "archive.Add": archive.Add, "archive.Find": archive.Find, "archive.On": archive.On, "archive.Stating": archive.Stating, "archive.Authority": archive.Authority, "archive.Head": archive.Head, "archive.Prove": archive.Prove, "archive.Check": archive.Check, "archive.Grown": archive.Grown, "archive.CheckGrown": archive.CheckGrown,
		"merge.Valid": merge.Valid, "merge.Same": merge.Same, "merge.New": merge.New, "merge.File": merge.File, "merge.Tag": merge.Tag, "merge.Note": merge.Note, "merge.Merge": merge.Merge, "merge.Facts": merge.Facts, "merge.Label": merge.Label,
		"upgrade.Valid": upgrade.Valid, "upgrade.ValidFleet": upgrade.ValidFleet, "upgrade.Common": upgrade.Common, "upgrade.Print": upgrade.Print, "upgrade.Read": upgrade.Read, "upgrade.Convert": upgrade.Convert, "upgrade.Send": upgrade.Send, "upgrade.Step": upgrade.Step,
		"audit.Valid": audit.Valid, "audit.Play": audit.Play, "audit.Audit": audit.Audit,
		"service.Valid": service.Valid, "service.Same": service.Same, "service.Compose": service.Compose, "service.Guard": service.Guard, "service.New": service.New, "service.Do": service.Do, "service.Run": service.Run, "service.Quiet": service.Quiet, "service.Shown": service.Shown, "service.Encode": service.Encode, "service.Decode": service.Decode,
	}
}

// maker makes values: some that are right, some that are not.
type maker struct {
	*rand.Rand
	seeds map[reflect.Type][]reflect.Value
}

// note keeps v, and all that it has in it, as values that are right.
func (m *maker) note(v reflect.Value) {
	if l := m.seeds[v.Type()]; len(l) < 40 {
		m.seeds[v.Type()] = append(l, v)
	}
	switch v.Kind() {
	case reflect.Slice, reflect.Array:
		for i := range v.Len() {
			m.note(v.Index(i))
		}
	case reflect.Struct:
		for i := range v.NumField() {
			m.note(v.Field(i))
		}
	}
}

// clone returns a copy of v with memory and spare capacity of its own, in which about one number or string of rate others is another one.
func (m *maker) clone(v reflect.Value, rate int) reflect.Value {
	c := reflect.New(v.Type()).Elem()
	odd := m.Intn(rate) == 0
	switch v.Kind() {
	case reflect.Int:
		c.SetInt(v.Int())
		if odd {
			c.SetInt([]int64{0, 1, -1, 2, 3, 7, 12, 16, 40, 100, 1000, 1 << 31, 1<<62 - 1, 1 << 62, 1<<63 - 1, -1 << 63, v.Int() + 1, v.Int() - 1}[m.Intn(18)])
		}
	case reflect.String:
		c.SetString(v.String())
		if odd {
			c.SetString([]string{"", "x", "a b", " ", "-1", "7", "one", "\x00", "\xff", v.String() + " x", v.String() + "\x00", strings.Repeat("9", 201)}[m.Intn(12)])
		}
	case reflect.Bool:
		c.SetBool(v.Bool() != odd)
	case reflect.Slice:
		if v.IsNil() {
			return c
		}
		n := v.Len()
		if odd && n > 0 {
			n -= m.Intn(n)
		}
		c.Set(reflect.MakeSlice(v.Type(), n, n+3))
		for i := range n {
			from := v.Index(i)
			if odd && m.Intn(3) == 0 {
				from = v.Index(m.Intn(v.Len()))
			}
			c.Index(i).Set(m.clone(from, rate))
		}
		for i := n; i < n+3; i++ { // spare capacity that nobody may write to
			if v.Len() > 0 {
				c.Slice(0, n+3).Index(i).Set(m.clone(v.Index(0), 1<<30))
			}
		}
	case reflect.Array:
		for i := range v.Len() {
			c.Index(i).Set(m.clone(v.Index(i), rate))
		}
	case reflect.Struct:
		for i := range v.NumField() {
			c.Field(i).Set(m.clone(v.Field(i), rate))
		}
	}
	return c
}

// value returns a value of a type.
func (m *maker) value(t reflect.Type) reflect.Value {
	if l := m.seeds[t]; len(l) > 0 {
		return m.clone(l[m.Intn(len(l))], []int{5, 40, 300, 1 << 30, 1 << 30, 1 << 30}[m.Intn(6)])
	}
	v := reflect.New(t).Elem()
	if t.Kind() == reflect.Slice {
		l := reflect.MakeSlice(t, 0, 5)
		for range m.Intn(4) {
			l = reflect.Append(l, m.value(t.Elem()))
		}
		v.Set(l)
	}
	return v
}

// full returns v with its spare capacity.
func full(v reflect.Value) any {
	if v.Kind() == reflect.Slice {
		return v.Slice(0, v.Cap()).Interface()
	}
	return v.Interface()
}

// spoil changes all that v reaches through slices, and their spare capacity.
func spoil(v reflect.Value) {
	switch v.Kind() {
	case reflect.Slice:
		all := v.Slice(0, v.Cap())
		for i := range all.Len() {
			spoil(all.Index(i))
			all.Index(i).SetZero()
		}
	case reflect.Struct:
		for i := range v.NumField() {
			spoil(v.Field(i))
		}
	}
}

// isZero reports whether v is zero, where empty slices count as nil.
func isZero(v reflect.Value) bool {
	switch v.Kind() {
	case reflect.Slice:
		return v.Len() == 0
	case reflect.Struct:
		for i := range v.NumField() {
			if !isZero(v.Field(i)) {
				return false
			}
		}
		return true
	}
	return v.IsZero()
}

// seeds are values that are right, for the types that chance alone would not get right.
func seeds(t *testing.T) *maker {
	t.Helper()
	m := &maker{rand.New(rand.NewSource(1)), map[reflect.Type][]reflect.Value{}}
	note := func(l ...any) {
		for _, x := range l {
			m.note(reflect.ValueOf(x))
		}
	}
	x := samples.Term(m.Intn, 12)
	y := samples.Term(m.Intn, 12)
	p, _ := patch.Compile(x, y)
	s, u := wholeService(t)
	q, _ := render.Render(u.Grammars[0], x)
	family := s.Tales[0].Family
	_, obituary, _ := kill.Kill(x, 1)
	bounds, _ := brief.Certify(u.Grammars[0], x, nil, 20)
	frames, _ := line.Cut(7, "some text", 4)
	half, _ := rational.Of(1, 2)
	races, _ := call.Open(half)
	races, _ = call.Register(races, api.Race{ID: 7, Sizes: []int{3, 2}, Alpha: half, Bet: 50})
	file, _, _ := merge.Facts(s.Desks[0])
	support, _ := source.Support(u.Sources, []int{0, 2})
	a, _ := archive.Add(api.Archive{}, api.Archived{At: 3, Story: 1, Edition: 1, Language: 1, Copy: q, Label: label.None()})
	clause := api.Clause{Work: 1, Kind: api.COffer, Territories: 255, Classes: 255, To: 100}
	want := api.Want{At: 5, Uses: 1, Needs: [][]int{{1, 2}}}
	encoded, _ := term.Encode(x)
	version, _ := fact.Encode(file.Versions[0])
	event := api.Event{Kind: api.WFile, At: 900, Filing: api.Filing{Fact: 1, Kind: 1, Says: file.Versions[0].Says, Sources: []int{0}}, Label: label.None()}
	text, _ := service.Encode(event)
	note(1, 0, 5, 7, "x", "17", "-3", q.Text, encoded, version, text, "2000-02-29", "01:00", half, true)
	note(u, s, x, y, p, q, family, obituary, bounds, frames, races, file, support, a, clause, want, event)
	note([]api.Clause{clause}, make([]int, 12), []int{1}, []int{0, 2}, []string{"two", "hundred"}, [][]string{{"x"}}, []api.Edit{{Kind: api.ECut, Node: x.Nodes[1].ID}})
	note(api.Rates{Cents: 100, Euros: 92}, api.Place{Offset: 60, Units: 1, Money: 2}, api.Civil{Year: 2000, Month: 2, Day: 29, Weekday: 1}, api.Moment{Now: 50, Drift: 2, Events: []int{1}, Keys: []int{2}, Confirmed: []api.Confirmed{{Fact: 1, Count: 2}}})
	note(api.Label{Until: 5, Events: []int{4}, Counts: []api.Confirmed{{Fact: 1, Count: 1}}, Territories: 255, Classes: 3, Locks: []api.Quorum{{Need: 1, Keys: []int{2, 7}}}})
	note(api.Take{Story: 1, Number: 1, Kind: api.TTake, Term: x}, api.Take{Story: 1, Number: 2, Kind: api.TFix, Patch: p}, []api.Stream{{Class: 3, Size: 4, Period: 20}, {Class: 1, Size: 2, Period: 10}}, []api.Arrival{{}, {Stream: 1, At: 1}})
	note(api.Held{Message: 7, Total: 9, Pieces: []api.Piece{{From: 2, Data: "me"}}}, []api.Item{{At: 3, Label: label.None(), Class: 2, Text: "rain"}}, api.Tally{Contest: api.Contest{Candidates: 2, Districts: []int{100, 50}}, Returns: []api.Returns{{District: 0, Number: 1, Votes: []int{60, 20}}}}, api.Ballots{Votes: []bool{true}})
	note(api.Library{Editions: [][]api.Grammar{u.Grammars, u.Grammars}}, []api.Station{{Language: 1, Edition: 1}, {Language: 2, Edition: 2}}, api.Wired{Language: 1, Edition: 1, Text: q.Text}, api.Bill{ID: 7, Payer: 11, Price: 100, Language: 1, Uses: s.Sheets[0].Uses})
	note(api.Packet{From: 1, Kept: s.Relays[0].Kept, Slips: s.Relays[0].Slips}, []api.Worth{{Fact: 1, Value: 3}}, api.Log{Grammars: u.Grammars, File: file, Rules: u.Rules, Archive: a, Races: races, Clauses: []api.Clause{clause}, Tariff: u.Tariff, Entries: []api.Logged{
		{Kind: api.LPatch, Base: x, New: x, After: x}, {Kind: api.LRelease, At: 3, Moment: api.Moment{Now: 3}}, {Kind: api.LCall, At: 4, Race: 7, Ballots: []api.Ballots{{Votes: []bool{true}}}}, {Kind: api.LPackage, At: 5, Want: want, Works: []int{1}}, {Kind: api.LPay, At: 5, Bill: api.Bill{Payer: 11, Language: 1}},
	}})
	return m
}

// right returns arguments for functions that chance alone does not get right.
func right() map[string][]any {
	g := samples.Grammar(1)
	pick := rand.New(rand.NewSource(2)).Intn
	x := samples.Term(pick, 8)
	p, _ := render.Render(g, x)
	words := parse.Split(p.Text)
	says := api.Statement{Whom: -1, From: -1, To: -1}
	leaf := api.Node{ID: 500, Parent: -1, Kind: api.NSentence, Fact: 3, Version: 1, Source: -1, Says: says}
	one := api.Term{Nodes: []api.Node{leaf}}
	told, _ := render.Render(g, one)
	file := api.File{Sources: []api.Source{{Kind: api.SNamed}}, Versions: []api.Version{{Fact: 3, Number: 1, Kind: api.VAssert, Says: says, Sources: []int{0}}}}
	half := api.Ratio{Num: "1", Den: "2"}
	races, _ := call.Open(half)
	held := api.Held{Message: 7, Total: 4, Pieces: []api.Piece{{Data: "text"}}}
	part := api.Held{Message: 7, Total: 4, Pieces: []api.Piece{{Data: "te"}}}
	frame, _ := line.Encode(api.Frame{Message: 7, Total: 4, From: 1, Data: "ex"})
	tallied, _ := tally.Encode(api.Returns{Number: 1, Votes: []int{1, 2}})
	encoded, _ := term.Encode(x)
	edited, _ := edit.Encode(api.Edit{Kind: api.EJoin, With: x})
	demands, _ := label.Encode(api.Label{Events: []int{4}, Locks: []api.Quorum{{Need: 1, Keys: []int{2, 7}}}})
	taken, _ := take.Encode(api.Take{Number: 1, Kind: api.TTake, Term: x})
	clauses := []api.Clause{{Work: 1, Kind: api.COffer, Territories: 255, Classes: 255, To: 9}, {Work: 1, Kind: api.CForbid, Territories: 255, Classes: 255, To: 9}}
	want := api.Want{Uses: 1, Needs: [][]int{{1}}}
	none := func(n int) []int { return slices.Repeat([]int{-1}, n) }
	tariff := api.Tariff{Bureaus: none(16), Translators: none(4), Sources: none(12), Parts: [3]int{60, 20, 20}}
	bill := api.Bill{ID: 7, Payer: 11, Price: 100, Language: 1, Uses: []api.Use{{Fact: 3, Source: -1, Count: 1}}}
	charged, _ := fee.Charge(tariff, api.Book{Accounts: 12}, bill, 3)
	metres := api.Amount{Lo: 3, Hi: 9, Unit: api.UMetre}
	return map[string][]any{
		"parse.Stated": {g, p.Text}, "parse.Parse": {g, p.Text}, "parse.Leaf": {g, words, 1}, "locale.Translate": {g, samples.Grammar(2), p.Text},
		"meter.Uses": {g, file, 4, told}, "integer.Div": {"-17", "5"}, "integer.Gcd": {"12", "18"}, "integer.Add": {"12", "18"}, "integer.Sub": {"12", "18"}, "integer.Mul": {"12", "18"}, "integer.Root": {"12"}, "integer.ToInt": {"12"}, "rational.Parse": {"3/2"}, "rational.Make": {"6", "-4"},
		"word.Prefix": {1, []string{"two", "hundred", "people"}, 0}, "word.MonthOf": {1, "june"}, "word.WeekdayOf": {3, "lunes"},
		"tally.Decode": {tallied, 0}, "term.Decode": {encoded, 0}, "edit.Decode": {edited, 0}, "take.Decode": {taken, 0},
		"call.Register": {races, api.Race{ID: 3, Sizes: []int{3}, Alpha: api.Ratio{Num: "1", Den: "3"}, Bet: 5}},
		"brief.Value":   {g, x, []api.Worth{{Fact: 1, Value: 2}}, x}, "render.Excerpt": {told, 500}, "fact.Add": {file, api.Version{Fact: 3, Number: 2, Kind: api.VKill, Says: says, At: 5}},
		"line.Decode": {frame}, "line.Text": {held}, "line.Receive": {part, frame}, "line.Resume": {part, "text", 1}, "term.Insert": {x, 0, 0, one},
		"rights.Broken": {clauses, make([]int, 12), want, []int{1}}, "rights.Solve": {clauses, make([]int, 12), want}, "unit.Meet": {metres, metres}, "unit.Add": {metres, metres}, "brief.Headline": {g, one, []api.Worth{{Fact: 3, Value: 2}}, 20},
		"label.Decode": {demands, 0}, "archive.Add": {api.Archive{}, api.Archived{At: 3, Edition: 1, Language: 1, Copy: told, Label: label.None()}},
		"fee.Adjust": {tariff, charged, bill, 3, 5}, "fee.Charge": {tariff, api.Book{Accounts: 12}, bill, 3}, "fee.Divide": {tariff, bill}, "fee.Refund": {tariff, bill, 3},
		"calendar.Read": {"2000-02-29", "01:00", 60}, "flow.Read": {[]string{"\x04rain" + strings.Repeat("\x00", 59)}},
	}
}

// wholeService returns a service in which something has happened, and its setup.
func wholeService(t *testing.T) (api.Service, api.Setup) {
	t.Helper()
	none := func(n int) []int { return slices.Repeat([]int{-1}, n) }
	u := api.Setup{Rules: api.Rules{Flat: 2, Attributed: 1, Dispute: 1}, Grammars: samples.Grammars(), Sources: []api.Source{{ID: 0, Kind: 1}, {ID: 2, Kind: 1}, {ID: 3, Kind: 2, From: []int{0, 2}}}, Price: 100, Readers: []api.Reader{{}, {Class: 2}}, Paper: 50,
		Tariff: api.Tariff{Bureaus: none(16), Translators: none(4), Sources: none(12), Parts: [3]int{60, 20, 20}}}
	says := api.Statement{Who: 1, Whom: -1, From: -1, To: -1}
	s, acted, e := service.Run(u, []api.Event{
		{Kind: api.WFile, At: 1, Filing: api.Filing{Fact: 1, Kind: 1, Says: says, Sources: []int{0, 2}}}, {Kind: api.WStory, At: 2, Facts: []int{1}}, {Kind: api.WLabel, At: 2, Label: label.None()},
		{Kind: api.WCopy, At: 2, Edits: []api.Edit{{Kind: api.EOwn, Node: 2, Text: "x"}}}, {Kind: api.WFile, At: 3, Filing: api.Filing{Fact: 1, Kind: 2, Says: says, Sources: []int{0, 3}}}, {Kind: api.WFresh, At: 3}, {Kind: api.WDeliver, At: 3, Copy: 1, Number: 1},
		{Kind: api.WPrint, At: 4, Language: 1}, {Kind: api.WPaper, At: 4, Number: 1},
	})
	for i, ok := range acted {
		if !ok || e != api.OK {
			t.Fatal("does not act:", i)
		}
	}
	return s, u
}

// keepsNumber reports whether a function returns a number with an error, as its chapter says.
func keepsNumber(name string) bool {
	return name == "parse.Leaf" || name == "parse.Parse" || name == "edit.Apply"
}

// TestRules checks R1 to R4 for all functions: they do not panic, return zero values with an error, depend on nothing but their arguments, and neither change nor keep these.
func TestRules(t *testing.T) {
	m := seeds(t)
	succeeded, known := map[string]int{}, right()
	for _, name := range slices.Sorted(maps.Keys(functions())) {
		call := reflect.ValueOf(functions()[name])
		for k := range 120 {
			var args, same []reflect.Value
			for i := range call.Type().NumIn() {
				a := m.value(call.Type().In(i))
				if l := known[name]; l != nil && k%3 == 0 {
					a = m.clone(reflect.ValueOf(l[i]), []int{50, 1 << 30}[k%2])
				}
				args, same = append(args, a), append(same, reflect.ValueOf(clonedFull(a)))
			}
			first := call.Call(args)
			again := call.Call(args)
			for i := range args {
				if !reflect.DeepEqual(full(args[i]), same[i].Interface()) {
					t.Fatalf("%s changes its argument %d", name, i)
				}
			}
			last := first[len(first)-1]
			failed := last.Type() == reflect.TypeOf(api.OK) && !last.IsZero() || len(first) > 1 && last.Kind() == reflect.Bool && last.IsZero()
			if !failed {
				succeeded[name]++
			}
			for i, x := range first {
				if !reflect.DeepEqual(x.Interface(), again[i].Interface()) {
					t.Fatalf("%s returns something else the second time", name)
				}
				if failed && i < len(first)-1 && !isZero(x) && !(keepsNumber(name) && x.Kind() == reflect.Int) {
					t.Fatalf("%s returns %v with an error", name, x)
				}
			}
			if overlap(first) {
				t.Fatalf("two slices of a result of %s share memory", name)
			}
			for _, x := range first {
				spoil(settable(x))
			}
			for i := range args {
				if !reflect.DeepEqual(full(args[i]), same[i].Interface()) {
					t.Fatalf("a result of %s shares memory with the argument %d", name, i)
				}
			}
			for i, x := range call.Call(args) {
				if !reflect.DeepEqual(x.Interface(), again[i].Interface()) {
					t.Fatalf("results of %s share memory with each other's", name)
				}
			}
		}
	}
	for name := range functions() {
		if succeeded[name] == 0 && name != "journal.Open" {
			t.Errorf("%s has never succeeded", name)
		}
	}
}

// overlap reports whether two slices within l share memory, with their spare capacities.
func overlap(l []reflect.Value) bool {
	var ranges [][2]uintptr
	var collect func(v reflect.Value)
	collect = func(v reflect.Value) {
		switch v.Kind() {
		case reflect.Slice:
			if v.Cap() > 0 {
				ranges = append(ranges, [2]uintptr{v.Pointer(), v.Pointer() + uintptr(v.Cap())*v.Type().Elem().Size()})
			}
			for i := range v.Len() {
				collect(v.Index(i))
			}
		case reflect.Struct:
			for i := range v.NumField() {
				collect(v.Field(i))
			}
		}
	}
	for _, v := range l {
		collect(v)
	}
	slices.SortFunc(ranges, func(a, b [2]uintptr) int { return cmp.Compare(a[0], b[0]) })
	for i := 1; i < len(ranges); i++ {
		if ranges[i][0] < ranges[i-1][1] {
			return true
		}
	}
	return false
}

// settable returns a value that can be changed, with the memory of v.
func settable(v reflect.Value) reflect.Value {
	c := reflect.New(v.Type()).Elem()
	c.Set(v)
	return c
}

// clonedFull returns an exact copy of v with its spare capacity.
func clonedFull(v reflect.Value) any {
	m := &maker{rand.New(rand.NewSource(1)), nil}
	if v.Kind() == reflect.Slice {
		v = v.Slice(0, v.Cap())
	}
	return m.clone(v, 1<<60).Interface()
}

// change changes the k-th number, string or bool that v reaches, and returns how many of them are left to be passed over.
func change(v reflect.Value, k int) int {
	switch v.Kind() {
	case reflect.Int:
		if k == 0 {
			v.SetInt(v.Int() + 1)
		}
		return k - 1
	case reflect.String:
		if k == 0 {
			v.SetString(v.String() + "x")
		}
		return k - 1
	case reflect.Bool:
		if k == 0 {
			v.SetBool(!v.Bool())
		}
		return k - 1
	case reflect.Slice, reflect.Array:
		for i := range v.Len() {
			k = change(v.Index(i), k)
		}
	case reflect.Struct:
		for i := range v.NumField() {
			k = change(v.Field(i), k)
		}
	}
	return k
}

// fill sets all that v has, with one element in each slice.
func fill(v reflect.Value) {
	switch v.Kind() {
	case reflect.Slice:
		v.Set(reflect.MakeSlice(v.Type(), 1, 1))
		fill(v.Index(0))
	case reflect.Array:
		for i := range v.Len() {
			fill(v.Index(i))
		}
	case reflect.Struct:
		for i := range v.NumField() {
			fill(v.Field(i))
		}
	}
}

// TestSame checks that the functions Same compare all fields, of values that are valid or not: for each function, it says so of a value, and of no other one that differs in one place.
func TestSame(t *testing.T) {
	for name, f := range functions() {
		if !strings.HasSuffix(name, ".Same") {
			continue
		}
		same := reflect.ValueOf(f)
		x := reflect.New(same.Type().In(0)).Elem()
		fill(x)
		places := 0
		for change(x, places) < 0 {
			places++
		}
		for k := range places {
			a, b := reflect.New(x.Type()).Elem(), reflect.New(x.Type()).Elem()
			fill(a)
			fill(b)
			if !same.Call([]reflect.Value{a, b})[0].Bool() {
				t.Fatalf("%s: equal values are not the same", name)
			}
			change(b, k)
			if same.Call([]reflect.Value{a, b})[0].Bool() || same.Call([]reflect.Value{b, a})[0].Bool() {
				t.Errorf("%s: values that differ in the place %d are the same", name, k)
			}
		}
		none := reflect.New(x.Type()).Elem()
		if places == 0 || same.Call([]reflect.Value{x, none})[0].Bool() {
			t.Errorf("%s: something is the same as nothing", name)
		}
	}
}
