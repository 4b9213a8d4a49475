package audit

import (
	"slices"

	"newswire/api"
	"newswire/archive"
	"newswire/call"
	"newswire/copies"
	"newswire/edit"
	"newswire/fee"
	"newswire/meter"
	"newswire/parse"
	"newswire/patch"
	"newswire/render"
	"newswire/rights"
	"newswire/standing"
	"newswire/term"
)

// auditor is a log that is replayed, with the races, and how often works were used, so far.
type auditor struct {
	api.Log
	races api.Races
	used  [api.MaxWorks]int
}

func newAuditor(l api.Log) *auditor {
	return &auditor{Log: l, races: l.Races}
}

// falsehood is the value of the panic with which an entry ends that does not follow.
type falsehood struct{}

// demand gives the entry up unless ok is true.
func demand(ok bool) {
	if !ok {
		panic(falsehood{})
	}
}

// sound returns x, or gives the entry up if there was an error.
func sound[T any](x T, e api.Errno) T {
	demand(e == api.OK)
	return x
}

// follows replays the entry i, and reports whether it follows.
func (a *auditor) follows(i int) (ok bool) {
	kinds := [api.LPay + 1]func(*auditor, int){
		api.LPrint:   (*auditor).print,
		api.LPatch:   (*auditor).patch,
		api.LRelease: (*auditor).release,
		api.LCall:    (*auditor).call,
		api.LPackage: (*auditor).lot,
		api.LPay:     (*auditor).pay,
	}
	defer func() {
		if recover() != nil {
			ok = false
		}
	}()
	kinds[a.Entries[i].Kind](a, i)
	return true
}

// grammar returns the grammar of a language.
func (a *auditor) grammar(language int) api.Grammar {
	demand(1 <= language && language <= len(a.Grammars))
	return a.Grammars[language-1]
}

// print replays that a text was printed.
func (a *auditor) print(i int) {
	x := a.Entries[i]
	g := a.grammar(x.Language)
	sound(meter.Uses(g, a.File, 0, x.Copy))
	for k, n := range sound(parse.Stated(g, x.Copy.Text)) {
		n.Fact, n.Version = x.Copy.Spans[k].Fact, x.Copy.Spans[k].Version
		demand(standing.May(a.File, a.Rules, x.At, n))
	}
}

// patch replays that a copy was corrected.
func (a *auditor) patch(i int) {
	x := a.Entries[i]
	p := sound(patch.Compile(x.Base, x.New))
	q, _, e := patch.Rebase(x.Base, p, x.Edits)
	demand(e == api.OK)
	u, _, e := edit.Apply(x.Base, x.Edits)
	demand(e == api.OK)
	demand(term.Same(sound(patch.Apply(u, q)), x.After))
}

// release replays that a reader was shown an entry of the archive.
func (a *auditor) release(i int) {
	x := a.Entries[i]
	demand(0 <= x.Index && x.Index < len(a.Archive.Entries))
	shown := a.Archive.Entries[x.Index]
	demand(archive.Find(a.Archive, shown.Story, shown.Language, x.At, x.Reader, x.Moment) == x.Index)
	late := x.Moment.Now - x.At
	demand(-x.Moment.Drift <= late && late <= x.Moment.Drift)
}

// call replays what was reported of a race, and the verdict on it.
func (a *auditor) call(i int) {
	x := a.Entries[i]
	races := a.races
	for _, b := range x.Ballots {
		next, _, e := call.Report(races, x.Race, b)
		demand(e == api.OK)
		races = next
	}
	demand(sound(call.Verdict(races, x.Race)) == x.Verdict)
	a.races = races
}

// lot replays that a package was given.
func (a *auditor) lot(i int) {
	x := a.Entries[i]
	works, _, e := rights.Solve(a.Clauses, a.used[:], x.Want)
	demand(e == api.OK && x.Want.At == x.At && slices.Equal(works, x.Works))
	for _, w := range works {
		a.used[w] += x.Want.Uses
	}
}

// printed reports whether an entry before the entry i is that this was printed in a language.
func (a *auditor) printed(i int, language int, p api.Printed) bool {
	return slices.ContainsFunc(a.Entries[:i], func(y api.Logged) bool {
		return y.Kind == api.LPrint && y.Language == language && render.Same(y.Copy, p)
	})
}

// pay replays that a bill was charged.
func (a *auditor) pay(i int) {
	x := a.Entries[i]
	g := a.grammar(x.Bill.Language)
	var uses []api.Use
	for _, p := range x.Prints {
		demand(a.printed(i, x.Bill.Language, p))
		uses = sound(meter.Add(uses, sound(meter.Uses(g, a.File, 0, p))))
	}
	demand(meter.Same(uses, x.Bill.Uses))
	demand(slices.Equal(sound(fee.Divide(a.Tariff, x.Bill)), x.Shares))
}

// outcome returns the races, and how often each work was used.
func (a *auditor) outcome() (api.Races, []int) {
	return copies.Races(a.races), slices.Clone(a.used[:])
}
