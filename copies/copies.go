// Package copies returns copies of what the layers work on, with memory of their own.
package copies

import (
	"slices"

	"newswire/api"
	"newswire/lists"
)

// Source returns a copy of s.
func Source(s api.Source) api.Source {
	s.From = slices.Clone(s.From)
	return s
}

// Version returns a copy of v.
func Version(v api.Version) api.Version {
	v.Sources = slices.Clone(v.Sources)
	return v
}

func quorum(q api.Quorum) api.Quorum {
	q.Keys = slices.Clone(q.Keys)
	return q
}

// Label returns a copy of l.
func Label(l api.Label) api.Label {
	l.Events = slices.Clone(l.Events)
	l.Counts = slices.Clone(l.Counts)
	l.Locks = lists.Map(l.Locks, quorum)
	return l
}

// Grammar returns a copy of g.
func Grammar(g api.Grammar) api.Grammar {
	g.Entities, g.Verbs, g.Sources = slices.Clone(g.Entities), slices.Clone(g.Verbs), slices.Clone(g.Sources)
	return g
}

// Term returns a copy of t.
func Term(t api.Term) api.Term {
	return api.Term{Nodes: slices.Clone(t.Nodes)}
}

// Edit returns a copy of e.
func Edit(e api.Edit) api.Edit {
	e.With = Term(e.With)
	return e
}

func familyCopy(c api.Copy) api.Copy {
	c.Edits = lists.Map(c.Edits, Edit)
	c.Terms = lists.Map(c.Terms, Term)
	c.Conflicts = slices.Clone(c.Conflicts)
	return c
}

// Family returns a copy of f.
func Family(f api.Family) api.Family {
	return api.Family{Copies: lists.Map(f.Copies, familyCopy)}
}

// Relay returns a copy of r.
func Relay(r api.Relay) api.Relay {
	r.Kept, r.Slips = slices.Clone(r.Kept), slices.Clone(r.Slips)
	return r
}

func race(x api.Race) api.Race {
	x.Sizes, x.Counted = slices.Clone(x.Sizes), slices.Clone(x.Counted)
	return x
}

// Races returns a copy of r.
func Races(r api.Races) api.Races {
	r.Races = lists.Map(r.Races, race)
	return r
}

func filing(x api.Filing) api.Filing {
	x.Sources = slices.Clone(x.Sources)
	return x
}

func tagged(t api.Tagged) api.Tagged {
	t.Label = Label(t.Label)
	return t
}

// Desk returns a copy of d.
func Desk(d api.Desk) api.Desk {
	d.Sources = lists.Map(d.Sources, Source)
	d.Filings = lists.Map(d.Filings, filing)
	d.Labels = lists.Map(d.Labels, tagged)
	d.Slips = slices.Clone(d.Slips)
	return d
}

func tale(t api.Tale) api.Tale {
	return api.Tale{Facts: slices.Clone(t.Facts), Family: Family(t.Family)}
}

func sheet(s api.Sheet) api.Sheet {
	s.Uses = slices.Clone(s.Uses)
	return s
}

// Service returns a copy of s.
func Service(s api.Service) api.Service {
	s.Desks = lists.Map(s.Desks, Desk)
	s.Tales = lists.Map(s.Tales, tale)
	s.Relays = lists.Map(s.Relays, Relay)
	s.Sheets = lists.Map(s.Sheets, sheet)
	s.Book.Postings = slices.Clone(s.Book.Postings)
	return s
}

// Setup returns a copy of u.
func Setup(u api.Setup) api.Setup {
	u.Grammars = lists.Map(u.Grammars, Grammar)
	u.Sources = lists.Map(u.Sources, Source)
	u.Tariff.Bureaus = slices.Clone(u.Tariff.Bureaus)
	u.Tariff.Translators = slices.Clone(u.Tariff.Translators)
	u.Tariff.Sources = slices.Clone(u.Tariff.Sources)
	u.Readers = slices.Clone(u.Readers)
	return u
}
