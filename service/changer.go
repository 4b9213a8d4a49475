package service

import (
	"slices"

	"newswire/api"
	"newswire/copies"
	"newswire/fee"
	"newswire/label"
	"newswire/lineage"
	"newswire/merge"
	"newswire/meter"
	"newswire/relay"
	"newswire/render"
)

// changer is a service that is being changed, by an event. What it embeds is its own.
type changer struct {
	api.Service
	setup api.Setup
	event api.Event
}

// refused is the value of the panic with which a change ends that does not act.
type refused struct{}

// demand gives the change up unless ok is true.
func demand(ok bool) {
	if !ok {
		panic(refused{})
	}
}

// done returns x, or gives the change up if there was an error.
func done[T any](x T, e api.Errno) T {
	demand(e == api.OK)
	return x
}

// changing returns what change makes of s.
func changing(u api.Setup, s api.Service, change func(c *changer)) (t api.Service, e api.Errno) {
	defer func() {
		if recover() != nil {
			t, e = api.Service{}, api.ErrService
		}
	}()
	c := &changer{Service: copies.Service(s), setup: u}
	change(c)
	return c.Service, api.OK
}

// act lets an event act.
func (c *changer) act(e api.Event) {
	kinds := map[int]func(*changer){
		api.WFile:    (*changer).file,
		api.WMerge:   (*changer).merge,
		api.WStory:   (*changer).story,
		api.WLabel:   (*changer).label,
		api.WCopy:    (*changer).copy,
		api.WFresh:   (*changer).fresh,
		api.WDeliver: (*changer).deliver,
		api.WPrint:   (*changer).print,
		api.WHear:    (*changer).hear,
		api.WPaper:   (*changer).paper,
		api.WRefund:  (*changer).refund,
	}
	act, known := kinds[e.Kind]
	demand(known && c.Now <= e.At && 0 <= e.At && e.At <= api.MaxTime)
	c.Now, c.event = e.At, e
	act(c)
}

// member returns i, if it is the number of a desk or relay.
func member(i int) int {
	demand(0 <= i && i < api.Members)
	return i
}

// desk returns the desk of the event.
func (c *changer) desk() *api.Desk {
	return &c.Desks[member(c.event.Desk)]
}

// relay returns the relay of the event.
func (c *changer) relay() *api.Relay {
	return &c.Relays[member(c.event.Relay)]
}

// tale returns a story.
func (c *changer) tale(i int) *api.Tale {
	demand(0 <= i && i < len(c.Tales))
	return &c.Tales[i]
}

// family returns the family of the story of the event, which has the copy of the event.
func (c *changer) family() *api.Family {
	f := &c.tale(c.event.Story).Family
	demand(0 <= c.event.Copy && c.event.Copy < len(f.Copies))
	return f
}

// facts returns the file of a desk.
func (c *changer) facts(desk int) api.File {
	f, _, e := merge.Facts(c.Desks[member(desk)])
	demand(e == api.OK)
	return f
}

// composed returns the story composed of facts for a desk.
func (c *changer) composed(desk int, facts []int) api.Term {
	return done(Compose(c.facts(desk), c.setup.Rules, c.Now, facts))
}

// shown returns the newest term of a copy of a story, guarded for a desk.
func (c *changer) shown(story int, copy int, desk int) api.Term {
	t := done(lineage.Newest(c.tale(story).Family, copy))
	return done(Guard(c.facts(desk), c.setup.Rules, c.Now, t))
}

func (c *changer) file() {
	x := c.event.Filing
	x.At = c.Now
	*c.desk() = done(merge.File(*c.desk(), x))
}

// takeOver lets one desk take over what another one knows.
func (c *changer) takeOver(desk int, other int) {
	demand(member(desk) != member(other))
	c.Desks[desk] = done(merge.Merge(c.Desks[desk], c.Desks[other]))
}

func (c *changer) merge() {
	c.takeOver(c.event.Desk, c.event.Other)
}

func (c *changer) story() {
	facts := c.event.Facts
	demand(len(c.Tales) < api.MaxTales && 1 <= len(facts) && len(facts) <= api.MaxTold && distinct(facts))
	family := done(lineage.New(c.composed(c.event.Desk, facts)))
	c.Tales = append(c.Tales, api.Tale{Facts: slices.Clone(facts), Family: family})
}

func (c *changer) label() {
	c.tale(c.event.Story)
	*c.desk() = done(merge.Tag(*c.desk(), c.event.Story, c.event.Label))
}

func (c *changer) copy() {
	f := c.family()
	*f = done(lineage.Derive(*f, c.event.Copy, c.event.Edits))
}

// correct lets a desk write a story anew.
func (c *changer) correct(t *api.Tale, desk int) {
	t.Family = done(lineage.Correct(t.Family, c.composed(desk, t.Facts)))
}

func (c *changer) fresh() {
	c.correct(c.tale(c.event.Story), c.event.Desk)
}

func (c *changer) deliver() {
	f := c.family()
	next, _, e := lineage.Deliver(*f, c.event.Copy, c.event.Number)
	demand(e == api.OK)
	*f = next
}

// bill returns the bill of a sheet with a number.
func (c *changer) bill(number int, s api.Sheet) api.Bill {
	return api.Bill{ID: number, Payer: account(s.Reader), Price: c.setup.Price, Language: s.Language, Uses: s.Uses}
}

// printed returns the sheet that the event prints.
func (c *changer) printed() api.Sheet {
	e := c.event
	demand(1 <= e.Language && e.Language <= api.Languages && 0 <= e.Reader && e.Reader < len(c.setup.Readers))
	g := c.setup.Grammars[e.Language-1]
	p := done(render.Render(g, c.shown(e.Story, e.Copy, e.Desk)))
	uses := done(meter.Uses(g, c.facts(e.Desk), e.Reader, p))
	return api.Sheet{At: e.At, Story: e.Story, Copy: e.Copy, Language: e.Language, Reader: e.Reader, Text: p.Text, Uses: uses}
}

func (c *changer) print() {
	c.family()
	number := len(c.Sheets)
	demand(number < api.MaxSheets)
	s := c.printed()
	embargo := done(merge.Label(*c.desk(), s.Story))
	demand(label.Open(embargo, c.setup.Readers[s.Reader], api.Moment{Now: c.Now}))
	*c.relay() = done(relay.Put(*c.relay(), api.Dispatch{Story: number, Edition: 1, Class: api.DTake, Text: s.Text}))
	c.Book = done(fee.Charge(c.setup.Tariff, c.Book, c.bill(number, s), 0))
	c.Sheets = append(c.Sheets, s)
}

// listen lets one relay hear what another one tells.
func (c *changer) listen(to int, from int) {
	demand(member(to) != member(from))
	c.Relays[to] = done(relay.Hear(c.Relays[to], done(relay.Tell(c.Relays[from]))))
}

func (c *changer) hear() {
	c.listen(c.event.Relay, c.event.Other)
}

func (c *changer) paper() {
	filled := done(relay.Refill(*c.relay(), c.event.Number))
	printed, _, e := relay.Print(filled)
	demand(e == api.OK)
	*c.relay() = printed
}

func (c *changer) refund() {
	for i, s := range c.Sheets {
		if slices.ContainsFunc(s.Uses, func(u api.Use) bool { return u.Fact == c.event.Fact }) {
			c.Book = done(fee.Adjust(c.setup.Tariff, c.Book, c.bill(i, s), c.event.Fact, 0))
		}
	}
}

// quiet lets everybody hear of everything.
func (c *changer) quiet() {
	c.takeOver(0, 1)
	c.takeOver(1, 0)
	for i := range c.Tales {
		t := &c.Tales[i]
		c.correct(t, 0)
		settled, _, e := lineage.Settle(t.Family)
		demand(e == api.OK)
		t.Family = settled
	}
	c.listen(0, 1)
	c.listen(1, 0)
}
