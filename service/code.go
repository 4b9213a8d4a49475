package service

import (
	"newswire/api"
	"newswire/coding"
	"newswire/edit"
	"newswire/label"
	"newswire/lists"
)

// The greatest kind and number of an event.
const (
	maxKind   = 100
	maxNumber = 1000000000
)

// numbers returns where an event has its numbers, but for the lists: those of the event itself, and those of its filing.
func numbers(e *api.Event) (own []*int, filed []*int) {
	own = []*int{&e.Kind, &e.At, &e.Desk, &e.Other, &e.Story, &e.Copy, &e.Number, &e.Language, &e.Reader, &e.Relay, &e.Fact}
	f := &e.Filing
	filed = []*int{&f.Desk, &f.Number, &f.Fact, &f.Kind, &f.At}
	return own, filed
}

func isNumber(n int) bool {
	return -maxNumber <= n && n <= maxNumber
}

func isPlace(p *int) bool {
	return isNumber(*p)
}

// formed reports whether e is formed.
func formed(e api.Event) bool {
	own, filed := numbers(&e)
	s := e.Filing.Says
	said := []int{s.Who, s.What, s.Whom, s.Count.Lo, s.Count.Hi, s.Count.Unit, s.From, s.To}
	return 0 <= e.Kind && e.Kind <= maxKind && lists.All(own, isPlace) && lists.All(filed, isPlace) && lists.All(said, isNumber) &&
		len(e.Filing.Sources) <= api.MaxSources && lists.All(e.Filing.Sources, isNumber) &&
		len(e.Facts) <= api.MaxTold && lists.All(e.Facts, func(n int) bool { return 0 <= n && n < api.MaxFacts }) &&
		len(e.Edits) <= api.MaxEdits && lists.All(e.Edits, edit.Valid) && label.Valid(e.Label)
}

func writeAll(w *coding.Writer, l []*int) {
	for _, p := range l {
		w.Ints(*p)
	}
}

// Encode returns the encoding of e.
func Encode(e api.Event) (string, api.Errno) {
	if !formed(e) {
		return "", api.ErrService
	}
	var w coding.Writer
	own, filed := numbers(&e)
	writeAll(&w, own)
	writeAll(&w, filed)
	w.Statement(e.Filing.Says)
	w.List(e.Filing.Sources)
	w.List(e.Facts)
	w.Ints(len(e.Edits))
	for _, x := range e.Edits {
		w.Put(edit.Encode(x))
	}
	w.Put(label.Encode(e.Label))
	return w.Or(api.ErrService)
}

func readEvent(r *coding.Reader) api.Event {
	var e api.Event
	own, filed := numbers(&e)
	r.Ints(own...)
	r.Ints(filed...)
	e.Filing.Says = r.Statement()
	e.Filing.Sources = r.List(api.MaxSources)
	e.Facts = r.List(api.MaxTold)
	e.Edits = coding.Many(r, api.MaxEdits, func() api.Edit { return coding.Part(r, edit.Decode) })
	e.Label = coding.Part(r, label.Decode)
	return e
}

// Decode returns the formed event with the encoding s.
func Decode(s string) (api.Event, api.Errno) {
	e, next, ok := coding.Read(s, 0, readEvent, formed)
	if !ok || next != len(s) {
		return api.Event{}, api.ErrService
	}
	return e, api.OK
}
