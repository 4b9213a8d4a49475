package grammar

import (
	"slices"
	"strconv"
	"strings"

	"newswire/api"
	"newswire/calendar"
	"newswire/lists"
	"newswire/word"
)

func sayableAmount(a api.Amount) bool {
	return a == api.Amount{} || api.UPeople <= a.Unit && a.Unit <= api.UEuro && 0 <= a.Lo && a.Lo <= a.Hi && a.Hi <= api.MaxAmount
}

func sayableTime(from int, to int) bool {
	return from == -1 && to == -1 || 0 <= from && from <= to && to <= api.MaxTime
}

// sayableStatement reports whether s is sayable in g, which is valid.
func sayableStatement(g api.Grammar, s api.Statement) bool {
	return isIndex(g.Entities, s.Who) && (s.Whom == -1 || isIndex(g.Entities, s.Whom)) && isIndex(g.Verbs, s.What) &&
		sayableAmount(s.Count) && sayableTime(s.From, s.To)
}

// split divides text at blanks.
func split[T ~string](text T) []string {
	return strings.Split(string(text), " ")
}

// isOwn reports whether s is a word that a subscriber may use.
func isOwn(s string) bool {
	return s != "" && lists.All([]byte(s), func(c byte) bool { return 'a' <= c && c <= 'z' || '0' <= c && c <= '9' })
}

// Sayable reports whether n is sayable in g.
func Sayable(g api.Grammar, n api.Node) bool {
	return Valid(g) && sayable(g, n)
}

func sayable(g api.Grammar, n api.Node) bool {
	switch n.Kind {
	case api.NSentence, api.NHeadline, api.NQuote, api.NRow:
		known := n.Source == -1 || n.Source == api.SomeSource || isIndex(g.Sources, n.Source)
		return known && sayableStatement(g, n.Says)
	case api.NNotice:
		return true
	case api.NOwn:
		return len(n.Text) <= api.MaxOwn && lists.All(split(n.Text), isOwn)
	}
	return false
}

// Say returns the words of n.
func Say(g api.Grammar, n api.Node) ([]string, api.Errno) {
	if !Sayable(g, n) {
		return nil, api.ErrGrammar
	}
	l := []string{g.Marks[n.Kind]}
	switch n.Kind {
	case api.NNotice:
	case api.NOwn:
		words := split(n.Text)
		l = append(append(l, strconv.Itoa(len(words))), words...)
	default:
		s := speaker{g: g, says: n.Says, not: n.Not}
		l = slices.Concat(l, attribution(g, n.Source), s.statement())
	}
	return l, api.OK
}

// attribution returns the words for a source, or none for nobody.
func attribution(g api.Grammar, source int) []string {
	switch source {
	case -1:
		return nil
	case api.SomeSource:
		return []string{g.Per, g.Some}
	}
	return []string{g.Per, g.Sources[source]}
}

// speaker says a statement, which is sayable.
type speaker struct {
	g    api.Grammar
	says api.Statement
	not  bool
}

// statement returns the words of all parts in order.
func (s speaker) statement() []string {
	parts := map[int]func(speaker) []string{
		api.PSubject: speaker.subject,
		api.PVerb:    speaker.verb,
		api.PObject:  speaker.object,
		api.PCount:   speaker.count,
		api.PTime:    speaker.time,
	}
	return slices.Concat(lists.Map(s.g.Order[:], func(part int) []string { return parts[part](s) })...)
}

func (s speaker) subject() []string {
	return []string{article(s.g, s.says.Who, false), s.g.Entities[s.says.Who].Word}
}

func (s speaker) verb() []string {
	l := []string{form(s.g, s.says.What, s.says.Who)}
	if s.not {
		l = append(l, s.g.Not)
	}
	return l
}

func (s speaker) object() []string {
	if s.says.Whom == -1 {
		return nil
	}
	return []string{s.g.Object, article(s.g, s.says.Whom, true), s.g.Entities[s.says.Whom].Word}
}

func (s speaker) number(n int) []string {
	l, _ := word.Words(s.g.Language, n)
	return l
}

func (s speaker) count() []string {
	c := s.says.Count
	if c == (api.Amount{}) {
		return nil
	}
	unit := []string{s.g.Units[c.Unit]}
	if c.Lo == c.Hi {
		return slices.Concat([]string{s.g.Count}, s.number(c.Lo), unit)
	}
	return slices.Concat([]string{s.g.Count, s.g.Between}, s.number(c.Lo), []string{s.g.And}, s.number(c.Hi), unit)
}

func (s speaker) moment(before string, minute int) []string {
	date, clock, _ := calendar.Print(minute, 0)
	return []string{before, date, clock}
}

func (s speaker) time() []string {
	switch from, to := s.says.From, s.says.To; {
	case from == -1:
		return nil
	case from == to:
		return s.moment(s.g.At, from)
	default:
		return append(s.moment(s.g.Since, from), s.moment(s.g.Until, to)...)
	}
}
