package parse

import (
	"slices"
	"strconv"
	"strings"

	"newswire/api"
	"newswire/calendar"
	"newswire/word"
)

// The length of a day, and the greatest number of a subscriber's own words.
const (
	dayMinutes = 1440
	maxOwn     = 100
)

// wrongWord is the index of the first wrong word. Where a unit cannot be read, it is the value of a panic.
type wrongWord int

func (w wrongWord) Error() string {
	return "the word " + strconv.Itoa(int(w)) + " is wrong"
}

// words are a list, and the index of the next one to be read.
type words struct {
	list []string
	at   int
}

// demand gives up at the next word unless ok is true.
func (w *words) demand(ok bool) {
	if !ok {
		panic(wrongWord(w.at))
	}
}

// is reports whether there is a next word, and it is s.
func (w *words) is(s string) bool {
	return w.at < len(w.list) && w.list[w.at] == s
}

// fixed reads the word s.
func (w *words) fixed(s string) {
	w.demand(w.is(s))
	w.at++
}

// next returns the next word, without reading it; there must be one.
func (w *words) next() string {
	w.demand(w.at < len(w.list))
	return w.list[w.at]
}

// oneOf reads one of some words, and returns its index.
func (w *words) oneOf(l []string) int {
	i := slices.Index(l, w.next())
	w.demand(i >= 0)
	w.at++
	return i
}

// reader reads words by a grammar. The entities of the grammar are found by their articles and words.
type reader struct {
	words
	grammar  api.Grammar
	nodes    []api.Node
	subjects map[[2]string]int
	objects  map[[2]string]int
}

func newReader(g api.Grammar, l []string, at int) *reader {
	r := &reader{words: words{l, at}, grammar: g, subjects: map[[2]string]int{}, objects: map[[2]string]int{}}
	for i, e := range g.Entities {
		form := 2 * e.Gender
		if e.Many {
			form++
		}
		r.subjects[[2]string{g.Subjects[form], e.Word}] = i
		r.objects[[2]string{g.Objects[form], e.Word}] = i
	}
	return r
}

// node reads a node that stands in the node with the index parent (-1: in none).
func (r *reader) node(parent int) {
	kind := slices.Index(r.grammar.Marks[1:], r.next()) + 1
	r.demand(kind > 0 && len(r.nodes) < api.MaxNodes && r.stands(kind, parent))
	i := len(r.nodes)
	r.nodes = append(r.nodes, api.Node{Kind: kind})
	if container(kind) {
		r.at++
		for !r.is(r.grammar.End) {
			r.node(i)
		}
		r.at++
	} else {
		r.nodes[i] = r.leaf()
	}
	r.nodes[i].ID, r.nodes[i].Parent = i, parent
}

// stands reports whether a node of a kind may stand in the node with the index parent.
func (r *reader) stands(kind int, parent int) bool {
	if parent < 0 {
		return true
	}
	under := r.nodes[parent].Kind
	if kind == api.NRow || under == api.NTable {
		return kind == api.NRow && under == api.NTable
	}
	return kind != api.NStory && (kind != api.NHeadline || under == api.NStory)
}

// leaf reads a leaf, which has no ID and no Parent yet.
func (r *reader) leaf() api.Node {
	n := api.Node{Kind: api.NSentence + r.oneOf(r.grammar.Marks[api.NSentence:])}
	switch n.Kind {
	case api.NNotice:
	case api.NOwn:
		n.Text = r.own()
	default:
		r.attribution(&n)
		r.statement(&n)
	}
	return n
}

// own reads a subscriber's own words.
func (r *reader) own() string {
	count, err := strconv.Atoi(r.next())
	r.demand(err == nil && 1 <= count && count <= maxOwn && strconv.Itoa(count) == r.next())
	r.at++
	first, bytes := r.at, -1
	for range count {
		w := r.next()
		bytes += 1 + len(w)
		r.demand(w != "" && strings.Trim(w, "abcdefghijklmnopqrstuvwxyz0123456789") == "" && bytes <= api.MaxOwn)
		r.at++
	}
	return strings.Join(r.list[first:r.at], " ")
}

// attribution reads to whom something is attributed, if it is to anybody.
func (r *reader) attribution(n *api.Node) {
	n.Source = -1
	if !r.is(r.grammar.Per) {
		r.demand(n.Kind != api.NQuote)
		return
	}
	r.at++
	if r.is(r.grammar.Some) {
		r.at++
		n.Source = api.SomeSource
		return
	}
	n.Source = r.oneOf(r.grammar.Sources)
}

// statement reads the parts of a statement in their order.
func (r *reader) statement(n *api.Node) {
	n.Says = api.Statement{Whom: -1, From: -1, To: -1}
	parts := map[int]func(*reader, *api.Node){
		api.PSubject: (*reader).subject,
		api.PVerb:    (*reader).verb,
		api.PObject:  (*reader).object,
		api.PCount:   (*reader).count,
		api.PTime:    (*reader).time,
	}
	for _, part := range r.grammar.Order {
		parts[part](r, n)
	}
}

// entity reads an article, with an entity.
func (r *reader) entity(articles [6]string, entities map[[2]string]int) int {
	article := articles[r.oneOf(articles[:])]
	i, ok := entities[[2]string{article, r.next()}]
	r.demand(ok)
	r.at++
	return i
}

func (r *reader) subject(n *api.Node) {
	n.Says.Who = r.entity(r.grammar.Subjects, r.subjects)
}

func (r *reader) verb(n *api.Node) {
	many := r.grammar.Entities[n.Says.Who].Many
	n.Says.What = slices.IndexFunc(r.grammar.Verbs, func(v api.Verb) bool {
		return many && r.is(v.Many) || !many && r.is(v.One)
	})
	r.demand(n.Says.What >= 0)
	r.at++
	if r.is(r.grammar.Not) {
		r.demand(n.Kind != api.NRow)
		r.at++
		n.Not = true
	}
}

func (r *reader) object(n *api.Node) {
	if r.is(r.grammar.Object) {
		r.at++
		n.Says.Whom = r.entity(r.grammar.Objects, r.objects)
	}
}

// number reads a number that is at least least.
func (r *reader) number(least int) int {
	n, count, ok := word.Prefix(r.grammar.Language, r.list, r.at)
	r.demand(ok && n >= least)
	r.at += count
	return n
}

func (r *reader) count(n *api.Node) {
	if !r.is(r.grammar.Count) {
		return
	}
	r.at++
	c := &n.Says.Count
	if r.is(r.grammar.Between) {
		r.at++
		c.Lo = r.number(0)
		r.fixed(r.grammar.And)
		c.Hi = r.number(c.Lo + 1)
	} else {
		c.Lo = r.number(0)
		c.Hi = c.Lo
	}
	c.Unit = 1 + r.oneOf(r.grammar.Units[1:])
}

// moment reads a date and a time that are at least least.
func (r *reader) moment(least int) int {
	date := r.next()
	first, e := calendar.Read(date, "00:00", 0)
	r.demand(e == api.OK && min(first+dayMinutes-1, api.MaxTime) >= least)
	r.at++
	minute, e := calendar.Read(date, r.next(), 0)
	r.demand(e == api.OK && minute >= least)
	r.at++
	return minute
}

func (r *reader) time(n *api.Node) {
	switch {
	case r.is(r.grammar.At):
		r.at++
		n.Says.From = r.moment(0)
		n.Says.To = n.Says.From
	case r.is(r.grammar.Since):
		r.at++
		n.Says.From = r.moment(0)
		r.fixed(r.grammar.Until)
		n.Says.To = r.moment(n.Says.From + 1)
	}
}
