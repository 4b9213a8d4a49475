package patch

import (
	"slices"

	"newswire/api"
	"newswire/edit"
	"newswire/term"
)

// terms are the term that is corrected, what it is corrected to, and the copy with its edits.
type terms struct {
	old, new, copy api.Term
}

// correction is a copy that is being corrected: the term so far, the notice that was put after a leaf, the node that has been put for one of the new term (both by IDs), and the conflicts.
type correction struct {
	terms
	now       api.Term
	noticed   map[int]int
	put       map[int]int
	conflicts []api.Conflict
}

// failure is the value of the panic with which a correction ends that fails.
type failure struct{}

// must returns t, or gives up if there was an error.
func must(t api.Term, e api.Errno) api.Term {
	if e != api.OK {
		panic(failure{})
	}
	return t
}

// Rebase returns the patch that corrects the copy that edits make of t as p corrects t, and where edits keep it out.
func Rebase(t api.Term, p api.Patch, l []api.Edit) (api.Patch, []api.Conflict, api.Errno) {
	new, e := Apply(t, p)
	if e != api.OK {
		return api.Patch{}, nil, api.ErrPatch
	}
	u, _, e := edit.Apply(t, l)
	if e != api.OK || !correspond(t.Nodes[0], new.Nodes[0]) || !correspond(t.Nodes[0], u.Nodes[0]) {
		return api.Patch{}, nil, api.ErrPatch
	}
	corrected, conflicts, e := correct(terms{t, new, u})
	if e != api.OK {
		return api.Patch{}, nil, e
	}
	q, e := Compile(u, corrected)
	if e != api.OK {
		return api.Patch{}, nil, api.ErrPatch
	}
	return q, conflicts, api.OK
}

// correct returns the corrected copy, and the conflicts.
func correct(x terms) (t api.Term, l []api.Conflict, e api.Errno) {
	defer func() {
		if recover() != nil {
			t, l, e = api.Term{}, nil, api.ErrPatch
		}
	}()
	c := &correction{terms: x, now: x.copy, noticed: map[int]int{}, put: map[int]int{}}
	for _, n := range c.copy.Nodes {
		if term.Leaf(n.Kind) {
			c.leaf(n)
		}
	}
	for _, n := range slices.Backward(c.copy.Nodes) {
		c.empty(n)
	}
	for _, n := range c.new.Nodes {
		c.add(n)
	}
	return c.now, c.conflicts, api.OK
}

// alike reports whether two nodes are the same but for their parents.
func alike(a api.Node, b api.Node) bool {
	a.Parent = b.Parent
	return a == b
}

// leaf corrects a leaf of the copy.
func (c *correction) leaf(n api.Node) {
	original, known := counterpart(c.old, n)
	corrected, kept := counterpart(c.new, n)
	if !known || kept && alike(corrected, original) {
		return
	}
	notice := noticeOf(original, corrected, kept)
	switch {
	case !alike(n, original):
		c.conflict(notice)
		c.notice(n, notice)
	case kept:
		c.replace(corrected, notice)
	default:
		c.now = must(term.Remove(c.now, n.ID))
	}
}

// noticeOf returns the notice of a leaf, with the ID of this.
func noticeOf(original api.Node, corrected api.Node, kept bool) api.Node {
	of, not := original, !kept
	if kept && (term.States(corrected.Kind) || corrected.Kind == api.NNotice) {
		of = corrected
	}
	if kept && corrected.Kind == api.NNotice {
		not = corrected.Not
	}
	return api.Node{ID: original.ID, Kind: api.NNotice, Fact: of.Fact, Version: of.Version, Not: not}
}

// conflict notes that an edit keeps out what a notice is about.
func (c *correction) conflict(notice api.Node) {
	c.conflicts = append(c.conflicts, api.Conflict{Node: notice.ID, Fact: notice.Fact, Version: notice.Version})
}

// replace puts a correction in the place of its leaf, or a notice if that cannot stand there, or nothing.
func (c *correction) replace(corrected api.Node, notice api.Node) {
	if t, e := term.Replace(c.now, corrected); e == api.OK {
		c.now = t
		return
	}
	c.conflict(notice)
	t, e := term.Replace(c.now, notice)
	if e != api.OK {
		t = must(term.Remove(c.now, notice.ID))
	}
	c.now = t
}

// notice puts a notice after an edited leaf, if it can stand there.
func (c *correction) notice(n api.Node, notice api.Node) {
	notice.ID = c.fresh()
	if t, e := term.Insert(c.now, n.Parent, c.after(n.Parent, n.ID), alone(notice)); e == api.OK {
		c.now = t
		c.noticed[n.ID] = notice.ID
	}
}

// after returns the index after a child of a node of the copy.
func (c *correction) after(parent int, child int) int {
	return slices.Index(term.Children(c.now, parent), child) + 1
}

// fresh returns the least number that no node has.
func (c *correction) fresh() int {
	for id := 0; ; id++ {
		used := false
		for _, t := range []api.Term{c.old, c.new, c.copy, c.now} {
			used = used || slices.ContainsFunc(t.Nodes, idIs(id))
		}
		if !used {
			return id
		}
	}
}

// empty removes a container of the copy that is no longer there in the new term, and has no children left.
func (c *correction) empty(n api.Node) {
	_, known := counterpart(c.old, n)
	_, kept := counterpart(c.new, n)
	if !term.Leaf(n.Kind) && known && !kept && term.Size(c.now, n.ID) == 1 {
		c.now = must(term.Remove(c.now, n.ID))
	}
}

// place returns the ID of the node of the copy that stands for a node of the new term, and whether there is one.
func (c *correction) place(n api.Node) (int, bool) {
	if _, known := counterpart(c.old, n); known {
		_, ok := counterpart(c.now, n)
		return n.ID, ok
	}
	id, ok := c.put[n.ID]
	return id, ok
}

// add puts a node of the new term that is not in the old one.
func (c *correction) add(n api.Node) {
	above, ok := find(c.new.Nodes, idIs(n.Parent))
	if _, known := counterpart(c.old, n); known || !ok {
		return
	}
	parent, ok := c.place(above)
	if !ok {
		return
	}
	put := n
	if slices.ContainsFunc(c.now.Nodes, idIs(n.ID)) {
		put.ID = c.fresh()
	}
	c.now = must(term.Insert(c.now, parent, c.index(n, parent), alone(put)))
	c.put[n.ID] = put.ID
}

// index returns the index under parent at which a node of the new term belongs: after what stands for the nearest one before it.
func (c *correction) index(n api.Node, parent int) int {
	siblings := term.Children(c.new, n.Parent)
	for _, id := range slices.Backward(siblings[:slices.Index(siblings, n.ID)]) {
		sibling, _ := find(c.new.Nodes, idIs(id))
		before, ok := c.place(sibling)
		if !ok || !slices.Contains(term.Children(c.now, parent), before) {
			continue
		}
		if notice, noted := c.noticed[before]; noted {
			before = notice
		}
		return c.after(parent, before)
	}
	return 0
}
