package term

import (
	"iter"
	"strings"

	"newswire/api"
	"newswire/fact"
	"newswire/lists"
)

// sort is what is demanded of the nodes of a kind: of their fields but ID, Parent and Kind, and of the kind of the node in which they stand.
type sort struct {
	formed func(n api.Node) bool
	under  func(parent int) bool
}

// sorts returns what is demanded of all kinds of nodes.
func sorts() [api.NOwn + 1]sort {
	empty := func(n api.Node) bool { return n == api.Node{ID: n.ID, Parent: n.Parent, Kind: n.Kind} }
	nowhere := func(int) bool { return false }
	in := func(parent int) func(int) bool { return func(kind int) bool { return kind == parent } }
	text := func(parent int) bool { return container(parent) && parent != api.NTable }
	var l [api.NOwn + 1]sort
	l[0] = sort{func(api.Node) bool { return false }, nowhere}
	l[api.NStory] = sort{empty, nowhere}
	for kind := api.NParagraph; kind <= api.NTable; kind++ {
		l[kind] = sort{empty, text}
	}
	l[api.NSentence] = sort{formedLeaf, text}
	l[api.NHeadline] = sort{formedLeaf, in(api.NStory)}
	l[api.NQuote] = sort{func(n api.Node) bool { return formedLeaf(n) && n.Source != -1 }, text}
	l[api.NRow] = sort{func(n api.Node) bool { return formedLeaf(n) && !n.Not }, in(api.NTable)}
	l[api.NNotice] = sort{formedNotice, text}
	l[api.NOwn] = sort{formedOwn, text}
	return l
}

// numbered reports whether n has the numbers of a fact and of a version.
func numbered(n api.Node) bool {
	return 0 <= n.Fact && n.Fact < api.MaxFacts && 0 <= n.Version && n.Version <= api.MaxVersions
}

func formedLeaf(n api.Node) bool {
	known := -1 <= n.Source && n.Source < api.MaxSources || n.Source == api.SomeSource
	return numbered(n) && known && fact.ValidStatement(n.Says) && n.Text == ""
}

func formedNotice(n api.Node) bool {
	return numbered(n) && n.Source == 0 && n.Says == api.Statement{} && n.Text == ""
}

func formedOwn(n api.Node) bool {
	bare := n
	bare.Text = ""
	return bare == api.Node{ID: n.ID, Parent: n.Parent, Kind: n.Kind} &&
		len(n.Text) <= api.MaxOwn && lists.All(strings.Split(n.Text, " "), isOwn)
}

// isOwn reports whether s is a word that a subscriber may use.
func isOwn(s string) bool {
	return s != "" && strings.Trim(s, "abcdefghijklmnopqrstuvwxyz0123456789") == ""
}

// tree is a valid term: the index of each ID, and by indices, that of the parent (-1 for the root).
type tree struct {
	nodes   []api.Node
	index   map[int]int
	parents []int
}

// read returns the tree of t, or false if t is not valid.
func read(t api.Term) (*tree, bool) {
	if len(t.Nodes) == 0 || len(t.Nodes) > api.MaxNodes {
		return nil, false
	}
	x := &tree{nodes: t.Nodes, index: map[int]int{}}
	rules := sorts()
	for i, n := range t.Nodes {
		_, twice := x.index[n.ID]
		if n.Kind < api.NStory || n.Kind > api.NOwn || n.ID < 0 || n.ID > api.MaxNodeID || twice || !rules[n.Kind].formed(n) {
			return nil, false
		}
		parent := x.parent(i)
		if i == 0 && n.Parent != -1 || i > 0 && (parent < 0 || !rules[n.Kind].under(t.Nodes[parent].Kind)) {
			return nil, false
		}
		x.index[n.ID], x.parents = i, append(x.parents, parent)
	}
	return x, true
}

// parent returns the index of the parent of the next node i, which is the node before or one in which that stands; -1 if it is none of them.
func (x *tree) parent(i int) int {
	for p := i - 1; p >= 0; p = x.parents[p] {
		if x.nodes[p].ID == x.nodes[i].Parent {
			return p
		}
	}
	return -1
}

// all yields the indices of all nodes, and those of their parents.
func (x *tree) all() iter.Seq2[int, int] {
	return func(yield func(i int, parent int) bool) {
		for i, parent := range x.parents {
			if !yield(i, parent) {
				return
			}
		}
	}
}

// size returns the number of nodes of the subtree of the node i.
func (x *tree) size(i int) int {
	end := len(x.nodes)
	for j, parent := range x.all() {
		if j > i && parent < i {
			end = j
			break
		}
	}
	return end - i
}

// children returns the IDs of the children of the node i.
func (x *tree) children(i int) []int {
	var ids []int
	for j, parent := range x.all() {
		if parent == i {
			ids = append(ids, x.nodes[j].ID)
		}
	}
	return ids
}
