package brief

import (
	"newswire/api"
	"newswire/grammar"
	"newswire/term"
)

// containerWords is how many words a container has itself: its mark, and its end.
const containerWords = 2

// choice is what can be done with a node: it is kept, as another node for so many words and such a value, or it is left out; next is the index of the node that comes then.
type choice struct {
	node  api.Node
	kept  bool
	words int
	value int
	next  int
}

// table is the bounds of a term, with the choices from which they follow.
type table struct {
	choices [][]choice
	best    [][]int
}

// newTable fills the table for t, which can be printed in g.
func newTable(g api.Grammar, t api.Term, l []api.Worth, limit int) *table {
	n := len(t.Nodes)
	x := &table{choices: make([][]choice, n), best: make([][]int, n+1)}
	x.best[n] = make([]int, limit+1)
	noticed := notices(t)
	fill := func(i int) {
		x.choices[i] = choices(g, t, l, i, noticed[i])
		x.best[i] = make([]int, limit+1)
		for w := range x.best[i] {
			x.best[i][w] = x.left(i, w)
		}
	}
	for i := n - 1; i >= 0; i-- {
		fill(i)
	}
	return x
}

// choices returns what can be done with the node i, the first one to be preferred.
func choices(g api.Grammar, t api.Term, l []api.Worth, i int, noticed bool) []choice {
	n := t.Nodes[i]
	var out []choice
	switch {
	case !term.Leaf(n.Kind):
		out = []choice{{node: n, words: containerWords}}
	case term.States(n.Kind):
		out = statements(g, l, n)
	default:
		words, _ := grammar.Say(g, n)
		out = []choice{{node: n, words: len(words)}}
	}
	for j := range out {
		out[j].kept, out[j].next = true, i+1
	}
	if i > 0 && !noticed {
		out = append(out, choice{next: i + term.Size(t, n.ID)})
	}
	return out
}

// after returns the value that is left for w words if a choice is made, or -1 if it does not fit.
func (x *table) after(c choice, w int) int {
	if c.words > w || x.best[c.next][w-c.words] < 0 {
		return -1
	}
	return c.value + x.best[c.next][w-c.words]
}

// left returns the greatest value that is left from the node i on, for w words.
func (x *table) left(i int, w int) int {
	most := -1
	for _, c := range x.choices[i] {
		most = max(most, x.after(c, w))
	}
	return most
}

// cut returns the first of the best cut-downs of w words; with fewer words, there must be none that is as good.
func (x *table) cut(w int) api.Term {
	var nodes []api.Node
	i := 0
walk:
	for i < len(x.choices) {
		for _, c := range x.choices[i] {
			if x.after(c, w) != x.best[i][w] {
				continue
			}
			if c.kept {
				nodes = append(nodes, c.node)
			}
			i, w = c.next, w-c.words
			continue walk
		}
		break
	}
	return api.Term{Nodes: nodes}
}
