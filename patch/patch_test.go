package patch_test

import (
	"math/rand"
	"reflect"
	"slices"
	"testing"

	"newswire/api"
	"newswire/edit"
	"newswire/patch"
	"newswire/samples"
	"newswire/term"
)

func leaf(id, parent, fact, version int) api.Node {
	return api.Node{ID: id, Parent: parent, Kind: api.NSentence, Fact: fact, Version: version, Source: -1, Says: api.Statement{Whom: -1, From: -1, To: -1}}
}

func story(nodes ...api.Node) api.Term {
	return api.Term{Nodes: append([]api.Node{{Parent: -1, Kind: api.NStory}}, nodes...)}
}

func example() (api.Term, api.Term) {
	return story(leaf(4, 0, 2, 1), leaf(5, 0, 3, 1)), story(leaf(4, 0, 2, 2), leaf(6, 0, 4, 1))
}

func drop(id int) api.Op { return api.Op{Kind: api.PDrop, Node: api.Node{ID: id}} }

func set(n api.Node) api.Op { return api.Op{Kind: api.PSet, Node: n} }

func put(n api.Node, index int) api.Op { return api.Op{Kind: api.PPut, Node: n, Index: index} }

func random(r *rand.Rand) api.Term {
	return samples.Term(r.Intn, 2+r.Intn(14))
}

// still makes a correction of x that moves nothing: leaves are replaced, removed and added.
func still(r *rand.Rand, x api.Term) api.Term {
	for range 1 + r.Intn(4) {
		n := x.Nodes[r.Intn(len(x.Nodes))]
		var y api.Term
		e := api.ErrTerm
		switch {
		case r.Intn(3) == 0 && n.ID != 0:
			y, e = term.Remove(x, n.ID)
		case term.States(n.Kind):
			n.Version, n.Says = 7, samples.Statement(r.Intn)
			y, e = term.Replace(x, n)
		case !term.Leaf(n.Kind):
			m := leaf(100+r.Intn(50), -1, 5, 1)
			if n.Kind == api.NTable {
				m.Kind = api.NRow
			}
			m.Parent = -1
			y, e = term.Insert(x, n.ID, r.Intn(1+len(term.Children(x, n.ID))), api.Term{Nodes: []api.Node{m}})
		}
		if e == api.OK {
			x = y
		}
	}
	return x
}

// moved also moves nodes.
func moved(r *rand.Rand, x api.Term) api.Term {
	x = still(r, x)
	for range r.Intn(3) {
		e := api.Edit{Kind: api.EMove, Node: x.Nodes[r.Intn(len(x.Nodes))].ID, To: x.Nodes[r.Intn(len(x.Nodes))].ID, Index: r.Intn(3)}
		if y, _, f := edit.Apply(x, []api.Edit{e}); f == api.OK {
			x = y
		}
	}
	return x
}

// edits are some that can be applied to x, one after the other.
func edits(r *rand.Rand, x api.Term) []api.Edit {
	var l []api.Edit
	for range r.Intn(4) {
		id := x.Nodes[r.Intn(len(x.Nodes))].ID
		e := []api.Edit{
			{Kind: api.ECut, Node: id},
			{Kind: api.EOwn, Node: id, Text: "as we said"},
			{Kind: api.EMove, Node: id, To: x.Nodes[r.Intn(len(x.Nodes))].ID, Index: r.Intn(3)},
			{Kind: api.EJoin, To: id, With: api.Term{Nodes: []api.Node{leaf(200+r.Intn(99), -1, 6, 1)}}},
		}[r.Intn(4)]
		if y, _, f := edit.Apply(x, []api.Edit{e}); f == api.OK {
			x, l = y, append(l, e)
		}
	}
	return l
}

func compile(t *testing.T, a, b api.Term) api.Patch {
	t.Helper()
	p, e := patch.Compile(a, b)
	if e != api.OK || !patch.Valid(p) {
		t.Fatal(a, b, e)
	}
	return p
}

func apply(t *testing.T, a api.Term, p api.Patch) api.Term {
	t.Helper()
	b, e := patch.Apply(a, p)
	if e != api.OK {
		t.Fatal(a, p, e)
	}
	return b
}

func applyEdits(t *testing.T, x api.Term, l []api.Edit) api.Term {
	t.Helper()
	y, _, e := edit.Apply(x, l)
	if e != api.OK {
		t.Fatal(x, l, e)
	}
	return y
}

func node(x api.Term, id int) (api.Node, bool) {
	i := slices.IndexFunc(x.Nodes, func(n api.Node) bool { return n.ID == id })
	if i < 0 {
		return api.Node{}, false
	}
	return x.Nodes[i], true
}

func TestP19_1Examples(t *testing.T) {
	x, y := example()
	p := compile(t, x, y)
	if !reflect.DeepEqual(p.Ops, []api.Op{drop(5), set(leaf(4, 0, 2, 2)), put(leaf(6, 0, 4, 1), 1)}) {
		t.Error(p)
	}
	q, l, e := patch.Rebase(x, p, []api.Edit{{Kind: api.EOwn, Node: 4, Text: "as we said"}})
	notice := api.Node{ID: 1, Kind: api.NNotice, Fact: 2, Version: 2}
	if !reflect.DeepEqual(q.Ops, []api.Op{drop(5), put(notice, 1), put(leaf(6, 0, 4, 1), 2)}) || !slices.Equal(l, []api.Conflict{{Node: 4, Fact: 2, Version: 2}}) || e != api.OK {
		t.Error(q, l, e)
	}
	q, l, e = patch.Rebase(x, p, []api.Edit{{Kind: api.ECut, Node: 4}})
	if !reflect.DeepEqual(q.Ops, []api.Op{drop(5), put(leaf(6, 0, 4, 1), 0)}) || len(l) != 0 || e != api.OK {
		t.Error(q, l, e)
	}
}

func TestP19_1Valid(t *testing.T) {
	for i, o := range []api.Op{
		{}, {Kind: 4}, {Kind: api.PSet, Node: leaf(1, -2, 1, 1)}, {Kind: api.PSet, Node: leaf(1, 10000, 1, 1)}, {Kind: api.PSet, Node: leaf(1, 0, 16, 1)}, {Kind: api.PSet, Node: leaf(1, 0, 1, 1), Index: 1}, {Kind: api.PSet, Node: api.Node{ID: 1, Kind: api.NList}},
		{Kind: api.PDrop, Node: api.Node{ID: -1}}, {Kind: api.PDrop, Node: api.Node{ID: 10000}}, {Kind: api.PDrop, Node: api.Node{ID: 1, Parent: -1}}, {Kind: api.PDrop, Node: api.Node{ID: 1}, Index: 1}, {Kind: api.PDrop, Node: leaf(1, 0, 1, 1)},
		put(leaf(1, -1, 1, 1), 0), put(leaf(1, 10000, 1, 1), 0), put(leaf(1, 0, 1, 9), 0), put(leaf(1, 0, 1, 1), 40), put(leaf(1, 0, 1, 1), -1),
	} {
		p := api.Patch{Ops: []api.Op{o}}
		if s, e := patch.Encode(p); patch.Valid(p) || s != "" || e != api.ErrPatch {
			t.Error(i, o, s, e)
		}
		if x, e := patch.Apply(story(), p); x.Nodes != nil || e != api.ErrPatch {
			t.Error(i, e)
		}
	}
	if patch.Valid(api.Patch{Ops: slices.Repeat([]api.Op{drop(1)}, 121)}) || !patch.Valid(api.Patch{Ops: slices.Repeat([]api.Op{drop(1)}, 120)}) {
		t.Error("the number of steps")
	}
	if !patch.Valid(api.Patch{Ops: []api.Op{set(leaf(1, -1, 1, 1)), put(api.Node{ID: 5, Kind: api.NStory}, 39)}}) {
		t.Error("not valid")
	}
}

func TestP19_1Errors(t *testing.T) {
	x, y := example()
	p := compile(t, x, y)
	for i, o := range []api.Op{drop(0), drop(9), set(leaf(9, 0, 1, 1)), set(leaf(0, 0, 1, 1)), put(leaf(9, 4, 1, 1), 0), put(leaf(9, 0, 1, 1), 3), put(leaf(4, 0, 1, 1), 0)} {
		q := api.Patch{Ops: []api.Op{o}}
		_, a := patch.Apply(x, q)
		_, b := patch.Invert(x, q)
		_, _, c := patch.Rebase(x, q, nil)
		if a != api.ErrPatch || b != api.ErrPatch || c != api.ErrPatch {
			t.Error(i, a, b, c)
		}
	}
	other := x
	other.Nodes = append([]api.Node{{ID: 1, Parent: -1, Kind: api.NStory}}, leaf(4, 1, 1, 1))
	for i, c := range [][2]api.Term{{x, other}, {x, {}}, {{}, x}} {
		if q, e := patch.Compile(c[0], c[1]); q.Ops != nil || e != api.ErrPatch {
			t.Error(i, e)
		}
	}
	for i, l := range [][]api.Edit{{{Kind: api.ECut, Node: 9}}, {{}}, make([]api.Edit, 21)} {
		if q, k, e := patch.Rebase(x, p, l); q.Ops != nil || k != nil || e != api.ErrPatch {
			t.Error(i, e)
		}
	}
	full := story()
	for i := range 39 {
		full.Nodes = append(full.Nodes, leaf(1+i, 0, 1, 1))
	}
	less, _ := term.Remove(full, 39)
	grow := compile(t, less, full)
	if _, _, e := patch.Rebase(less, grow, []api.Edit{{Kind: api.EJoin, With: api.Term{Nodes: []api.Node{leaf(99, -1, 1, 1)}}}}); e != api.ErrPatch {
		t.Error("a copy that would be too long", e)
	}
	if patch.Same(p, api.Patch{}) || !patch.Same(p, compile(t, x, y)) {
		t.Error("Same")
	}
}

func TestP19_2Right(t *testing.T) {
	r := rand.New(rand.NewSource(1))
	for range 1000 {
		x := random(r)
		y := moved(r, x)
		if r.Intn(5) == 0 {
			y = random(r)
		}
		p := compile(t, x, y)
		if !term.Same(apply(t, x, p), y) || (len(p.Ops) == 0) != term.Same(x, y) {
			t.Fatal(x, y, p)
		}
		q, e := patch.Invert(x, p)
		if e != api.OK || !term.Same(apply(t, y, q), x) {
			t.Fatal(x, y, q, e)
		}
	}
}

func TestP19_3Small(t *testing.T) {
	r := rand.New(rand.NewSource(2))
	for range 500 {
		x := random(r)
		n := x.Nodes[r.Intn(len(x.Nodes))]
		if !term.States(n.Kind) {
			continue
		}
		n.Version = 8
		y, _ := term.Replace(x, n)
		if p := compile(t, x, y); !reflect.DeepEqual(p.Ops, []api.Op{set(n)}) {
			t.Fatal(p)
		}
		y, _ = term.Remove(x, n.ID)
		if p := compile(t, x, y); !reflect.DeepEqual(p.Ops, []api.Op{drop(n.ID)}) {
			t.Fatal(p)
		}
	}
	a, b, c := leaf(1, 0, 1, 1), leaf(2, 0, 1, 1), leaf(3, 0, 1, 1)
	if p := compile(t, story(a, b, c), story(a, c, b)); !reflect.DeepEqual(p.Ops, []api.Op{drop(2), drop(3), put(c, 1), put(b, 2)}) {
		t.Error(p)
	}
}

func TestP19_4EveryCopy(t *testing.T) {
	r := rand.New(rand.NewSource(3))
	for range 1000 {
		x := random(r)
		y := moved(r, x)
		p, l := compile(t, x, y), edits(r, x)
		u := applyEdits(t, x, l)
		q, conflicts, e := patch.Rebase(x, p, l)
		if e != api.OK {
			continue
		}
		c := apply(t, u, q)
		for _, n := range u.Nodes {
			was, ok := node(x, n.ID)
			if !term.Leaf(n.Kind) || !ok || !term.Leaf(was.Kind) {
				continue
			}
			now, kept := node(y, n.ID)
			kept = kept && term.Leaf(now.Kind)
			got, left := node(c, n.ID)
			named := slices.ContainsFunc(conflicts, func(k api.Conflict) bool { return k.Node == n.ID })
			n.Parent, was.Parent, now.Parent, got.Parent = 0, 0, 0, 0
			switch {
			case n == was && kept && !named:
				if got != now {
					t.Fatal("not corrected", n, got, now)
				}
			case n == was && !kept && left && term.Leaf(got.Kind):
				t.Fatal("left", n)
			case n != was && !(kept && now == was):
				if got != n || !named {
					t.Fatal("an edited leaf", n, got, conflicts)
				}
			}
		}
	}
}

func TestP19_4Notices(t *testing.T) {
	x := story(leaf(4, 0, 2, 1), leaf(5, 0, 3, 1))
	own := func(id int) api.Edit { return api.Edit{Kind: api.EOwn, Node: id, Text: "as we said"} }
	dead := api.Node{ID: 4, Kind: api.NNotice, Fact: 2, Version: 2, Not: true}
	for i, c := range []struct {
		y    api.Term
		want api.Node
	}{
		{story(leaf(4, 0, 2, 2), leaf(5, 0, 3, 1)), api.Node{ID: 1, Kind: api.NNotice, Fact: 2, Version: 2}},
		{story(leaf(5, 0, 3, 1)), api.Node{ID: 1, Kind: api.NNotice, Fact: 2, Version: 1, Not: true}},
		{story(dead, leaf(5, 0, 3, 1)), api.Node{ID: 1, Kind: api.NNotice, Fact: 2, Version: 2, Not: true}},
		{story(api.Node{ID: 4, Kind: api.NOwn, Text: "x"}, leaf(5, 0, 3, 1)), api.Node{ID: 1, Kind: api.NNotice, Fact: 2, Version: 1}},
	} {
		q, l, e := patch.Rebase(x, compile(t, x, c.y), []api.Edit{own(4)})
		got := apply(t, applyEdits(t, x, []api.Edit{own(4)}), q)
		if e != api.OK || len(l) != 1 || l[0] != (api.Conflict{Node: 4, Fact: c.want.Fact, Version: c.want.Version}) || got.Nodes[2] != c.want {
			t.Error(i, got, l, e)
		}
	}
	head := leaf(4, 0, 2, 1)
	head.Kind = api.NHeadline
	para := api.Node{ID: 7, Kind: api.NParagraph}
	x = story(leaf(4, 0, 2, 1), para, leaf(5, 7, 3, 1))
	up := []api.Edit{{Kind: api.EMove, Node: 4, To: 7, Index: 1}}
	q, l, e := patch.Rebase(x, compile(t, x, story(head, para, leaf(5, 7, 3, 1))), up)
	got := apply(t, applyEdits(t, x, up), q)
	if e != api.OK || !slices.Equal(l, []api.Conflict{{Node: 4, Fact: 2, Version: 1}}) || got.Nodes[3] != (api.Node{ID: 4, Parent: 7, Kind: api.NNotice, Fact: 2, Version: 1}) {
		t.Error("a headline that cannot stand where it was moved", got, l, e)
	}
	q, l, e = patch.Rebase(x, compile(t, x, story(leaf(4, 0, 2, 1))), nil)
	if got := apply(t, x, q); e != api.OK || len(l) != 0 || len(got.Nodes) != 2 {
		t.Error("a container that is empty", got, l, e)
	}
	join := []api.Edit{{Kind: api.EJoin, To: 7, With: api.Term{Nodes: []api.Node{leaf(9, -1, 1, 1)}}}}
	q, _, _ = patch.Rebase(x, compile(t, x, story(leaf(4, 0, 2, 1))), join)
	if got := apply(t, applyEdits(t, x, join), q); len(got.Nodes) != 4 {
		t.Error("a container that has more in it", got)
	}
	join[0].With.Nodes[0].ID = 6
	y := story(leaf(4, 0, 2, 1), leaf(6, 0, 4, 1), para, leaf(5, 7, 3, 1))
	q, _, e = patch.Rebase(x, compile(t, x, y), join)
	if got := apply(t, applyEdits(t, x, join), q); e != api.OK || got.Nodes[2] != leaf(1, 0, 4, 1) {
		t.Error("an ID that the copy has", got, e)
	}
}

func TestP19_5WithoutEdits(t *testing.T) {
	r := rand.New(rand.NewSource(4))
	for range 1000 {
		x := random(r)
		y := still(r, x)
		q, l, e := patch.Rebase(x, compile(t, x, y), nil)
		if e != api.OK || len(l) != 0 || !term.Same(apply(t, x, q), y) {
			t.Fatal(x, y, q, l, e)
		}
	}
}

func TestP19_6Apart(t *testing.T) {
	r := rand.New(rand.NewSource(5))
	for range 1000 {
		x := random(r)
		y := still(r, x)
		var l []api.Edit
		for _, n := range x.Nodes[1:] {
			same, ok := node(y, n.ID)
			if !ok || same != n || !term.Leaf(n.Kind) || r.Intn(2) == 0 {
				continue
			}
			e := api.Edit{Kind: api.ECut, Node: n.ID}
			if n.Kind != api.NRow && r.Intn(2) == 0 {
				e = api.Edit{Kind: api.EOwn, Node: n.ID, Text: "x"}
			}
			l = append(l, e)
		}
		q, conflicts, e := patch.Rebase(x, compile(t, x, y), l)
		if e != api.OK || len(conflicts) != 0 {
			t.Fatal(x, y, l, conflicts, e)
		}
		if got := apply(t, applyEdits(t, x, l), q); !term.Same(got, applyEdits(t, y, l)) {
			t.Fatalf("%v to %v over %v: %v", x, y, l, got)
		}
	}
}

func TestP19_7Conflicts(t *testing.T) {
	r := rand.New(rand.NewSource(6))
	for range 1000 {
		x := random(r)
		y, l := moved(r, x), edits(r, x)
		u := applyEdits(t, x, l)
		_, conflicts, e := patch.Rebase(x, compile(t, x, y), l)
		if e != api.OK {
			continue
		}
		var want []int
		for _, n := range u.Nodes {
			was, ok := node(x, n.ID)
			now, kept := node(y, n.ID)
			n.Parent, was.Parent, now.Parent = 0, 0, 0
			if ok && term.Leaf(n.Kind) && n != was && !(kept && now == was) {
				want = append(want, n.ID)
			}
		}
		for _, k := range conflicts {
			n, _ := node(u, k.Node)
			was, _ := node(x, k.Node)
			wasMoved := n.Parent != was.Parent
			if len(want) > 0 && want[0] == k.Node {
				want = want[1:]
			} else if !wasMoved && n.Kind != api.NRow {
				t.Fatal("a conflict for nothing", k, n, was)
			}
		}
		if len(want) > 0 {
			t.Fatal("conflicts are missing", want)
		}
	}
}

func TestP19_7Codes(t *testing.T) {
	r := rand.New(rand.NewSource(7))
	for range 300 {
		x := random(r)
		p := compile(t, x, moved(r, x))
		s, e := patch.Encode(p)
		q, next, f := patch.Decode("ab"+s+"c", 2)
		if e != api.OK || f != api.OK || next != 2+len(s) || !patch.Same(p, q) {
			t.Fatal(p, q, e, f)
		}
		if q, next, f := patch.Decode(s[:r.Intn(len(s))], 0); f != api.ErrPatch || next != 0 || q.Ops != nil {
			t.Fatal(f)
		}
		b := []byte(s)
		b[r.Intn(len(b))] ^= 1 << r.Intn(8)
		if q, next, f := patch.Decode(string(b), 0); f == api.OK {
			if u, _ := patch.Encode(q); u != string(b[:next]) {
				t.Fatal("another encoding is decoded")
			}
		}
	}
}

func TestP19_1Limits(t *testing.T) {
	if !patch.Valid(api.Patch{Ops: []api.Op{drop(0), drop(9999), set(leaf(9999, 9999, 0, 0)), put(leaf(0, 9999, 15, 8), 39)}}) {
		t.Error("the greatest numbers")
	}
	x := story(api.Node{ID: 7, Kind: api.NParagraph})
	for i, o := range []api.Op{set(leaf(7, 0, 1, 1)), set(leaf(8, 0, 1, 1))} {
		if y, e := patch.Apply(x, api.Patch{Ops: []api.Op{o}}); y.Nodes != nil || e != api.ErrPatch {
			t.Error(i, "a leaf is set where none is", e)
		}
	}
	elsewhere := leaf(4, 7, 2, 2)
	if y, e := patch.Apply(story(leaf(4, 0, 2, 1)), api.Patch{Ops: []api.Op{set(elsewhere)}}); e != api.OK || y.Nodes[1] != leaf(4, 0, 2, 2) {
		t.Error("a parent is changed", y, e)
	}
}

// rebased is what becomes of the copy of x.
func rebased(t *testing.T, x, y api.Term, l ...api.Edit) (api.Term, []api.Conflict) {
	t.Helper()
	q, conflicts, e := patch.Rebase(x, compile(t, x, y), l)
	if e != api.OK {
		t.Fatal(e)
	}
	return apply(t, applyEdits(t, x, l), q), conflicts
}

func TestP19_4Places(t *testing.T) {
	para := api.Node{ID: 7, Kind: api.NParagraph}
	x := story(leaf(4, 0, 2, 1), para, leaf(5, 7, 3, 1))
	y := story(leaf(4, 0, 2, 1), leaf(8, 0, 4, 1), para, leaf(5, 7, 3, 1), leaf(6, 7, 4, 1))
	cut := api.Edit{Kind: api.ECut, Node: 7}
	if c, l := rebased(t, x, y, cut); len(l) != 0 || !term.Same(c, story(leaf(4, 0, 2, 1), leaf(8, 0, 4, 1))) {
		t.Error("under what was cut", c)
	}
	down := api.Edit{Kind: api.EMove, Node: 4, To: 7, Index: 1}
	if c, _ := rebased(t, x, y, down); !term.Same(c, story(leaf(8, 0, 4, 1), para, leaf(5, 7, 3, 1), leaf(6, 7, 4, 1), leaf(4, 7, 2, 1))) {
		t.Error("after what was moved away", c)
	}
	nested := story(leaf(4, 0, 2, 1), para, leaf(5, 7, 3, 1), api.Node{ID: 20, Kind: api.NList}, leaf(21, 20, 5, 1), leaf(22, 20, 5, 1))
	if c, _ := rebased(t, x, nested, api.Edit{Kind: api.EJoin, With: api.Term{Nodes: []api.Node{leaf(20, -1, 1, 1)}}}); !term.Same(c, story(leaf(20, 0, 1, 1), leaf(4, 0, 2, 1), para, leaf(5, 7, 3, 1), api.Node{ID: 1, Kind: api.NList}, leaf(21, 1, 5, 1), leaf(22, 1, 5, 1))) {
		t.Error("with another ID", c)
	}
	own := api.Edit{Kind: api.EOwn, Node: 4, Text: "x"}
	denied := leaf(4, 0, 2, 2)
	denied.Not = true
	c, l := rebased(t, story(leaf(4, 0, 2, 1)), story(denied, leaf(6, 0, 4, 1)), own)
	if !slices.Equal(l, []api.Conflict{{Node: 4, Fact: 2, Version: 2}}) || !term.Same(c, story(api.Node{ID: 4, Kind: api.NOwn, Text: "x"}, api.Node{ID: 1, Kind: api.NNotice, Fact: 2, Version: 2}, leaf(6, 0, 4, 1))) {
		t.Error("after a notice", c, l)
	}
	root := api.Term{Nodes: []api.Node{leaf(4, -1, 2, 1)}}
	later := api.Term{Nodes: []api.Node{leaf(4, -1, 2, 2)}}
	if c, l := rebased(t, root, later); len(l) != 0 || !term.Same(c, later) {
		t.Error("a root", c, l)
	}
	list := api.Node{ID: 7, Kind: api.NList}
	if c, _ := rebased(t, x, story(leaf(4, 0, 2, 1), list, leaf(5, 7, 3, 1))); !term.Same(c, story(leaf(4, 0, 2, 1), api.Node{ID: 1, Kind: api.NList}, para, leaf(5, 7, 3, 1))) {
		t.Error("a container of another kind", c)
	}
}
