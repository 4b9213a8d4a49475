package edit_test

import (
	"math/rand"
	"reflect"
	"slices"
	"testing"

	"newswire/api"
	"newswire/edit"
	"newswire/samples"
	"newswire/term"
)

func leaf(id, parent, kind, fact int) api.Node {
	return api.Node{ID: id, Parent: parent, Kind: kind, Fact: fact, Version: 1, Source: -1, Says: api.Statement{Whom: -1, From: -1, To: -1}}
}

func example() api.Term {
	return api.Term{Nodes: []api.Node{{Parent: -1, Kind: api.NStory}, leaf(4, 0, api.NHeadline, 2), {ID: 7, Kind: api.NParagraph}, leaf(5, 7, api.NSentence, 3)}}
}

func cut(id int) api.Edit { return api.Edit{Kind: api.ECut, Node: id} }

func own(id int, text string) api.Edit { return api.Edit{Kind: api.EOwn, Node: id, Text: text} }

func move(id, to, index int) api.Edit {
	return api.Edit{Kind: api.EMove, Node: id, To: to, Index: index}
}

func join(to, index int, with api.Term) api.Edit {
	return api.Edit{Kind: api.EJoin, To: to, Index: index, With: with}
}

func ids(t api.Term) []int {
	var l []int
	for _, n := range t.Nodes {
		l = append(l, n.ID)
	}
	return l
}

func random(r *rand.Rand) api.Term {
	return samples.Term(r.Intn, 2+r.Intn(20))
}

// other is a part of another story, with IDs of its own.
func other(r *rand.Rand) api.Term {
	x := api.Term{Nodes: []api.Node{{ID: 200 + r.Intn(100), Parent: -1, Kind: api.NParagraph}}}
	for i := range r.Intn(3) {
		n := samples.Leaf(r.Intn, api.NSentence)
		n.ID, n.Parent = 300+i, x.Nodes[0].ID
		x.Nodes = append(x.Nodes, n)
	}
	return x
}

// some is an edit that may act on x, or not.
func some(r *rand.Rand, x api.Term) api.Edit {
	id := func() int { return x.Nodes[r.Intn(len(x.Nodes))].ID }
	switch r.Intn(4) {
	case 0:
		return cut(id())
	case 1:
		return move(id(), id(), r.Intn(4))
	case 2:
		return own(id(), "our words")
	}
	return join(id(), r.Intn(4), other(r))
}

func apply(t *testing.T, x api.Term, l ...api.Edit) api.Term {
	t.Helper()
	y, n, e := edit.Apply(x, l)
	if e != api.OK || n != len(l) || !term.Valid(y) {
		t.Fatal(x, l, n, e)
	}
	return y
}

func TestP18_1Examples(t *testing.T) {
	x := example()
	y := apply(t, x, own(4, "our title"))
	if !slices.Equal(ids(y), []int{0, 4, 7, 5}) || y.Nodes[1] != (api.Node{ID: 4, Kind: api.NOwn, Text: "our title"}) {
		t.Error(y)
	}
	if y := apply(t, x, move(5, 0, 0)); !slices.Equal(ids(y), []int{0, 5, 4, 7}) {
		t.Error(y)
	}
	if y := apply(t, x, cut(7)); !slices.Equal(ids(y), []int{0, 4}) {
		t.Error(y)
	}
	sub, _ := term.Subtree(x, 7)
	if l, e := edit.Invert(x, cut(7)); e != api.OK || len(l) != 1 || !edit.Same(l[0], join(0, 1, sub)) {
		t.Error(l, e)
	}
	if l, e := edit.Invert(x, own(5, "x")); e != api.OK || len(l) != 2 || !edit.Same(l[0], cut(5)) {
		t.Error(l, e)
	}
	if l, e := edit.Invert(x, move(5, 0, 0)); e != api.OK || len(l) != 1 || !edit.Same(l[0], move(5, 7, 0)) {
		t.Error(l, e)
	}
	if !edit.Apart(x, cut(4), own(5, "x")) || edit.Apart(x, cut(7), own(5, "x")) {
		t.Error("Apart")
	}
	if y, n, e := edit.Apply(x, []api.Edit{cut(7), cut(5)}); y.Nodes != nil || n != 1 || e != api.ErrEdit {
		t.Error(y, n, e)
	}
	if l, e := edit.Touches(x, cut(7)); !slices.Equal(l, []int{5, 7}) || e != api.OK {
		t.Error(l, e)
	}
}

func TestP18_1Errors(t *testing.T) {
	x := example()
	with := other(rand.New(rand.NewSource(1)))
	for i, e := range []api.Edit{
		{}, {Kind: 5}, {Kind: api.ECut, Node: -1}, {Kind: api.ECut, Node: 10000}, {Kind: api.ECut, Node: 7, To: 1}, {Kind: api.ECut, Node: 7, Index: 1}, {Kind: api.ECut, Node: 7, Text: "x"}, {Kind: api.ECut, Node: 7, With: with},
		move(-1, 0, 0), move(5, -1, 0), move(5, 0, 40), move(5, 0, -1), {Kind: api.EMove, Node: 5, Text: "x"}, {Kind: api.EMove, Node: 5, With: with},
		own(4, ""), own(4, "A"), own(-1, "x"), {Kind: api.EOwn, Node: 4, Text: "x", To: 1}, {Kind: api.EOwn, Node: 4, Text: "x", With: with},
		join(0, 0, api.Term{}), join(-1, 0, with), join(0, 40, with), {Kind: api.EJoin, Node: 1, With: with}, {Kind: api.EJoin, Text: "x", With: with},
	} {
		if edit.Valid(e) || edit.Apart(x, e, cut(4)) || edit.Apart(x, cut(4), e) {
			t.Error(i, "is valid")
		}
		if s, f := edit.Encode(e); s != "" || f != api.ErrEdit {
			t.Error(i, f)
		}
		if l, f := edit.Invert(x, e); l != nil || f != api.ErrEdit {
			t.Error(i, f)
		}
	}
	root := api.Term{Nodes: []api.Node{leaf(4, -1, api.NSentence, 1)}}
	row := api.Term{Nodes: []api.Node{{ID: 1, Parent: -1, Kind: api.NTable}, leaf(4, 1, api.NRow, 1)}}
	for i, c := range []struct {
		x api.Term
		e api.Edit
	}{{x, cut(0)}, {x, cut(9)}, {x, move(7, 5, 0)}, {x, move(7, 7, 0)}, {x, move(5, 0, 3)}, {x, move(0, 7, 0)}, {x, own(7, "x")}, {x, own(9, "x")}, {root, own(4, "x")}, {row, own(4, "x")}, {x, join(4, 0, with)}, {x, join(0, 3, with)}, {x, join(0, 0, x)}, {api.Term{}, cut(1)}} {
		if !edit.Valid(c.e) {
			t.Error(i, "is not valid")
		}
		if y, n, e := edit.Apply(c.x, []api.Edit{c.e}); y.Nodes != nil || n != 0 || e != api.ErrEdit {
			t.Error(i, y, n, e)
		}
		if l, e := edit.Touches(c.x, c.e); l != nil || e != api.ErrEdit {
			t.Error(i, l, e)
		}
	}
	if _, n, e := edit.Apply(x, make([]api.Edit, 21)); n != 0 || e != api.ErrEdit {
		t.Error("21 edits", n, e)
	}
	if edit.Same(cut(4), cut(5)) || edit.Same(join(0, 0, with), join(0, 0, x)) || !edit.Same(join(0, 0, with), join(0, 0, with)) {
		t.Error("Same")
	}
}

func TestP18_2Undo(t *testing.T) {
	r := rand.New(rand.NewSource(2))
	count := map[int]int{}
	for range 2000 {
		x := random(r)
		e := some(r, x)
		y, _, f := edit.Apply(x, []api.Edit{e})
		back, g := edit.Invert(x, e)
		if f != g {
			t.Fatal(x, e, f, g)
		}
		if f != api.OK {
			continue
		}
		count[e.Kind]++
		if z := apply(t, y, back...); !term.Same(x, z) {
			t.Fatal(x, e, back)
		}
	}
	if len(count) != 4 {
		t.Error(count)
	}
}

func TestP18_3Apart(t *testing.T) {
	r := rand.New(rand.NewSource(3))
	apart := 0
	for range 4000 {
		x := random(r)
		a, b := some(r, x), some(r, x)
		if edit.Apart(x, a, b) != edit.Apart(x, b, a) {
			t.Fatal(x, a, b)
		}
		if !edit.Apart(x, a, b) {
			continue
		}
		y, _, e := edit.Apply(x, []api.Edit{a, b})
		z, _, f := edit.Apply(x, []api.Edit{b, a})
		if e == api.OK && f == api.OK {
			apart++
			if !term.Same(y, z) {
				t.Fatal(x, a, b)
			}
		}
	}
	if apart < 50 {
		t.Error(apart)
	}
	x := example()
	if edit.Apart(x, move(5, 0, 0), cut(4)) || edit.Apart(x, move(4, 0, 1), cut(7)) || edit.Apart(x, join(7, 0, other(r)), cut(7)) || edit.Apart(x, cut(4), cut(4)) || edit.Apart(x, cut(9), cut(4)) {
		t.Error("edits that are not apart")
	}
}

func TestP18_4Provenance(t *testing.T) {
	r := rand.New(rand.NewSource(4))
	for range 500 {
		x := random(r)
		known := map[int]api.Node{}
		note := func(y api.Term) {
			for _, n := range y.Nodes {
				known[n.ID] = n
			}
		}
		note(x)
		for range 5 {
			e := some(r, x)
			y, _, f := edit.Apply(x, []api.Edit{e})
			if f != api.OK {
				continue
			}
			x = y
			note(e.With)
		}
		for _, n := range x.Nodes {
			was := known[n.ID]
			n.Parent = was.Parent
			if term.States(n.Kind) && n != was {
				t.Fatal(n, was)
			}
		}
	}
}

func TestP18_5Together(t *testing.T) {
	r := rand.New(rand.NewSource(5))
	for range 500 {
		x := random(r)
		l := []api.Edit{some(r, x), some(r, x), some(r, x)}
		y, acted := x, 0
		for _, e := range l {
			z, _, f := edit.Apply(y, []api.Edit{e})
			if f != api.OK {
				break
			}
			y = z
			acted++
		}
		z, n, e := edit.Apply(x, l)
		if n != acted || (e == api.OK) != (acted == 3) || e == api.OK && !term.Same(y, z) {
			t.Fatal(x, l)
		}
	}
	x := example()
	y := apply(t, x)
	y.Nodes[0].ID = 99
	if !term.Same(x, example()) {
		t.Error("a result shares memory with an argument")
	}
}

func TestP18_6Codes(t *testing.T) {
	r := rand.New(rand.NewSource(6))
	for range 500 {
		e := some(r, random(r))
		s, f := edit.Encode(e)
		d, next, g := edit.Decode("ab"+s+"c", 2)
		if f != api.OK || g != api.OK || next != 2+len(s) || !edit.Same(e, d) {
			t.Fatal(e, d, f, g)
		}
		if d, next, g := edit.Decode(s[:r.Intn(len(s))], 0); g != api.ErrEdit || next != 0 || !reflect.DeepEqual(d, api.Edit{}) {
			t.Fatal(g)
		}
		b := []byte(s)
		b[r.Intn(len(b))] ^= 1 << r.Intn(8)
		if d, next, g := edit.Decode(string(b), 0); g == api.OK {
			if u, _ := edit.Encode(d); u != string(b[:next]) {
				t.Fatal("another encoding is decoded")
			}
		}
	}
}

func TestP18_7Counts(t *testing.T) {
	r := rand.New(rand.NewSource(7))
	for range 1000 {
		x := random(r)
		e := some(r, x)
		y, _, f := edit.Apply(x, []api.Edit{e})
		l, _ := edit.Touches(x, e)
		if f != api.OK {
			continue
		}
		more := map[int]int{api.ECut: -len(l), api.EJoin: len(l)}[e.Kind]
		if len(y.Nodes) != len(x.Nodes)+more || e.Kind == api.EMove && !reflect.DeepEqual(term.Facts(x), term.Facts(y)) {
			t.Fatal(x, e)
		}
	}
}

func TestP18_1Limits(t *testing.T) {
	x := example()
	x.Nodes[3].ID = 9999
	l := slices.Repeat([]api.Edit{move(9999, 7, 0)}, 20)
	if y := apply(t, x, l...); !term.Same(x, y) {
		t.Error(y)
	}
	if !edit.Valid(move(9999, 9999, 39)) || !edit.Valid(own(9999, "x")) {
		t.Error("the greatest numbers")
	}
}

func TestP18_3ListsThatChange(t *testing.T) {
	x := example()
	a, b := api.Term{Nodes: []api.Node{leaf(50, -1, api.NSentence, 1)}}, api.Term{Nodes: []api.Node{leaf(51, -1, api.NSentence, 1)}}
	for i, c := range []struct {
		a, b  api.Edit
		apart bool
	}{
		{join(0, 0, a), cut(4), false}, {join(0, 0, a), join(0, 0, b), false}, {join(0, 0, a), join(7, 0, b), true}, {join(0, 0, a), cut(5), true}, {join(0, 0, a), own(4, "x"), true},
		{join(7, 0, a), move(5, 0, 0), false}, {join(7, 0, a), move(4, 0, 0), true}, {join(7, 0, a), join(7, 0, a), false}, {move(5, 0, 0), join(0, 0, a), false}, {own(4, "x"), own(5, "x"), true}, {cut(4), cut(5), true},
	} {
		if edit.Apart(x, c.a, c.b) != c.apart || edit.Apart(x, c.b, c.a) != c.apart {
			t.Error(i, c.a, c.b)
		}
	}
}
