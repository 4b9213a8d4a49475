package term_test

import (
	"math/rand"
	"reflect"
	"slices"
	"strings"
	"testing"

	"newswire/api"
	"newswire/digest"
	"newswire/samples"
	"newswire/term"
)

var says = api.Statement{Whom: -1, From: -1, To: -1}

func leaf(id, parent, kind, fact, version int) api.Node {
	return api.Node{ID: id, Parent: parent, Kind: kind, Fact: fact, Version: version, Source: -1, Says: says}
}

func example() api.Term {
	return api.Term{Nodes: []api.Node{{Parent: -1, Kind: api.NStory}, leaf(4, 0, api.NHeadline, 2, 1), {ID: 7, Parent: 0, Kind: api.NParagraph}, leaf(5, 7, api.NSentence, 3, 2)}}
}

func ids(t api.Term) []int {
	var l []int
	for _, n := range t.Nodes {
		l = append(l, n.ID)
	}
	return l
}

func must(tb testing.TB, t api.Term, e api.Errno) api.Term {
	tb.Helper()
	if e != api.OK || !term.Valid(t) {
		tb.Fatal(e, t)
	}
	return t
}

func TestP13_1Examples(t *testing.T) {
	x := example()
	if !slices.Equal(term.Children(x, 0), []int{4, 7}) || term.Size(x, 7) != 2 || term.Size(x, 0) != 4 || term.Find(x, 5) != 3 || len(term.Children(x, 4)) != 0 {
		t.Error("Children, Size or Find")
	}
	if term.Find(x, 9) != -1 || term.Size(x, 9) != 0 || term.Children(x, 9) != nil || term.Find(api.Term{}, 0) != -1 || term.Facts(api.Term{}) != nil {
		t.Error("what is not there is found")
	}
	if f := term.Facts(x); !reflect.DeepEqual(f, [][2]int{{2, 1}, {3, 2}}) {
		t.Error(f)
	}
	short, e := term.Remove(x, 7)
	short = must(t, short, e)
	if !slices.Equal(ids(short), []int{0, 4}) {
		t.Error(short)
	}
	sub, e := term.Subtree(x, 7)
	sub = must(t, sub, e)
	for i, want := range [][]int{{0, 7, 5, 4}, {0, 4, 7, 5}} {
		more, e := term.Insert(short, 0, i, sub)
		if e != api.OK || !slices.Equal(ids(more), want) || !term.Valid(more) {
			t.Error(i, more, e)
		}
	}
	b, e := term.Bare(x)
	b = must(t, b, e)
	if !slices.Equal(ids(b), []int{0, 1, 2, 3}) || b.Nodes[3].Parent != 2 || b.Nodes[1].Parent != 0 || b.Nodes[0].Parent != -1 || b.Nodes[3].Fact != 0 || b.Nodes[3].Version != 0 {
		t.Error(b)
	}
	for kind := -1; kind < 13; kind++ {
		if term.Leaf(kind) != (kind >= 5 && kind <= 10) || term.States(kind) != (kind >= 5 && kind <= 8) {
			t.Error(kind)
		}
	}
}

func TestP13_1NotValid(t *testing.T) {
	own := api.Node{ID: 4, Parent: 0, Kind: api.NOwn, Text: "x 1"}
	for i, change := range []func(n []api.Node){
		func(n []api.Node) { n[0].Parent = 0 }, func(n []api.Node) { n[1].ID = 0 }, func(n []api.Node) { n[1].ID = -1 }, func(n []api.Node) { n[1].ID = 10000 }, func(n []api.Node) { n[0].Kind = 0 }, func(n []api.Node) { n[0].Kind = 11 },
		func(n []api.Node) { n[1].Parent = -1 }, func(n []api.Node) { n[3].Parent = 4 }, func(n []api.Node) { n[2].Parent = 4 }, func(n []api.Node) { n[2].Parent = 5 }, func(n []api.Node) { n[2].Kind = api.NStory },
		func(n []api.Node) { n[3].Kind = api.NHeadline }, func(n []api.Node) { n[3].Kind = api.NRow }, func(n []api.Node) { n[3].Kind = api.NQuote }, func(n []api.Node) { n[2].Kind = api.NTable },
		func(n []api.Node) { n[0].Fact = 1 }, func(n []api.Node) { n[0].Source = -1 }, func(n []api.Node) { n[2].Text = "x" }, func(n []api.Node) { n[2].Not = true },
		func(n []api.Node) { n[1].Fact = 16 }, func(n []api.Node) { n[1].Version = 9 }, func(n []api.Node) { n[1].Version = -1 }, func(n []api.Node) { n[1].Source = 12 }, func(n []api.Node) { n[1].Source = -2 }, func(n []api.Node) { n[1].Says.Who = 20 }, func(n []api.Node) { n[1].Text = "x" },
		func(n []api.Node) { n[1] = own; n[1].Text = "" }, func(n []api.Node) { n[1] = own; n[1].Text = "a  b" }, func(n []api.Node) { n[1] = own; n[1].Text = "A" }, func(n []api.Node) { n[1] = own; n[1].Text = strings.Repeat("x", 201) }, func(n []api.Node) { n[1] = own; n[1].Fact = 1 }, func(n []api.Node) { n[1] = own; n[1].Not = true },
		func(n []api.Node) { n[1].Kind = api.NNotice }, func(n []api.Node) { n[1] = api.Node{ID: 4, Kind: api.NNotice, Fact: 16} }, func(n []api.Node) { n[1] = api.Node{ID: 4, Kind: api.NNotice, Says: says} },
		func(n []api.Node) { n[2].Kind, n[3].Kind, n[3].Not = api.NTable, api.NRow, true },
	} {
		x := example()
		change(x.Nodes)
		if term.Valid(x) {
			t.Error(i, "is valid")
		}
		_, a := term.Bare(x)
		_, b := term.Encode(x)
		_, c := term.Digest(x)
		_, d := term.Remove(x, 7)
		_, f := term.Subtree(x, 7)
		_, g := term.Insert(x, 0, 0, api.Term{Nodes: []api.Node{{ID: 99, Parent: -1, Kind: api.NParagraph}}})
		_, h := term.Insert(example(), 0, 0, x)
		_, j := term.Replace(x, leaf(5, 7, api.NSentence, 1, 1))
		for k, e := range []api.Errno{a, b, c, d, f, g, h, j} {
			if e != api.ErrTerm {
				t.Error(i, k, e)
			}
		}
	}
	for i, n := range []api.Node{own, {ID: 4, Kind: api.NNotice, Fact: 15, Version: 8, Not: true}} {
		x := example()
		x.Nodes[1] = n
		if !term.Valid(x) {
			t.Error(i, "is not valid")
		}
	}
	row := leaf(1, -1, api.NRow, 0, 0)
	if !term.Valid(api.Term{Nodes: []api.Node{row}}) {
		t.Error("a row alone is not valid")
	}
	for n, ok := range map[int]bool{40: true, 41: false} {
		x := api.Term{Nodes: []api.Node{{Parent: -1, Kind: api.NList}}}
		for i := 1; i < n; i++ {
			x.Nodes = append(x.Nodes, api.Node{ID: i, Parent: i - 1, Kind: api.NParagraph})
		}
		if term.Valid(x) != ok {
			t.Error(n, "nodes")
		}
	}
}

func TestP13_1Changes(t *testing.T) {
	x := example()
	para := api.Term{Nodes: []api.Node{{ID: 99, Parent: -1, Kind: api.NParagraph}}}
	for i, f := range []func() (api.Term, api.Errno){
		func() (api.Term, api.Errno) { return term.Remove(x, 0) }, func() (api.Term, api.Errno) { return term.Remove(x, 1) }, func() (api.Term, api.Errno) { return term.Subtree(x, 1) },
		func() (api.Term, api.Errno) { return term.Insert(x, 4, 0, para) }, func() (api.Term, api.Errno) { return term.Insert(x, 0, 3, para) }, func() (api.Term, api.Errno) { return term.Insert(x, 0, -1, para) }, func() (api.Term, api.Errno) { return term.Insert(x, 1, 0, para) },
		func() (api.Term, api.Errno) { return term.Insert(x, 0, 0, x) }, func() (api.Term, api.Errno) { return term.Replace(x, leaf(7, 0, api.NSentence, 1, 1)) }, func() (api.Term, api.Errno) { return term.Replace(x, leaf(8, 0, api.NSentence, 1, 1)) },
		func() (api.Term, api.Errno) {
			return term.Insert(x, 7, 0, api.Term{Nodes: []api.Node{leaf(9, -1, api.NHeadline, 1, 1)}})
		},
	} {
		if y, e := f(); e != api.ErrTerm || y.Nodes != nil {
			t.Error(i, y, e)
		}
	}
	n := leaf(5, 77, api.NQuote, 1, 1)
	n.Source = 3
	if y, e := term.Replace(x, n); e != api.OK || y.Nodes[3].Parent != 7 || y.Nodes[3].Kind != api.NQuote || !term.Same(x, example()) || term.Same(x, y) {
		t.Error(y, e)
	}
}

func random(r *rand.Rand) api.Term {
	return samples.Term(r.Intn, 2+r.Intn(28))
}

func TestP13_2InAndOut(t *testing.T) {
	r := rand.New(rand.NewSource(1))
	for range 500 {
		x := random(r)
		i := r.Intn(len(x.Nodes))
		sub, e := term.Subtree(x, x.Nodes[i].ID)
		sub = must(t, sub, e)
		if i == 0 {
			if !term.Same(sub, x) {
				t.Fatal("the subtree of the root")
			}
			continue
		}
		parent := x.Nodes[i].Parent
		at := slices.Index(term.Children(x, parent), x.Nodes[i].ID)
		less, e := term.Remove(x, x.Nodes[i].ID)
		less = must(t, less, e)
		back, e := term.Insert(less, parent, at, sub)
		if e != api.OK || !term.Same(back, x) {
			t.Fatal(x, i, e)
		}
		out, _ := term.Subtree(back, x.Nodes[i].ID)
		if !term.Same(out, sub) {
			t.Fatal(x, i)
		}
	}
}

func TestP13_3Apart(t *testing.T) {
	r := rand.New(rand.NewSource(2))
	for range 500 {
		x := random(r)
		a, b := x.Nodes[r.Intn(len(x.Nodes))].ID, x.Nodes[r.Intn(len(x.Nodes))].ID
		s, _ := term.Subtree(x, a)
		u, _ := term.Subtree(x, b)
		if term.Find(s, b) >= 0 || term.Find(u, a) >= 0 {
			continue
		}
		p, _ := term.Remove(x, a)
		p, e := term.Remove(p, b)
		q, _ := term.Remove(x, b)
		q, f := term.Remove(q, a)
		if e != api.OK || f != api.OK || !term.Same(p, q) {
			t.Fatal(x, a, b)
		}
		n := u.Nodes[0]
		if !term.States(n.Kind) {
			continue
		}
		n.Version++
		p, _ = term.Replace(x, n)
		p, e = term.Remove(p, a)
		q, _ = term.Remove(x, a)
		q, f = term.Replace(q, n)
		if e != api.OK || f != api.OK || !term.Same(p, q) {
			t.Fatal(x, a, b)
		}
	}
}

func TestP13_4Facts(t *testing.T) {
	r := rand.New(rand.NewSource(3))
	for range 300 {
		x := random(r)
		want := map[[2]int]bool{}
		for _, c := range term.Children(x, 0) {
			s, _ := term.Subtree(x, c)
			for _, f := range term.Facts(s) {
				want[f] = true
			}
		}
		got := term.Facts(x)
		for _, f := range got {
			if !want[f] {
				t.Fatal(x, f)
			}
		}
		if len(got) != len(want) || !slices.IsSortedFunc(got, func(a, b [2]int) int { return 10*(a[0]-b[0]) + a[1] - b[1] }) {
			t.Fatal(x, got)
		}
	}
	quiet := api.Term{Nodes: []api.Node{{Parent: -1, Kind: api.NStory}, {ID: 1, Kind: api.NNotice, Fact: 3, Version: 1}, {ID: 2, Kind: api.NOwn, Text: "x"}}}
	if len(term.Facts(quiet)) != 0 {
		t.Error("notices or own words state something")
	}
}

func TestP13_5Bare(t *testing.T) {
	r := rand.New(rand.NewSource(4))
	for range 300 {
		x := random(r)
		b, e := term.Bare(x)
		b = must(t, b, e)
		again, _ := term.Bare(b)
		y := api.Term{Nodes: slices.Clone(x.Nodes)}
		for i := range y.Nodes {
			n := &y.Nodes[i]
			n.ID += 1000
			if i > 0 {
				n.Parent += 1000
			}
			if term.States(n.Kind) {
				n.Fact, n.Version = 15-n.Fact, 0
			}
		}
		other, _ := term.Bare(y)
		if !term.Same(b, again) || !term.Same(b, other) {
			t.Fatal(x)
		}
		for i, n := range b.Nodes {
			m := x.Nodes[i]
			if n.Kind != m.Kind || n.Says != m.Says || n.Source != m.Source || n.Not != (m.Not && m.Kind != api.NNotice) || n.Text != m.Text || i > 0 && x.Nodes[n.Parent].ID != m.Parent {
				t.Fatal(n, m)
			}
		}
	}
}

func TestP13_6Codes(t *testing.T) {
	r := rand.New(rand.NewSource(5))
	for range 300 {
		x := random(r)
		s, e := term.Encode(x)
		y, next, f := term.Decode("ab"+s+"c", 2)
		if e != api.OK || f != api.OK || next != 2+len(s) || !term.Same(x, y) {
			t.Fatal(x, y, e, f)
		}
		if d, e := term.Digest(x); d != digest.Sum(s) || e != api.OK {
			t.Fatal(d, e)
		}
		if z, next, e := term.Decode(s[:r.Intn(len(s))], 0); z.Nodes != nil || next != 0 || e != api.ErrTerm {
			t.Fatal(e)
		}
		changed := []byte(s)
		changed[r.Intn(len(s))] ^= byte(1 + r.Intn(255))
		if z, next, e := term.Decode(string(changed), 0); e == api.OK {
			if u, _ := term.Encode(z); u != string(changed[:next]) {
				t.Fatal("another encoding is decoded")
			}
		}
	}
	if _, _, e := term.Decode("\x00", 0); e != api.ErrTerm {
		t.Error("a term without nodes is decoded")
	}
}

func TestP13_7Size(t *testing.T) {
	r := rand.New(rand.NewSource(6))
	for range 300 {
		x := random(r)
		for _, n := range x.Nodes {
			size := 1
			for _, c := range term.Children(x, n.ID) {
				size += term.Size(x, c)
			}
			if term.Size(x, n.ID) != size || term.Leaf(n.Kind) && size != 1 {
				t.Fatal(x, n.ID, size)
			}
		}
	}
}

func TestP13_1Limits(t *testing.T) {
	x := example()
	x.Nodes[1] = api.Node{ID: 9999, Kind: api.NOwn, Text: strings.Repeat("x", 200)}
	x.Nodes[3] = api.Node{ID: 5, Parent: 7, Kind: api.NQuote, Fact: 15, Version: 8, Source: 11, Says: says}
	if !term.Valid(x) {
		t.Error("not valid")
	}
	for _, s := range []int{0, 11, 99, -1} {
		x.Nodes[3].Source = s
		if term.Valid(x) != (s != -1) {
			t.Error(s)
		}
	}
	x.Nodes[3] = api.Node{ID: 5, Parent: 7, Kind: api.NTable}
	if !term.Valid(x) || term.Valid(api.Term{Nodes: []api.Node{leaf(1, -1, api.NHeadline, 1, 0), leaf(2, 1, api.NSentence, 1, 0)}}) {
		t.Error("containers")
	}
}
