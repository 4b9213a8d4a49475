package take_test

import (
	"math/rand"
	"slices"
	"testing"

	"newswire/api"
	"newswire/patch"
	"newswire/samples"
	"newswire/take"
	"newswire/term"
)

func leaf(id int) api.Node {
	return api.Node{ID: id, Kind: api.NSentence, Fact: 1, Version: 1, Source: -1, Says: api.Statement{Whom: -1, From: -1, To: -1}}
}

func story(ids ...int) api.Term {
	t := api.Term{Nodes: []api.Node{{Parent: -1, Kind: api.NStory}}}
	for _, id := range ids {
		t.Nodes = append(t.Nodes, leaf(id))
	}
	return t
}

func of(kind, number int, t api.Term) api.Take {
	return api.Take{Story: 7, Number: number, Kind: kind, Term: t}
}

func fix(t *testing.T, number int, a, b api.Term) api.Take {
	t.Helper()
	p, e := patch.Compile(a, b)
	if e != api.OK {
		t.Fatal(e)
	}
	return api.Take{Story: 7, Number: number, Kind: api.TFix, Patch: p}
}

// run returns a random run, and its states.
func run(t *testing.T, r *rand.Rand) ([]api.Take, []api.Term) {
	t.Helper()
	var l []api.Take
	var now api.Term
	id := 1
	for number := 1; number <= 2+r.Intn(8); number++ {
		k := of(api.TTake, number, story(id))
		id++
		if r.Intn(4) == 0 {
			k = of(api.TWrite, number, story(id, id+1))
			id += 2
		} else if r.Intn(3) == 0 && len(now.Nodes) > 1 {
			k = fix(t, number, now, api.Term{Nodes: now.Nodes[:len(now.Nodes)-1]})
		}
		next, e := take.Next(now, k)
		if e != api.OK {
			t.Fatal(now, k, e)
		}
		now, l = next, append(l, k)
	}
	states, e := take.Play(l)
	if e != api.OK || len(states) != len(l) {
		t.Fatal(e)
	}
	return l, states
}

// some returns some takes of a run, in any order, and some of them several times.
func some(r *rand.Rand, l []api.Take) []api.Take {
	var out []api.Take
	for range r.Intn(2 * len(l)) {
		out = append(out, l[r.Intn(len(l))])
	}
	return out
}

func show(t *testing.T, l []api.Take) api.Seen {
	t.Helper()
	s, e := take.Show(l)
	if e != api.OK {
		t.Fatal(e)
	}
	return s
}

func TestP20_1Examples(t *testing.T) {
	l, e := take.Split(story(1, 2, 3), 7, []int{1, 1})
	if e != api.OK || len(l) != 3 || !term.Same(l[1].Term, story(2)) {
		t.Fatal(l, e)
	}
	for i, c := range []struct {
		l       []api.Take
		number  int
		t       api.Term
		missing []int
	}{
		{[]api.Take{l[0], l[2]}, 1, story(1), []int{2}},
		{[]api.Take{l[2], l[1], l[0], l[1]}, 3, story(1, 2, 3), nil},
		{[]api.Take{l[2], of(api.TWrite, 5, story(9))}, 5, story(9), nil},
		{[]api.Take{l[1]}, 0, api.Term{}, []int{1}},
		{nil, 0, api.Term{}, nil},
		{[]api.Take{fix(t, 1, story(1), story(2)), l[2]}, 0, api.Term{}, []int{2}},
		{[]api.Take{l[0], of(api.TWrite, 4, story(8)), of(api.TTake, 6, story(9))}, 4, story(8), []int{5}},
	} {
		if s := show(t, c.l); s.Number != c.number || !term.Same(s.Term, c.t) || !slices.Equal(s.Missing, c.missing) {
			t.Error(i, s)
		}
	}
}

func TestP20_1Errors(t *testing.T) {
	ok := of(api.TTake, 2, story(1))
	para := api.Term{Nodes: []api.Node{{Parent: -1, Kind: api.NParagraph}}}
	for i, change := range []func(k *api.Take){
		func(k *api.Take) { k.Story = -1 }, func(k *api.Take) { k.Story = 100 }, func(k *api.Take) { k.Number = 0 }, func(k *api.Take) { k.Number = 31 }, func(k *api.Take) { k.Kind = 0 }, func(k *api.Take) { k.Kind = 4 }, func(k *api.Take) { k.Kind = api.TFix },
		func(k *api.Take) { k.Term = api.Term{} }, func(k *api.Take) { k.Term = para }, func(k *api.Take) { k.Patch.Ops = []api.Op{{Kind: api.PDrop}} },
		func(k *api.Take) { k.Kind, k.Term, k.Patch.Ops = api.TFix, api.Term{}, []api.Op{{}} },
	} {
		k := ok
		change(&k)
		_, a := take.Next(story(), k)
		_, b := take.Show([]api.Take{k})
		s, c := take.Encode(k)
		if take.Valid(k) || a != api.ErrTake || b != api.ErrTake || c != api.ErrTake || s != "" {
			t.Error(i, k, a, b, c)
		}
	}
	other := story(1)
	other.Nodes[0].ID, other.Nodes[1].Parent = 5, 5
	for i, c := range []struct {
		t api.Term
		k api.Take
	}{{para, ok}, {story(1), ok}, {other, ok}, {api.Term{}, fix(t, 1, story(), story(1))}, {story(5), fix(t, 1, story(1), story())}, {api.Term{Nodes: []api.Node{{}}}, ok}} {
		if u, e := take.Next(c.t, c.k); u.Nodes != nil || e != api.ErrTake {
			t.Error(i, u, e)
		}
	}
	if u, e := take.Next(story(1), of(api.TWrite, 9, other)); !term.Same(u, other) || e != api.OK {
		t.Error(u, e)
	}
	for i, l := range [][]api.Take{{ok}, {of(api.TTake, 1, story(1)), of(api.TTake, 3, story(2))}, {of(api.TTake, 1, story(1)), {Story: 8, Number: 2, Kind: api.TTake, Term: story(2)}}, {of(api.TTake, 1, story(1)), of(api.TTake, 2, story(1))}} {
		if s, e := take.Play(l); s != nil || e != api.ErrTake {
			t.Error(i, s, e)
		}
	}
	for i, l := range [][]api.Take{{ok, of(api.TTake, 2, story(2))}, {ok, {Story: 8, Number: 1, Kind: api.TTake, Term: story(2)}}, slices.Repeat([]api.Take{ok}, 201)} {
		if s, e := take.Show(l); s.Term.Nodes != nil || s.Missing != nil || e != api.ErrTake {
			t.Error(i, s, e)
		}
	}
	if s := show(t, slices.Repeat([]api.Take{ok}, 200)); s.Number != 0 || !slices.Equal(s.Missing, []int{1}) {
		t.Error(s)
	}
	long := story()
	for i := range 31 {
		long.Nodes = append(long.Nodes, leaf(i+1))
	}
	for i, c := range []struct {
		t     api.Term
		story int
		sizes []int
	}{{para, 7, nil}, {api.Term{}, 7, nil}, {story(1), -1, nil}, {story(1), 100, nil}, {story(1), 7, []int{0}}, {story(1), 7, []int{5, -1}}, {long, 7, slices.Repeat([]int{1}, 31)}} {
		if l, e := take.Split(c.t, c.story, c.sizes); l != nil || e != api.ErrTake {
			t.Error(i, l, e)
		}
	}
	if l, e := take.Split(long, 7, slices.Repeat([]int{1}, 29)); len(l) != 30 || e != api.OK {
		t.Error(len(l), e)
	}
	if l, e := take.Split(story(), 7, []int{1, 1}); len(l) != 1 || e != api.OK || !term.Same(l[0].Term, story()) {
		t.Error(l, e)
	}
}

func TestP20_2AStateThatWas(t *testing.T) {
	r := rand.New(rand.NewSource(1))
	for range 500 {
		l, states := run(t, r)
		s := show(t, some(r, l))
		if s.Number == 0 && len(s.Term.Nodes) > 0 || s.Number > 0 && !term.Same(s.Term, states[s.Number-1]) {
			t.Fatal(l, s)
		}
	}
}

func TestP20_3Missing(t *testing.T) {
	r := rand.New(rand.NewSource(2))
	for range 500 {
		l, _ := run(t, r)
		got := some(r, l)
		s := show(t, got)
		last := 0
		for _, k := range got {
			last = max(last, k.Number)
		}
		more := append(slices.Clone(got), l[r.Intn(len(l))])
		if show(t, more).Number < s.Number {
			t.Fatal("less is known")
		}
		for _, n := range s.Missing {
			got = append(got, l[n-1])
		}
		if s := show(t, got); s.Number != last || len(s.Missing) > 0 {
			t.Fatal(s, last)
		}
	}
}

func TestP20_4WriteThroughs(t *testing.T) {
	r := rand.New(rand.NewSource(3))
	for range 500 {
		l, _ := run(t, r)
		i := slices.IndexFunc(l, func(k api.Take) bool { return k.Kind == api.TWrite })
		if i < 0 {
			continue
		}
		later := some(r, l[i:])
		later = append(later, l[i])
		a, b := show(t, later), show(t, append(slices.Clone(later), some(r, l[:i+1])...))
		if a.Number != b.Number || !term.Same(a.Term, b.Term) || !slices.Equal(a.Missing, b.Missing) {
			t.Fatal(a, b)
		}
	}
}

func TestP20_5ThereAndBack(t *testing.T) {
	r := rand.New(rand.NewSource(4))
	for range 300 {
		x := samples.Term(r.Intn, 20)
		l, e := take.Split(x, 7, []int{1 + r.Intn(3), 1 + r.Intn(3)})
		states, f := take.Play(l)
		if e != api.OK || f != api.OK || !term.Same(states[len(states)-1], x) {
			t.Fatal(x, l, e, f)
		}
		l, _ = run(t, r)
		k := l[r.Intn(len(l))]
		s, e := take.Encode(k)
		d, next, f := take.Decode("ab"+s+"c", 2)
		if e != api.OK || f != api.OK || next != 2+len(s) || !take.Same(k, d) {
			t.Fatal(k, d, e, f)
		}
		if d, next, e := take.Decode(s[:r.Intn(len(s))], 0); e != api.ErrTake || next != 0 || d.Kind != 0 {
			t.Fatal(e)
		}
		b := []byte(s)
		b[r.Intn(len(b))] ^= 1 << r.Intn(8)
		if d, next, e := take.Decode(string(b), 0); e == api.OK {
			if u, _ := take.Encode(d); u != string(b[:next]) {
				t.Fatal("another encoding is decoded")
			}
		}
	}
}

func TestP20_6Fixes(t *testing.T) {
	r := rand.New(rand.NewSource(5))
	for range 200 {
		x := samples.Term(r.Intn, 20)
		n := x.Nodes[len(x.Nodes)-1]
		y, _ := term.Remove(x, n.ID)
		l, _ := take.Split(x, 7, []int{1, 1})
		k := fix(t, len(l)+1, x, y)
		want, _ := patch.Apply(x, k.Patch)
		if s := show(t, append(l, k)); !term.Same(s.Term, want) || s.Number != len(l)+1 {
			t.Fatal(s)
		}
	}
}

func TestP20_1Limits(t *testing.T) {
	for _, k := range []api.Take{{Story: 0, Number: 1, Kind: api.TFix}, {Story: 99, Number: 30, Kind: api.TWrite, Term: story(1)}} {
		if !take.Valid(k) {
			t.Error(k)
		}
	}
	for _, n := range []int{0, 99} {
		if l, e := take.Split(story(1), n, nil); len(l) != 1 || l[0].Story != n || e != api.OK {
			t.Error(n, e)
		}
	}
	other := story(2)
	other.Nodes[0].ID, other.Nodes[1].Parent = 5, 5
	if u, e := take.Next(story(1), of(api.TTake, 2, other)); u.Nodes != nil || e != api.ErrTake {
		t.Error("another root", e)
	}
	para := api.Term{Nodes: []api.Node{{Parent: -1, Kind: api.NParagraph}}}
	if u, e := take.Next(para, of(api.TWrite, 2, story(1))); u.Nodes != nil || e != api.ErrTake {
		t.Error("no story before", e)
	}
}
