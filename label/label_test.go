package label_test

import (
	"math/rand"
	"slices"
	"testing"

	"newswire/api"
	"newswire/label"
)

func numbers(r *rand.Rand, n int, most int) []int {
	l := r.Perm(n)[:r.Intn(most+1)]
	slices.Sort(l)
	return l
}

func some(r *rand.Rand) api.Label {
	l := api.Label{Until: r.Intn(6), Events: numbers(r, 4, 2), Territories: 255 &^ r.Intn(8), Classes: 255 &^ r.Intn(8)}
	for _, f := range numbers(r, 4, 2) {
		l.Counts = append(l.Counts, api.Confirmed{Fact: f, Count: 1 + r.Intn(3)})
	}
	if keys := numbers(r, 4, 3); len(keys) > 0 {
		l.Locks = append(l.Locks, api.Quorum{Need: 1 + r.Intn(len(keys)), Keys: keys})
	}
	return l
}

func moment(r *rand.Rand) api.Moment {
	m := api.Moment{Now: r.Intn(12), Drift: r.Intn(4), Events: numbers(r, 4, 4), Keys: numbers(r, 4, 4)}
	for _, f := range numbers(r, 4, 4) {
		m.Confirmed = append(m.Confirmed, api.Confirmed{Fact: f, Count: r.Intn(5)})
	}
	return m
}

func reader(r *rand.Rand) api.Reader {
	return api.Reader{Territory: r.Intn(4), Class: r.Intn(4)}
}

func join(t *testing.T, a, b api.Label) api.Label {
	t.Helper()
	l, e := label.Join(a, b)
	if e != api.OK {
		t.Fatal(a, b, e)
	}
	return l
}

func example() (api.Label, api.Label) {
	a, b := label.None(), label.None()
	a.Until, a.Classes = 100, 3
	b.Events, b.Locks = []int{4}, []api.Quorum{{Need: 1, Keys: []int{2, 7}}}
	return a, b
}

func TestP10_1Examples(t *testing.T) {
	a, b := example()
	j := join(t, a, b)
	if !label.Same(j, api.Label{Until: 100, Events: []int{4}, Territories: 255, Classes: 3, Locks: []api.Quorum{{Need: 1, Keys: []int{2, 7}}}}) {
		t.Error(j)
	}
	for _, c := range []struct {
		l api.Label
		r api.Reader
		m api.Moment
		n int
	}{
		{a, api.Reader{Class: 2}, api.Moment{Now: 500}, 3}, {a, api.Reader{Class: 1}, api.Moment{Now: 100, Drift: 1}, 4}, {a, api.Reader{Class: 1}, api.Moment{Now: 100}, 0},
		{b, api.Reader{}, api.Moment{Events: []int{4}}, 7}, {b, api.Reader{}, api.Moment{Events: []int{4}, Keys: []int{7}}, 0}, {b, api.Reader{}, api.Moment{Keys: []int{7}}, 5},
		{api.Label{Classes: 255}, api.Reader{}, api.Moment{}, 2}, {api.Label{Territories: 254, Classes: 254}, api.Reader{}, api.Moment{}, 2},
		{api.Label{Territories: 1, Classes: 1, Counts: []api.Confirmed{{Fact: 3, Count: 2}}}, api.Reader{}, api.Moment{Confirmed: []api.Confirmed{{Fact: 3, Count: 1}}}, 6},
		{api.Label{Territories: 1, Classes: 1, Counts: []api.Confirmed{{Fact: 3, Count: 2}}}, api.Reader{}, api.Moment{Confirmed: []api.Confirmed{{Fact: 3, Count: 2}}}, 0},
		{api.Label{Territories: 1, Classes: 1, Counts: []api.Confirmed{{Fact: 3, Count: 2}}}, api.Reader{}, api.Moment{}, 6},
		{a, api.Reader{Class: 8}, api.Moment{}, 1}, {a, api.Reader{Territory: -1}, api.Moment{}, 1}, {a, api.Reader{}, api.Moment{Now: -1}, 1}, {api.Label{Until: -1}, api.Reader{}, api.Moment{}, 1},
	} {
		if n := label.Reason(c.l, c.r, c.m); n != c.n || label.Open(c.l, c.r, c.m) != (n == 0) {
			t.Errorf("Reason of %v, %v, %v = %d, want %d", c.l, c.r, c.m, n, c.n)
		}
	}
	if !label.Below(a, j) || label.Below(j, a) {
		t.Error("Below")
	}
}

func TestP10_1Valid(t *testing.T) {
	for i, change := range []func(l *api.Label){
		func(l *api.Label) { l.Until = -1 }, func(l *api.Label) { l.Until = api.MaxTime + 1 }, func(l *api.Label) { l.Events = []int{20} }, func(l *api.Label) { l.Events = []int{1, 1} }, func(l *api.Label) { l.Events = []int{-1} },
		func(l *api.Label) { l.Counts = []api.Confirmed{{Fact: 16, Count: 1}} }, func(l *api.Label) { l.Counts = []api.Confirmed{{Fact: 1}} }, func(l *api.Label) { l.Counts = []api.Confirmed{{Fact: 1, Count: 13}} }, func(l *api.Label) { l.Counts = []api.Confirmed{{Fact: 1, Count: 1}, {Fact: 1, Count: 2}} },
		func(l *api.Label) { l.Territories = 256 }, func(l *api.Label) { l.Classes = -1 },
		func(l *api.Label) { l.Locks = []api.Quorum{{}} }, func(l *api.Label) { l.Locks = []api.Quorum{{Need: 2, Keys: []int{1}}} }, func(l *api.Label) { l.Locks = []api.Quorum{{Need: 0, Keys: []int{1}}} }, func(l *api.Label) { l.Locks = []api.Quorum{{Need: 1, Keys: []int{20}}} },
		func(l *api.Label) { l.Locks = []api.Quorum{{Need: 1, Keys: []int{2}}, {Need: 1, Keys: []int{1, 2}}} }, func(l *api.Label) { l.Locks = []api.Quorum{{Need: 1, Keys: []int{2}}, {Need: 1, Keys: []int{2}}} },
		func(l *api.Label) {
			l.Locks = []api.Quorum{{Need: 1, Keys: []int{1}}, {Need: 1, Keys: []int{2}}, {Need: 1, Keys: []int{3}}, {Need: 1, Keys: []int{4}}, {Need: 1, Keys: []int{5}}}
		},
	} {
		l := label.None()
		change(&l)
		if label.Valid(l) || label.Below(l, l) {
			t.Error(i, "valid:", l)
		}
		if j, e := label.Join(l, label.None()); e != api.ErrLabel || !label.Same(j, api.Label{}) {
			t.Error(i, e)
		}
		if s, e := label.Encode(l); s != "" || e != api.ErrLabel {
			t.Error(i, e)
		}
	}
	for _, m := range []api.Moment{{Now: api.MaxTime + 1}, {Drift: -1}, {Drift: 1441}, {Events: []int{2, 1}}, {Keys: []int{20}}, {Confirmed: []api.Confirmed{{Fact: 1, Count: 13}}}, {Confirmed: []api.Confirmed{{Fact: 1, Count: -1}}}} {
		if label.ValidMoment(m) {
			t.Error("valid:", m)
		}
	}
	if !label.ValidMoment(api.Moment{Now: api.MaxTime, Drift: 1440, Confirmed: []api.Confirmed{{Fact: 15}}}) {
		t.Error("a moment is not valid")
	}
	a := label.None()
	b := a
	a.Locks = []api.Quorum{{Need: 1, Keys: []int{1}}, {Need: 1, Keys: []int{2}}, {Need: 1, Keys: []int{3}}}
	b.Locks = []api.Quorum{{Need: 1, Keys: []int{4}}, {Need: 1, Keys: []int{5}}}
	if _, e := label.Join(a, b); e != api.ErrLabel {
		t.Error("five locks", e)
	}
}

func TestP10_2Lattice(t *testing.T) {
	r := rand.New(rand.NewSource(1))
	for range 3000 {
		a, b, c := some(r), some(r), some(r)
		if r.Intn(2) == 0 {
			b = join(t, a, b)
		}
		ab := join(t, a, b)
		if !label.Valid(ab) || !label.Same(ab, join(t, b, a)) || !label.Same(join(t, ab, c), join(t, a, join(t, b, c))) || !label.Same(a, join(t, a, a)) || !label.Same(a, join(t, a, label.None())) {
			t.Fatal(a, b, c)
		}
		if label.Below(a, b) != label.Same(ab, b) || !label.Below(a, ab) || !label.Below(a, a) {
			t.Fatal(a, b)
		}
		if label.Below(a, b) && label.Below(b, a) && !label.Same(a, b) {
			t.Fatal(a, b)
		}
		if label.Below(a, c) && label.Below(b, c) && !label.Below(ab, c) {
			t.Fatal("not the least one", a, b, c)
		}
	}
}

func TestP10_3Joins(t *testing.T) {
	r := rand.New(rand.NewSource(2))
	for range 5000 {
		a, b, x, m := some(r), some(r), reader(r), moment(r)
		both := label.Open(a, x, m) && label.Open(b, x, m)
		if label.Open(join(t, a, b), x, m) != both {
			t.Fatal(a, b, x, m)
		}
	}
}

func TestP10_4NothingTwice(t *testing.T) {
	r := rand.New(rand.NewSource(3))
	for range 300 {
		a, b := some(r), some(r)
		a.Locks = nil
		if label.Below(a, b) || b.Territories == 0 || b.Classes == 0 {
			continue
		}
		found := false
		for i := 0; i < 64 && !found; i++ {
			x := api.Reader{Territory: i % 8, Class: i / 8}
			m := api.Moment{Now: b.Until, Events: b.Events, Confirmed: b.Counts, Keys: []int{0, 1, 2, 3}}
			found = label.Open(b, x, m) && !label.Open(a, x, m)
		}
		if !found {
			t.Fatal(a, b)
		}
	}
}

func TestP10_5Clocks(t *testing.T) {
	r := rand.New(rand.NewSource(4))
	for range 3000 {
		a, x, m := some(r), reader(r), moment(r)
		if !label.Open(a, x, m) {
			continue
		}
		for d := -m.Drift; d <= m.Drift; d++ {
			right := m
			right.Now, right.Drift = m.Now+d, 0
			if !label.Open(a, x, right) {
				t.Fatal(a, x, m, d)
			}
		}
	}
	l := label.None()
	l.Until = 100
	if label.Open(l, api.Reader{}, api.Moment{Now: 100, Drift: 1}) {
		t.Error("open too early")
	}
}

func TestP10_6OnceOpen(t *testing.T) {
	r := rand.New(rand.NewSource(5))
	for range 3000 {
		a, x, m := some(r), reader(r), moment(r)
		if !label.Open(a, x, m) {
			continue
		}
		m.Now++
		m.Events, m.Keys = []int{0, 1, 2, 3}, []int{0, 1, 2, 3}
		m.Confirmed = []api.Confirmed{{Fact: 0, Count: 12}, {Fact: 1, Count: 12}, {Fact: 2, Count: 12}, {Fact: 3, Count: 12}}
		if !label.Open(a, x, m) {
			t.Fatal(a, x, m)
		}
	}
}

func TestP10_7Keys(t *testing.T) {
	r := rand.New(rand.NewSource(6))
	for range 500 {
		l := label.None()
		keys := numbers(r, 20, 10)
		if len(keys) == 0 {
			continue
		}
		l.Locks = []api.Quorum{{Need: 1 + r.Intn(len(keys)), Keys: keys}}
		released := numbers(r, 20, 20)
		n := 0
		for _, k := range released {
			if slices.Contains(keys, k) {
				n++
			}
		}
		if label.Open(l, api.Reader{}, api.Moment{Keys: released}) != (n >= l.Locks[0].Need) {
			t.Fatal(l, released)
		}
	}
}

func TestP10_8Codes(t *testing.T) {
	r := rand.New(rand.NewSource(7))
	for range 500 {
		a := join(t, some(r), some(r))
		s, e := label.Encode(a)
		b, next, f := label.Decode("ab"+s+"c", 2)
		if e != api.OK || f != api.OK || next != 2+len(s) || !label.Same(a, b) {
			t.Fatal(a, b, e, f)
		}
		i := r.Intn(len(s))
		if b, next, e := label.Decode(s[:i], 0); e != api.ErrLabel || next != 0 || !label.Same(b, api.Label{}) {
			t.Fatal(i, e)
		}
		changed := []byte(s)
		changed[i] ^= byte(1 << r.Intn(8))
		if b, next, e := label.Decode(string(changed), 0); e == api.OK {
			if u, _ := label.Encode(b); u != string(changed[:next]) {
				t.Fatal("another encoding is decoded")
			}
		}
	}
	for _, at := range []int{-1, 5} {
		if _, _, e := label.Decode("\x00", at); e != api.ErrLabel {
			t.Error(at, e)
		}
	}
}

func TestP10_1Limits(t *testing.T) {
	lock := func(keys ...int) api.Quorum { return api.Quorum{Need: len(keys), Keys: keys} }
	l := api.Label{Until: api.MaxTime, Events: []int{0, 19}, Counts: []api.Confirmed{{Fact: 0, Count: 1}, {Fact: 15, Count: 12}}, Territories: 128, Classes: 128, Locks: []api.Quorum{lock(0), lock(19), lock(0, 19), lock(1, 2)}}
	if !label.Valid(l) {
		t.Fatal("not valid")
	}
	if j, e := label.Join(l, l); e != api.OK || !label.Same(j, l) {
		t.Error(e)
	}
	m := api.Moment{Now: api.MaxTime, Events: []int{0, 19}, Confirmed: []api.Confirmed{{Fact: 0, Count: 1}, {Fact: 15, Count: 12}}, Keys: []int{0, 1, 2, 19}}
	if n := label.Reason(l, api.Reader{Territory: 7, Class: 7}, m); n != 0 {
		t.Error(n)
	}
	for i, change := range []func(l *api.Label){func(l *api.Label) { l.Events = []int{20} }, func(l *api.Label) { l.Locks[0].Keys = []int{20} }, func(l *api.Label) { l.Counts[1].Fact = 16 }} {
		k := label.None()
		k.Counts, k.Locks = []api.Confirmed{{Fact: 0, Count: 1}, {Fact: 15, Count: 12}}, []api.Quorum{lock(0)}
		change(&k)
		if label.Valid(k) {
			t.Error(i)
		}
	}
	for i, m := range []api.Moment{{Events: []int{20}}, {Keys: []int{20}}, {Confirmed: []api.Confirmed{{Fact: 16}}}} {
		if label.ValidMoment(m) {
			t.Error(i)
		}
	}
}
