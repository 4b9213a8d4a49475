package merge_test

import (
	"math/rand"
	"reflect"
	"slices"
	"strings"
	"testing"

	"newswire/api"
	"newswire/fact"
	"newswire/label"
	"newswire/merge"
)

var says = api.Statement{Whom: -1, From: -1, To: -1}

func sources() []api.Source {
	return []api.Source{{ID: 0, Kind: api.SNamed}, {ID: 2, Kind: api.SNamed}, {ID: 5, Kind: api.SWithheld, From: []int{0}}}
}

func must(t *testing.T, d api.Desk, e api.Errno) api.Desk {
	t.Helper()
	if e != api.OK || !merge.Valid(d) {
		t.Fatal(d, e)
	}
	return d
}

func desk(t *testing.T, id int, l ...api.Filing) api.Desk {
	t.Helper()
	d, e := merge.New(id, sources())
	d = must(t, d, e)
	for _, x := range l {
		d, e = merge.File(d, x)
		d = must(t, d, e)
	}
	return d
}

func joined(t *testing.T, a, b api.Desk) api.Desk {
	t.Helper()
	d, e := merge.Merge(a, b)
	return must(t, d, e)
}

func facts(t *testing.T, d api.Desk) (api.File, [][2]int) {
	t.Helper()
	f, skipped, e := merge.Facts(d)
	if e != api.OK || !fact.Valid(f) {
		t.Fatal(f, e)
	}
	return f, skipped
}

func filing(f, kind, at int, sources ...int) api.Filing {
	return api.Filing{Fact: f, Kind: kind, Says: says, At: at, Sources: sources}
}

func slip(relay, edition int, text string) api.Slip {
	return api.Slip{Relay: relay, Story: 3, Edition: edition, Digest: strings.Repeat(text, 32)}
}

func until(n int) api.Label {
	l := label.None()
	l.Until = n
	return l
}

// random is a desk that has filed, labelled and noted something.
func random(t *testing.T, r *rand.Rand, id int) api.Desk {
	t.Helper()
	d := desk(t, id)
	at := 0
	for range r.Intn(9) {
		at += r.Intn(4)
		x := filing(r.Intn(2), 1+r.Intn(5), at, [][]int{{0}, {2}, {0, 5}}[r.Intn(3)]...)
		x.Says.Who = r.Intn(2)
		k, e := merge.File(d, x)
		d = must(t, k, e)
		l := until(r.Intn(9))
		l.Events = []int{1, 2}[:r.Intn(3)]
		k, e = merge.Tag(d, r.Intn(3), l)
		d = must(t, k, e)
		k, e = merge.Note(d, slip(r.Intn(3), 1+r.Intn(3), "x"))
		d = must(t, k, e)
	}
	return d
}

func same(a, b api.Desk) bool {
	a.ID = b.ID
	return merge.Same(a, b)
}

func TestP36_1Examples(t *testing.T) {
	a, b := desk(t, 0, filing(3, api.VAssert, 5, 0)), desk(t, 1, filing(3, api.VAssert, 7, 2))
	f, skipped := facts(t, joined(t, a, b))
	want := []api.Version{{Fact: 3, Number: 1, Kind: api.VAssert, Says: says, At: 5, Sources: []int{0}}, {Fact: 3, Number: 2, Kind: api.VCorrect, Says: says, At: 7, Sources: []int{0, 2}}}
	if !reflect.DeepEqual(f.Versions, want) || len(skipped) != 0 {
		t.Error(f, skipped)
	}
	a, b = desk(t, 0, filing(3, api.VAssert, 5, 0), filing(3, api.VCorrect, 9, 0)), desk(t, 1, filing(3, api.VAssert, 7, 2), filing(3, api.VKill, 8))
	f, skipped = facts(t, joined(t, a, b))
	if len(f.Versions) != 3 || f.Versions[2].Kind != api.VKill || !slices.Equal(skipped, [][2]int{{0, 2}}) {
		t.Error(f, skipped)
	}
	f, skipped = facts(t, desk(t, 0, filing(4, api.VDispute, 5, 0)))
	if len(f.Versions) != 0 || !slices.Equal(skipped, [][2]int{{0, 1}}) {
		t.Error(f, skipped)
	}
	x := filing(3, api.VAssert, 5, 0)
	x.Desk, x.Number = 3, 77
	if d := desk(t, 2, x); d.Filings[0].Desk != 2 || d.Filings[0].Number != 1 {
		t.Error(d)
	}
}

func TestP36_1Kinds(t *testing.T) {
	other := filing(3, api.VCorrect, 6, 2)
	other.Says.Who = 4
	for i, c := range []struct {
		l     []api.Filing
		kinds []int
	}{
		{[]api.Filing{filing(3, api.VCorrect, 5, 0)}, []int{1}},
		{[]api.Filing{filing(3, api.VAssert, 5, 0), other}, []int{1, 2}},
		{[]api.Filing{filing(3, api.VAssert, 5, 0), filing(3, api.VDispute, 5, 2), filing(3, api.VWithdraw, 6), filing(3, api.VDispute, 6, 2), filing(3, api.VWithdraw, 6), filing(3, api.VCorrect, 7, 2)}, []int{1, 3, 4, 1}},
		{[]api.Filing{filing(3, api.VAssert, 5, 0), filing(3, api.VWithdraw, 6), filing(3, api.VKill, 6), filing(3, api.VAssert, 7, 0)}, []int{1, 4, 5}},
		{[]api.Filing{filing(3, api.VKill, 6)}, nil},
		{append(slices.Repeat([]api.Filing{filing(3, api.VAssert, 5, 0)}, 9), filing(3, api.VKill, 6), filing(3, api.VKill, 6)), []int{1, 2, 2, 2, 2, 2, 2, 5}},
	} {
		f, skipped := facts(t, desk(t, 0, c.l...))
		var kinds []int
		for _, v := range f.Versions {
			kinds = append(kinds, v.Kind)
		}
		if !slices.Equal(kinds, c.kinds) || len(skipped)+len(kinds) != len(c.l) {
			t.Error(i, kinds, skipped)
		}
	}
	f, _ := facts(t, desk(t, 0, filing(3, api.VAssert, 5, 0), other))
	if !slices.Equal(f.Versions[1].Sources, []int{2}) || f.Versions[1].Says != other.Says {
		t.Error(f)
	}
}

func TestP36_1Errors(t *testing.T) {
	good := func() api.Desk {
		d := desk(t, 0, filing(3, api.VAssert, 5, 0), filing(3, api.VKill, 6))
		d, e := merge.Tag(d, 4, until(5))
		d, e = merge.Note(must(t, d, e), slip(1, 1, "x"))
		return must(t, d, e)
	}
	for i, change := range []func(d *api.Desk){
		func(d *api.Desk) { d.ID = 4 }, func(d *api.Desk) { d.ID = -1 }, func(d *api.Desk) { d.Sources[0].Kind = 0 }, func(d *api.Desk) { d.Filings[0].Desk = 4 }, func(d *api.Desk) { d.Filings[0].Number = 2 }, func(d *api.Desk) { d.Filings[1].Number = 3 }, func(d *api.Desk) { d.Filings[0].Fact = 16 }, func(d *api.Desk) { d.Filings[0].Kind = 0 }, func(d *api.Desk) { d.Filings[0].Kind = 6 },
		func(d *api.Desk) { d.Filings[0].Says.Who = 20 }, func(d *api.Desk) { d.Filings[0].At = 7 }, func(d *api.Desk) { d.Filings[0].At = -1 }, func(d *api.Desk) { d.Filings[1].At = api.MaxTime + 1 }, func(d *api.Desk) { d.Filings[0].Sources = nil }, func(d *api.Desk) { d.Filings[0].Sources = []int{1} }, func(d *api.Desk) { d.Filings[0].Sources = []int{2, 0} }, func(d *api.Desk) { d.Filings[0], d.Filings[1] = d.Filings[1], d.Filings[0] },
		func(d *api.Desk) { d.Labels[0].Story = 20 }, func(d *api.Desk) { d.Labels[0].Label.Until = -1 }, func(d *api.Desk) { d.Labels = append(d.Labels, d.Labels[0]) }, func(d *api.Desk) { d.Slips[0].Digest = "" }, func(d *api.Desk) { d.Slips = append(d.Slips, d.Slips[0]) }, func(d *api.Desk) { d.Slips = append(d.Slips, slip(1, 1, "y")) },
	} {
		d := good()
		change(&d)
		_, a := merge.File(d, filing(1, 1, 50, 0))
		_, b := merge.Tag(d, 1, label.None())
		_, c := merge.Note(d, slip(2, 1, "x"))
		_, f := merge.Merge(d, good())
		_, g := merge.Merge(good(), d)
		_, _, h := merge.Facts(d)
		l, k := merge.Label(d, 4)
		if merge.Valid(d) || a != api.ErrMerge || b != api.ErrMerge || c != api.ErrMerge || f != api.ErrMerge || g != api.ErrMerge || h != api.ErrMerge || k != api.ErrMerge || l.Territories != 0 {
			t.Error(i, a, b, c, f, g, h, k)
		}
	}
	locks := label.None()
	for i := range 4 {
		locks.Locks = append(locks.Locks, api.Quorum{Need: 1, Keys: []int{i}})
	}
	lock := label.None()
	lock.Locks = []api.Quorum{{Need: 1, Keys: []int{9}}}
	locked, e := merge.Tag(good(), 4, locks)
	locked = must(t, locked, e)
	other, e := merge.Tag(desk(t, 1), 4, lock)
	other = must(t, other, e)
	twin := desk(t, 0, filing(9, api.VAssert, 5, 0))
	stranger, _ := merge.New(1, sources()[:1])
	noted, e := merge.Note(desk(t, 1), slip(1, 1, "y"))
	noted = must(t, noted, e)
	full := desk(t, 0, slices.Repeat([]api.Filing{filing(1, 1, 1, 0)}, 60)...)
	for i, f := range []func() (api.Desk, api.Errno){
		func() (api.Desk, api.Errno) { return merge.New(4, sources()) }, func() (api.Desk, api.Errno) { return merge.New(0, []api.Source{{}}) }, func() (api.Desk, api.Errno) { return merge.File(good(), filing(1, 1, 4, 0)) }, func() (api.Desk, api.Errno) { return merge.File(good(), filing(1, 1, 9)) }, func() (api.Desk, api.Errno) { return merge.File(full, filing(1, 1, 9, 0)) },
		func() (api.Desk, api.Errno) { return merge.Tag(good(), 20, label.None()) }, func() (api.Desk, api.Errno) { return merge.Tag(good(), 1, api.Label{Until: -1}) }, func() (api.Desk, api.Errno) { return merge.Tag(locked, 4, lock) }, func() (api.Desk, api.Errno) { return merge.Note(good(), slip(1, 1, "y")) }, func() (api.Desk, api.Errno) { return merge.Note(good(), slip(8, 1, "y")) },
		func() (api.Desk, api.Errno) { return merge.Merge(locked, other) }, func() (api.Desk, api.Errno) { return merge.Merge(good(), twin) }, func() (api.Desk, api.Errno) { return merge.Merge(good(), stranger) }, func() (api.Desk, api.Errno) { return merge.Merge(good(), noted) }, func() (api.Desk, api.Errno) { return merge.Merge(full, desk(t, 1, filing(1, 1, 1, 0))) },
	} {
		if d, e := f(); d.Sources != nil || e != api.ErrMerge {
			t.Error(i, e)
		}
	}
	for _, story := range []int{-1, 20} {
		if _, e := merge.Label(good(), story); e != api.ErrMerge {
			t.Error(story, e)
		}
	}
	if l, e := merge.Label(good(), 5); !label.Same(l, label.None()) || e != api.OK {
		t.Error(l, e)
	}
	if merge.Same(good(), twin) || !merge.Same(good(), good()) {
		t.Error("Same")
	}
}

func TestP36_2Merging(t *testing.T) {
	r := rand.New(rand.NewSource(1))
	for range 200 {
		a, b, c := random(t, r, 0), random(t, r, 1), random(t, r, 2)
		ab := joined(t, a, b)
		if !merge.Same(joined(t, a, a), a) || !merge.Same(joined(t, ab, b), ab) || !same(ab, joined(t, b, a)) || !same(joined(t, ab, c), joined(t, a, joined(t, b, c))) || ab.ID != 0 {
			t.Fatal(a, b, c)
		}
		for _, d := range []api.Desk{a, b} {
			for _, x := range d.Filings {
				if !slices.ContainsFunc(ab.Filings, func(y api.Filing) bool { return reflect.DeepEqual(x, y) }) {
					t.Fatal("a filing is lost", x)
				}
			}
		}
		if len(ab.Filings) != len(a.Filings)+len(b.Filings) {
			t.Fatal(ab)
		}
	}
}

func TestP36_3TheSameFacts(t *testing.T) {
	r := rand.New(rand.NewSource(2))
	for range 200 {
		a, b, c := random(t, r, 0), random(t, r, 1), random(t, r, 2)
		f, skipped := facts(t, joined(t, joined(t, a, b), c))
		g, others := facts(t, joined(t, joined(t, c, joined(t, b, c)), a))
		if !fact.Same(f, g) || !slices.Equal(skipped, others) || len(skipped)+len(f.Versions) != len(a.Filings)+len(b.Filings)+len(c.Filings) {
			t.Fatal(a, b, c)
		}
	}
}

func TestP36_4Kills(t *testing.T) {
	r := rand.New(rand.NewSource(3))
	for range 300 {
		d := joined(t, random(t, r, 0), random(t, r, 1))
		f, skipped := facts(t, d)
		for _, k := range d.Filings {
			if k.Kind != api.VKill {
				continue
			}
			before := slices.ContainsFunc(d.Filings, func(x api.Filing) bool {
				earlier := x.At < k.At || x.At == k.At && (x.Desk < k.Desk || x.Desk == k.Desk && x.Number < k.Number)
				return x.Fact == k.Fact && earlier && !slices.Contains(skipped, [2]int{x.Desk, x.Number})
			})
			if v, ok := fact.Newest(f, k.Fact, api.MaxTime); before && (!ok || v.Kind != api.VKill) {
				t.Fatal(d, v)
			}
		}
	}
}

func TestP36_5Standing(t *testing.T) {
	r := rand.New(rand.NewSource(4))
	for range 200 {
		a, b := desk(t, 0), desk(t, 1)
		want := map[int]bool{}
		for i := range 1 + r.Intn(7) {
			s := []int{0, 2, 5}[r.Intn(3)]
			want[s] = true
			d := []*api.Desk{&a, &b}[r.Intn(2)]
			k, e := merge.File(*d, filing(3, 1+r.Intn(2), i, s))
			*d = must(t, k, e)
		}
		f, _ := facts(t, joined(t, a, b))
		v, _ := fact.Newest(f, 3, api.MaxTime)
		if len(v.Sources) != len(want) {
			t.Fatal(v, want)
		}
	}
}

func TestP36_6Labels(t *testing.T) {
	r := rand.New(rand.NewSource(5))
	for range 200 {
		a, b := random(t, r, 0), random(t, r, 1)
		for story := range 4 {
			x, _ := merge.Label(a, story)
			y, _ := merge.Label(b, story)
			z, e := merge.Label(joined(t, a, b), story)
			if want, _ := label.Join(x, y); e != api.OK || !label.Same(z, want) || !label.Below(x, z) || !label.Below(y, z) {
				t.Fatal(x, y, z)
			}
		}
	}
}

func TestP36_7Slips(t *testing.T) {
	r := rand.New(rand.NewSource(6))
	for range 100 {
		var l []api.Slip
		for range r.Intn(8) {
			l = append(l, slip(r.Intn(3), 1+r.Intn(3), "x"))
		}
		note := func(id int, l []api.Slip) api.Desk {
			d := desk(t, id)
			for _, s := range l {
				k, e := merge.Note(d, s)
				d = must(t, k, e)
			}
			return d
		}
		mixed := slices.Clone(l)
		r.Shuffle(len(mixed), func(i, j int) { mixed[i], mixed[j] = mixed[j], mixed[i] })
		k := r.Intn(len(l) + 1)
		if !merge.Same(note(0, l), note(0, mixed)) || !merge.Same(note(0, l), joined(t, note(0, l[:k]), note(1, l[k:]))) {
			t.Fatal(l)
		}
	}
	a := desk(t, 0, filing(3, api.VAssert, 5, 0))
	b := joined(t, a, desk(t, 1))
	b.Filings[0].Sources[0], b.Sources[2].From[0] = 9, 9
	if !merge.Same(a, desk(t, 0, filing(3, api.VAssert, 5, 0))) {
		t.Error("a result shares memory with an argument")
	}
}

func TestP36_1Limits(t *testing.T) {
	l := []api.Source{{ID: 0, Kind: api.SNamed}, {ID: 11, Kind: api.SNamed}}
	d, e := merge.New(3, l)
	d = must(t, d, e)
	for range 60 {
		d, e = merge.File(d, filing(15, api.VAssert, api.MaxTime, 0, 11))
		d = must(t, d, e)
	}
	for _, story := range []int{0, 19} {
		d, e = merge.Tag(d, story, until(7))
		d = must(t, d, e)
		if k, e := merge.Label(d, story); !label.Same(k, until(7)) || e != api.OK {
			t.Error(story, k, e)
		}
	}
	if f, skipped := facts(t, d); len(f.Versions) != 7 || len(skipped) != 53 {
		t.Error(f, skipped)
	}
}
