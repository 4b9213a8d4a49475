package archive_test

import (
	"math/rand"
	"reflect"
	"slices"
	"strings"
	"testing"

	"newswire/api"
	"newswire/archive"
	"newswire/digest"
	"newswire/fact"
	"newswire/label"
	"newswire/standing"
)

var reader = api.Reader{}

func entry(at, story, edition, until int, facts ...int) api.Archived {
	x := api.Archived{At: at, Story: story, Edition: edition, Language: 1, Copy: api.Printed{Text: "a b c d"}, Label: label.None()}
	x.Label.Until = until
	for i, f := range facts {
		x.Copy.Spans = append(x.Copy.Spans, api.Span{Node: 2 + i, From: i, To: i + 1, Fact: f, Version: 1})
	}
	return x
}

func of(t *testing.T, l ...api.Archived) api.Archive {
	t.Helper()
	var a api.Archive
	for _, x := range l {
		var e api.Errno
		if a, e = archive.Add(a, x); e != api.OK || !archive.Valid(a) {
			t.Fatal(x, e)
		}
	}
	return a
}

func example(t *testing.T) api.Archive {
	return of(t, entry(10, 4, 1, 0, 3), entry(20, 4, 2, 50, 3))
}

func now(at int) api.Moment { return api.Moment{Now: at} }

func some(r *rand.Rand, at int) api.Archived {
	x := entry(at, r.Intn(3), at+1, r.Intn(2)*r.Intn(60), r.Intn(4), r.Intn(4))
	x.Language = 1 + r.Intn(2)
	if r.Intn(4) == 0 {
		x.Label.Events = []int{1}
	}
	return x
}

func random(t *testing.T, r *rand.Rand) api.Archive {
	t.Helper()
	var l []api.Archived
	for i := range r.Intn(12) {
		l = append(l, some(r, 3*i))
	}
	return of(t, l...)
}

func file() api.File {
	says := api.Statement{Whom: -1, From: -1, To: -1}
	return api.File{Sources: []api.Source{{ID: 0, Kind: api.SNamed}, {ID: 1, Kind: api.SNamed}}, Versions: []api.Version{
		{Fact: 3, Number: 1, Kind: api.VAssert, Says: says, At: 5, Sources: []int{0}},
		{Fact: 3, Number: 2, Kind: api.VCorrect, Says: says, At: 15, Sources: []int{0, 1}},
	}}
}

var rules = api.Rules{Flat: 2, Attributed: 1}

func TestP35_1Examples(t *testing.T) {
	a := example(t)
	if _, ok := archive.On(a, 4, 1, 9, reader, now(60)); ok {
		t.Error("before it was on the wire")
	}
	for _, c := range [][3]int{{10, 60, 1}, {30, 40, 1}, {30, 60, 2}} {
		if x, ok := archive.On(a, 4, 1, c[0], reader, now(c[1])); !ok || x.Edition != c[2] {
			t.Error(c, x, ok)
		}
	}
	if l := archive.Stating(a, 3, 30, reader, now(40)); !slices.Equal(l, []int{0}) {
		t.Error(l)
	}
	if l := archive.Stating(a, 2, 30, reader, now(40)); len(l) != 0 {
		t.Error(l)
	}
	for i, x := range []api.Archived{entry(20, 4, 2, 0), entry(15, 5, 1, 0)} {
		if b, e := archive.Add(a, x); b.Entries != nil || e != api.ErrArchive {
			t.Error(i, e)
		}
	}
	if g, e := archive.Authority(a, 0, file(), rules); !reflect.DeepEqual(g, []api.Grant{{Node: 2, Fact: 3, Version: 1, Standing: api.SAttributed, Source: 0, Sources: []int{0}}}) || e != api.OK {
		t.Error(g, e)
	}
	if g, e := archive.Authority(a, 1, file(), rules); !reflect.DeepEqual(g, []api.Grant{{Node: 2, Fact: 3, Version: 1, Standing: api.SFlat, Source: -1, Sources: []int{0}}}) || e != api.OK {
		t.Error(g, e)
	}
	if archive.Find(a, 4, 2, 30, reader, now(60)) != -1 || archive.Find(a, 5, 1, 30, reader, now(60)) != -1 {
		t.Error("another story or language")
	}
}

func TestP35_1Errors(t *testing.T) {
	for i, change := range []func(x *api.Archived){
		func(x *api.Archived) { x.At = -1 }, func(x *api.Archived) { x.At = api.MaxTime + 1 }, func(x *api.Archived) { x.Story = -1 }, func(x *api.Archived) { x.Story = 100 }, func(x *api.Archived) { x.Edition = 0 }, func(x *api.Archived) { x.Edition = 1001 }, func(x *api.Archived) { x.Language = 0 }, func(x *api.Archived) { x.Language = 4 },
		func(x *api.Archived) { x.Copy.Text = "a  b c d" }, func(x *api.Archived) { x.Copy.Spans[0].To = 9 }, func(x *api.Archived) { x.Copy.Text = "a b " + strings.Repeat("x", 4000) }, func(x *api.Archived) { x.Label.Until = -1 },
	} {
		x := entry(10, 4, 1, 0, 3)
		change(&x)
		a := api.Archive{Entries: []api.Archived{x}}
		s, b := archive.Encode(x)
		_, c := archive.Add(api.Archive{}, x)
		_, d := archive.Add(a, entry(30, 5, 1, 0))
		_, e := archive.Authority(a, 0, file(), rules)
		h, f := archive.Head(a)
		_, g := archive.Prove(a, 0)
		_, k := archive.Grown(a, 0)
		_, ok := archive.On(a, 4, 1, 30, reader, now(60))
		if archive.Valid(a) || s != "" || h != "" || ok || b != api.ErrArchive || c != api.ErrArchive || d != api.ErrArchive || e != api.ErrArchive || f != api.ErrArchive || g != api.ErrArchive || k != api.ErrArchive || archive.Find(a, 4, 1, 30, reader, now(60)) != -1 || archive.Stating(a, 3, 30, reader, now(60)) != nil || archive.Check(digest.Leaf(s), 1, 0, x, nil) {
			t.Error(i)
		}
	}
	a := example(t)
	for i, f := range []func() ([]api.Grant, api.Errno){
		func() ([]api.Grant, api.Errno) { return archive.Authority(a, -1, file(), rules) }, func() ([]api.Grant, api.Errno) { return archive.Authority(a, 2, file(), rules) }, func() ([]api.Grant, api.Errno) { return archive.Authority(a, 0, file(), api.Rules{}) },
		func() ([]api.Grant, api.Errno) {
			return archive.Authority(of(t, entry(1, 1, 1, 0)), 0, api.File{Sources: []api.Source{{}}}, rules)
		},
	} {
		if g, e := f(); g != nil || e != api.ErrArchive {
			t.Error(i, e)
		}
	}
	if g, e := archive.Authority(of(t, entry(1, 1, 1, 0)), 0, file(), api.Rules{}); len(g) != 0 || e != api.OK {
		t.Error("no spans", e)
	}
	for _, i := range []int{-1, 3} {
		if p, e := archive.Grown(a, i); p != nil || e != api.ErrArchive {
			t.Error(i, e)
		}
	}
	if p, e := archive.Prove(a, 2); p != nil || e != api.ErrArchive {
		t.Error(e)
	}
	var many []api.Archived
	for i := range 60 {
		many = append(many, entry(i, 1, i+1, 0))
	}
	if _, e := archive.Add(of(t, many...), entry(60, 1, 61, 0)); e != api.ErrArchive {
		t.Error("61 entries", e)
	}
	if archive.Same(a, api.Archive{}) || !archive.Same(a, example(t)) || archive.Same(of(t, entry(1, 1, 1, 0)), of(t, entry(1, 1, 1, 1))) {
		t.Error("Same")
	}
}

func TestP35_2WhatWas(t *testing.T) {
	r := rand.New(rand.NewSource(1))
	for range 200 {
		a := random(t, r)
		x := some(r, 40)
		b, e := archive.Add(a, x)
		if e != api.OK {
			t.Fatal(e)
		}
		for at := range 40 {
			m := api.Moment{Now: r.Intn(80), Events: []int{1}[:r.Intn(2)]}
			p, ok := archive.On(a, 1, 1, at, reader, m)
			q, okay := archive.On(b, 1, 1, at, reader, m)
			if ok != okay || !reflect.DeepEqual(p, q) || !slices.Equal(archive.Stating(a, 2, at, reader, m), archive.Stating(b, 2, at, reader, m)) {
				t.Fatal(a, at)
			}
		}
		for i := range a.Entries {
			p, _ := archive.Authority(a, i, file(), rules)
			if q, e := archive.Authority(b, i, file(), rules); e != api.OK || !reflect.DeepEqual(p, q) {
				t.Fatal(i)
			}
		}
	}
}

func TestP35_3TheLastOne(t *testing.T) {
	r := rand.New(rand.NewSource(2))
	for range 500 {
		a := random(t, r)
		story, language, at, m := r.Intn(3), 1+r.Intn(2), r.Intn(40), api.Moment{Now: r.Intn(80)}
		last := -1
		for i, x := range a.Entries {
			if x.Story == story && x.Language == language && x.At <= at && label.Open(x.Label, reader, m) {
				last = i
			}
		}
		if archive.Find(a, story, language, at, reader, m) != last {
			t.Fatal(a, last)
		}
		if x, ok := archive.On(a, story, language, at, reader, m); ok != (last >= 0) || ok && !reflect.DeepEqual(x, a.Entries[last]) {
			t.Fatal(x)
		}
		var want []int
		for story := range 3 {
			for language := 1; language <= 2; language++ {
				i := archive.Find(a, story, language, at, reader, m)
				if i >= 0 && slices.ContainsFunc(a.Entries[i].Copy.Spans, func(s api.Span) bool { return s.Fact == 2 }) {
					want = append(want, i)
				}
			}
		}
		slices.Sort(want)
		if l := archive.Stating(a, 2, at, reader, m); !slices.Equal(l, want) {
			t.Fatal(l, want)
		}
	}
}

func TestP35_4Proofs(t *testing.T) {
	r := rand.New(rand.NewSource(3))
	for range 100 {
		a := random(t, r)
		head, e := archive.Head(a)
		if e != api.OK {
			t.Fatal(e)
		}
		for i, x := range a.Entries {
			p, e := archive.Prove(a, i)
			if e != api.OK || !archive.Check(head, len(a.Entries), i, x, p) {
				t.Fatal(e)
			}
			y := x
			y.At++
			if archive.Check(head, len(a.Entries), i, y, p) || archive.Check(head, len(a.Entries), i+1, x, p) {
				t.Fatal("another entry is accepted")
			}
		}
	}
	seen := map[string]api.Archived{}
	for range 500 {
		x := some(r, r.Intn(5))
		s, e := archive.Encode(x)
		if y, ok := seen[s]; e != api.OK || ok && !reflect.DeepEqual(x, y) {
			t.Fatal("two entries have the same encoding")
		}
		seen[s] = x
	}
}

func TestP35_5Growth(t *testing.T) {
	r := rand.New(rand.NewSource(4))
	for range 100 {
		a := random(t, r)
		m := len(a.Entries)
		head, _ := archive.Head(a)
		for n := range m + 1 {
			old, _ := archive.Head(api.Archive{Entries: a.Entries[:n]})
			p, e := archive.Grown(a, n)
			if e != api.OK || !archive.CheckGrown(old, n, head, m, p) {
				t.Fatal(n, e)
			}
			if n < 2 {
				continue
			}
			k := r.Intn(n - 1)
			less := api.Archive{Entries: slices.Delete(slices.Clone(a.Entries), k, k+1)}
			root, _ := archive.Head(less)
			q, e := archive.Grown(less, n-1)
			if e != api.OK || archive.CheckGrown(old, n, root, m-1, q) || archive.CheckGrown(old, n, root, m-1, p) {
				t.Fatal("an archive that lacks an entry is accepted")
			}
		}
	}
}

func TestP35_6Authority(t *testing.T) {
	a := example(t)
	early, _ := fact.AsOf(file(), 10)
	for i, f := range []api.File{early, file()} {
		g, e := archive.Authority(a, 0, f, rules)
		s, _ := standing.Of(f, rules, 3, 10)
		if e != api.OK || g[0].Standing != s.Kind || g[0].Source != s.Source || !slices.Equal(g[0].Sources, []int{0}) {
			t.Error(i, g, e)
		}
	}
	later := of(t, entry(1, 1, 1, 0, 3))
	if g, e := archive.Authority(later, 0, file(), rules); e != api.OK || len(g[0].Sources) != 0 || g[0].Standing != api.SNone || g[0].Source != -1 {
		t.Error(g, e)
	}
}

func TestP35_7Embargoes(t *testing.T) {
	r := rand.New(rand.NewSource(5))
	for range 300 {
		a := random(t, r)
		at, m := r.Intn(40), api.Moment{Now: r.Intn(60)}
		i := slices.IndexFunc(a.Entries, func(x api.Archived) bool { return !label.Open(x.Label, reader, m) })
		if i < 0 {
			continue
		}
		b := api.Archive{Entries: slices.Delete(slices.Clone(a.Entries), i, i+1)}
		p, ok := archive.On(a, 1, 1, at, reader, m)
		q, okay := archive.On(b, 1, 1, at, reader, m)
		l := archive.Stating(a, 2, at, reader, m)
		for k := range l {
			if l[k] > i {
				l[k]--
			}
		}
		if ok != okay || !reflect.DeepEqual(p, q) || !slices.Equal(l, archive.Stating(b, 2, at, reader, m)) {
			t.Fatal(a, i)
		}
	}
	a := example(t)
	x, _ := archive.On(a, 4, 1, 10, reader, now(60))
	x.Copy.Spans[0].Fact = 9
	if a.Entries[0].Copy.Spans[0].Fact != 3 {
		t.Error("a result shares memory with an argument")
	}
}

func TestP35_1Limits(t *testing.T) {
	x := entry(api.MaxTime, 99, 1000, 0)
	x.Language, x.Copy.Text = 3, strings.Repeat("x", 4000)
	a := of(t, entry(0, 0, 1, 0), x)
	if y, ok := archive.On(a, 99, 3, api.MaxTime, reader, now(0)); !ok || y.Edition != 1000 {
		t.Error(ok)
	}
	if b := of(t, entry(5, 1, 1, 0), entry(5, 1, 2, 0)); archive.Find(b, 1, 1, 5, reader, now(0)) != 1 {
		t.Error("two at the same minute")
	}
	bad := entry(1, 1, 1, 0)
	bad.Copy.Text = ""
	if _, e := archive.Add(api.Archive{Entries: []api.Archived{{}}}, entry(1, 1, 1, 0)); e != api.ErrArchive {
		t.Error("an archive that is not valid", e)
	}
	var many []api.Archived
	for i := range 60 {
		many = append(many, entry(i, 1, i+1, 0))
	}
	if a := of(t, many...); len(a.Entries) != 60 {
		t.Error("60 entries")
	}
}
