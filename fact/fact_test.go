package fact_test

import (
	"math/rand"
	"reflect"
	"slices"
	"testing"

	"newswire/api"
	"newswire/fact"
	"newswire/wire"
)

func people(n int) api.Statement {
	return api.Statement{Who: 1, What: 2, Whom: -1, Count: api.Amount{Lo: n, Hi: n, Unit: api.UPeople}, From: 5, To: 8}
}

func version(f, number, kind, at int, says api.Statement) api.Version {
	return api.Version{Fact: f, Number: number, Kind: kind, Says: says, At: at, Sources: []int{0}}
}

func example() api.File {
	return api.File{Sources: []api.Source{{ID: 0, Kind: api.SNamed}}, Versions: []api.Version{
		version(3, 1, api.VAssert, 10, people(20)),
		version(3, 2, api.VCorrect, 30, people(25)),
	}}
}

// some returns a file of random versions.
func some(r *rand.Rand) api.File {
	f := api.File{Sources: []api.Source{{ID: 0, Kind: api.SNamed}, {ID: 4, Kind: api.SWithheld, From: []int{0}}}}
	for range r.Intn(30) {
		id := r.Intn(3)
		v := version(id, 1, 1+r.Intn(5), r.Intn(10), people(r.Intn(3)))
		v.Says.From += r.Intn(2)
		if last, ok := fact.Newest(f, id, api.MaxTime); ok {
			v.Number, v.At = last.Number+1, last.At+r.Intn(5)
			if v.Kind >= api.VDispute {
				v.Says = last.Says
			}
		}
		if more, e := fact.Add(f, v); e == api.OK {
			f = more
		}
	}
	return f
}

func TestP8_1Statement(t *testing.T) {
	s := people(3)
	if !fact.ValidStatement(s) {
		t.Fatal("not valid")
	}
	for i, change := range []func(s *api.Statement){
		func(s *api.Statement) { s.Who = -1 }, func(s *api.Statement) { s.Who = 20 }, func(s *api.Statement) { s.What = 10 }, func(s *api.Statement) { s.What = -1 },
		func(s *api.Statement) { s.Whom = -2 }, func(s *api.Statement) { s.Whom = 20 }, func(s *api.Statement) { s.Count.Lo = 9 }, func(s *api.Statement) { s.Count.Unit = 8 },
		func(s *api.Statement) { s.From = -1 }, func(s *api.Statement) { s.To = 4 }, func(s *api.Statement) { s.To = api.MaxTime + 1 }, func(s *api.Statement) { s.From, s.To = -2, -2 },
	} {
		u := s
		change(&u)
		if fact.ValidStatement(u) {
			t.Error(i, u)
		}
	}
	s.From, s.To, s.Count = -1, -1, api.Amount{}
	if !fact.ValidStatement(s) {
		t.Error(s)
	}
}

func TestP8_1Valid(t *testing.T) {
	if !fact.Valid(example()) || !fact.Valid(api.File{}) {
		t.Fatal("not valid")
	}
	four := example()
	four.Sources = []api.Source{{ID: 0, Kind: 1}, {ID: 1, Kind: 1}, {ID: 2, Kind: 1}, {ID: 3, Kind: 1}, {ID: 4, Kind: 2, From: []int{0, 1, 2, 3}}}
	if !fact.Valid(four) {
		t.Error("a source with four that it quotes is not valid")
	}
	for i, change := range []func(f *api.File){
		func(f *api.File) { f.Sources[0].ID = 12 }, func(f *api.File) { f.Sources[0].Kind = 0 }, func(f *api.File) { f.Sources[0].From = []int{0} }, func(f *api.File) { f.Sources[0].From = []int{1} },
		func(f *api.File) { f.Sources = append(f.Sources, f.Sources[0]) }, func(f *api.File) { f.Sources = nil },
		func(f *api.File) { f.Versions[0].Fact = 4 }, func(f *api.File) { f.Versions[0].Fact, f.Versions[1].Fact = 16, 16 }, func(f *api.File) { f.Versions[1].Number = 3 }, func(f *api.File) { f.Versions[0].Number = 0 },
		func(f *api.File) { f.Versions[0].Kind = api.VCorrect }, func(f *api.File) { f.Versions[1].Kind = api.VAssert }, func(f *api.File) { f.Versions[1].Kind = 6 }, func(f *api.File) { f.Versions[1].Kind = api.VDispute },
		func(f *api.File) { f.Versions[1].At = 9 }, func(f *api.File) { f.Versions[1].At = api.MaxTime + 1 }, func(f *api.File) { f.Versions[0].Says.Who = 20 },
		func(f *api.File) { f.Versions[0].Sources = nil }, func(f *api.File) { f.Versions[0].Sources = []int{0, 0} }, func(f *api.File) { f.Versions[0].Sources = []int{1} },
		func(f *api.File) {
			f.Versions[0], f.Versions[1] = f.Versions[1], f.Versions[0]
		},
	} {
		f := example()
		change(&f)
		if fact.Valid(f) {
			t.Error(i, f)
		}
		if g, e := fact.Add(f, version(5, 1, 1, 1, people(1))); e != api.ErrFact || g.Versions != nil {
			t.Error(i, "Add", e)
		}
		if _, e := fact.AsOf(f, 100); e != api.ErrFact {
			t.Error(i, "AsOf", e)
		}
		if _, ok := fact.Newest(f, 3, 100); ok || fact.Told(f, 3, 100) != nil || fact.In(f, 6, 100) != nil {
			t.Error(i, "what is not valid tells something")
		}
	}
}

func TestP8_1Examples(t *testing.T) {
	f := example()
	for _, c := range [][2]int{{9, 0}, {10, 1}, {29, 1}, {30, 2}, {1 << 62, 2}} {
		if v, ok := fact.Newest(f, 3, c[0]); v.Number != c[1] || ok != (c[1] > 0) {
			t.Error(c, v, ok)
		}
	}
	if l := fact.In(f, 6, 40); len(l) != 1 || l[0].Number != 2 || len(fact.In(f, 9, 40)) != 0 || len(fact.In(f, 4, 40)) != 0 {
		t.Error(l)
	}
	killed, e := fact.Add(f, version(3, 3, api.VKill, 50, people(25)))
	if e != api.OK || len(fact.In(killed, 6, 50)) != 0 || len(fact.In(killed, 6, 49)) != 1 {
		t.Error(e)
	}
	if _, e := fact.Add(killed, version(3, 4, api.VAssert, 60, people(25))); e != api.ErrFact {
		t.Error("after a kill", e)
	}
	if _, e := fact.Add(f, version(3, 3, api.VKill, 50, people(26))); e != api.ErrFact {
		t.Error("another statement", e)
	}
	if _, e := fact.Add(f, version(3, 2, api.VCorrect, 50, people(26))); e != api.ErrFact {
		t.Error("an old number", e)
	}
	if fact.Same(f, killed) || !fact.Same(f, example()) || fact.Same(f, api.File{Versions: f.Versions}) {
		t.Error("Same")
	}
}

func TestP8_1Memory(t *testing.T) {
	f := example()
	g, _ := fact.Add(f, version(3, 3, api.VKill, 50, people(25)))
	g.Versions[0].Sources[0], g.Versions[0].At = 7, 7
	h, _ := fact.AsOf(f, 100)
	h.Versions[0].Sources[0] = 7
	fact.Told(f, 3, 100)[0].Sources[0] = 7
	fact.In(f, 6, 100)[0].Sources[0] = 7
	if !fact.Same(f, example()) {
		t.Error("a result shares memory with an argument")
	}
}

func TestP8_2WhatWasSaidStays(t *testing.T) {
	r := rand.New(rand.NewSource(1))
	for range 300 {
		f := some(r)
		last, ok := fact.Newest(f, 1, api.MaxTime)
		v := version(1, last.Number+1, api.VCorrect, last.At+1, people(9))
		if !ok {
			v.Kind = api.VAssert
		}
		g, e := fact.Add(f, v)
		if e != api.OK {
			continue
		}
		for w := range 60 {
			if w < v.At && !reflect.DeepEqual(fact.In(f, 6, w), fact.In(g, 6, w)) || w < v.At && !reflect.DeepEqual(fact.Told(f, 1, w), fact.Told(g, 1, w)) || !reflect.DeepEqual(fact.Told(f, 2, w), fact.Told(g, 2, w)) {
				t.Fatal(f, v, w)
			}
		}
	}
}

func TestP8_3AsOf(t *testing.T) {
	r := rand.New(rand.NewSource(2))
	for range 200 {
		f, w := some(r), r.Intn(40)
		g, e := fact.AsOf(f, w)
		if e != api.OK || !fact.Valid(g) || !reflect.DeepEqual(fact.In(f, 6, w), fact.In(g, 6, w+9)) || !reflect.DeepEqual(fact.Told(f, 1, w), fact.Told(g, 1, w+9)) {
			t.Fatal(f, w)
		}
		u := r.Intn(40)
		h, _ := fact.AsOf(g, u)
		if k, _ := fact.AsOf(f, min(u, w)); !fact.Same(h, k) {
			t.Fatal(f, u, w)
		}
	}
}

func TestP8_4Order(t *testing.T) {
	r := rand.New(rand.NewSource(3))
	for range 200 {
		f := some(r)
		g := api.File{Sources: f.Sources}
		l := slices.Clone(f.Versions)
		r.Shuffle(len(l), func(i, j int) { l[i], l[j] = l[j], l[i] })
		slices.SortStableFunc(l, func(a, b api.Version) int { return a.Number - b.Number })
		for _, v := range l {
			var e api.Errno
			if g, e = fact.Add(g, v); e != api.OK {
				t.Fatal(e)
			}
		}
		if !fact.Same(f, g) {
			t.Fatal(f, g)
		}
	}
}

func TestP8_5Ends(t *testing.T) {
	f := example()
	gone, e := fact.Add(f, version(3, 3, api.VWithdraw, 50, people(25)))
	if e != api.OK || len(fact.In(gone, 6, 50)) != 0 {
		t.Error(e)
	}
	for _, kind := range []int{api.VCorrect, api.VDispute, api.VWithdraw} {
		if _, e := fact.Add(gone, version(3, 4, kind, 60, people(25))); e != api.ErrFact {
			t.Error(kind, e)
		}
	}
	again, e := fact.Add(gone, version(3, 4, api.VAssert, 60, people(26)))
	if e != api.OK || len(fact.In(again, 6, 60)) != 1 {
		t.Error(e)
	}
	dead, e := fact.Add(gone, version(3, 4, api.VKill, 60, people(25)))
	if e != api.OK {
		t.Error(e)
	}
	for kind := range 7 {
		if _, e := fact.Add(dead, version(3, 5, kind, 70, people(25))); e != api.ErrFact {
			t.Error(kind, e)
		}
	}
	quiet := version(5, 1, api.VKill, 5, people(1))
	quiet.Sources = nil
	if _, e := fact.Add(f, quiet); e != api.ErrFact {
		t.Error("a kill of nothing")
	}
}

func TestP8_6Codes(t *testing.T) {
	r := rand.New(rand.NewSource(4))
	for range 100 {
		for _, v := range some(r).Versions {
			s, e := fact.Encode(v)
			w, next, f := fact.Decode("ab"+s+"cd", 2)
			if e != api.OK || f != api.OK || next != 2+len(s) || !reflect.DeepEqual(v, w) {
				t.Fatal(v, w, e, f)
			}
		}
	}
	v := version(-5, 100, -1, api.MaxInt, people(-2))
	s, _ := fact.Encode(v)
	if w, _, e := fact.Decode(s, 0); e != api.OK || !reflect.DeepEqual(v, w) {
		t.Error("a version that is not valid", w, e)
	}
	for i := range len(s) {
		if w, next, e := fact.Decode(s[:i], 0); e != api.ErrFact || next != 0 || w.Fact != 0 {
			t.Error(i, e)
		}
	}
	v.Sources = make([]int, 13)
	if s, e := fact.Encode(v); s != "" || e != api.ErrFact {
		t.Error("13 sources", e)
	}
	n, _ := wire.PutInt(13)
	long := s[:len(s)-2] + n
	for range 13 {
		long += "\x00"
	}
	if _, _, e := fact.Decode(long, 0); e != api.ErrFact {
		t.Error("13 sources are read")
	}
	if _, e := fact.Encode(api.Version{Fact: api.MaxInt + 1}); e != api.ErrFact {
		t.Error("too great a number")
	}
	for _, at := range []int{-1, 1 << 40} {
		if _, _, e := fact.Decode(s, at); e != api.ErrFact {
			t.Error("no offset", at)
		}
	}
}

func TestP8_1Limits(t *testing.T) {
	for _, s := range []api.Statement{{}, {Who: 19, What: 9, Whom: 19, From: api.MaxTime, To: api.MaxTime}, {Whom: -1, From: -1, To: -1}, {From: 0, To: api.MaxTime}} {
		if !fact.ValidStatement(s) {
			t.Error(s)
		}
	}
	v := version(15, 1, api.VAssert, api.MaxTime, people(1))
	f := api.File{Sources: []api.Source{{ID: 0, Kind: 1}, {ID: 11, Kind: 2, From: []int{0}}}, Versions: []api.Version{v}}
	f.Versions[0].Sources = []int{0, 11}
	for n := 2; n <= 8; n++ {
		f.Versions = append(f.Versions, version(15, n, api.VCorrect, api.MaxTime, people(n)))
	}
	if !fact.Valid(f) {
		t.Error("the greatest numbers")
	}
	f.Versions = append(f.Versions, version(15, 9, api.VCorrect, api.MaxTime, people(9)))
	if fact.Valid(f) {
		t.Error("nine versions")
	}
	early := api.File{Sources: f.Sources, Versions: []api.Version{version(0, 1, api.VAssert, 0, people(1))}}
	if g, e := fact.Add(early, version(0, 2, api.VCorrect, 0, people(2))); e != api.OK || len(g.Versions) != 2 {
		t.Error("at the same minute", e)
	}
	for world, n := range map[int]int{4: 0, 5: 1, 8: 1, 9: 0} {
		if l := fact.In(early, world, 0); len(l) != n {
			t.Error(world, l)
		}
	}
	early.Versions[0].Says.From, early.Versions[0].Says.To = -1, -1
	if len(fact.In(early, 1<<40, 0)) != 1 {
		t.Error("a fact without a time does not hold")
	}
	v.Sources = make([]int, 12)
	if s, e := fact.Encode(v); e != api.OK || s == "" {
		t.Error("12 sources", e)
	}
}
