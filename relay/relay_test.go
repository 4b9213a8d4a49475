package relay_test

import (
	"math/rand"
	"slices"
	"strconv"
	"strings"
	"testing"

	"newswire/api"
	"newswire/digest"
	"newswire/relay"
)

func must(t *testing.T, r api.Relay, e api.Errno) api.Relay {
	t.Helper()
	if e != api.OK || !relay.Valid(r) {
		t.Fatal(r, e)
	}
	return r
}

func put(t *testing.T, r api.Relay, l ...api.Dispatch) api.Relay {
	t.Helper()
	for _, d := range l {
		k, e := relay.Put(r, d)
		r = must(t, k, e)
	}
	return r
}

func tell(t *testing.T, r api.Relay) api.Packet {
	t.Helper()
	p, e := relay.Tell(r)
	if e != api.OK || p.From != r.ID {
		t.Fatal(p, e)
	}
	return p
}

func hear(t *testing.T, r api.Relay, l ...api.Packet) api.Relay {
	t.Helper()
	for _, p := range l {
		k, e := relay.Hear(r, p)
		r = must(t, k, e)
	}
	return r
}

func print(t *testing.T, r api.Relay) (api.Relay, []api.Dispatch) {
	t.Helper()
	k, l, e := relay.Print(r)
	return must(t, k, e), l
}

func dispatch(story, edition, class, bytes int) api.Dispatch {
	return api.Dispatch{Story: story, Edition: edition, Class: class, Text: strings.Repeat("x", bytes)}
}

// some is a dispatch of a story whose class and texts depend on nothing but its story and edition.
func some(r *rand.Rand) api.Dispatch {
	story, edition := r.Intn(6), 1+r.Intn(4)
	return api.Dispatch{Story: story, Edition: edition, Class: 1 + story%3, Text: strings.Repeat(strconv.Itoa(edition), 50*story)}
}

// random is a relay that has put and printed something.
func random(t *testing.T, r *rand.Rand, id int) api.Relay {
	t.Helper()
	k, e := relay.New(id, r.Intn(12))
	k = must(t, k, e)
	for range r.Intn(8) {
		k = put(t, k, some(r))
		if r.Intn(3) == 0 {
			k, _ = print(t, k)
		}
	}
	return k
}

func example(t *testing.T) api.Relay {
	r, e := relay.New(1, 3)
	return put(t, must(t, r, e), dispatch(4, 1, api.DTake, 150), dispatch(9, 2, api.DFlash, 20))
}

func TestP25_1Examples(t *testing.T) {
	r := example(t)
	want := []api.Dispatch{dispatch(9, 2, api.DFlash, 20), dispatch(4, 1, api.DTake, 150)}
	if l := relay.Waiting(r); !slices.Equal(l, want) {
		t.Error(l)
	}
	k, l := print(t, r)
	if !slices.Equal(l, want) || k.Paper != 0 || len(k.Slips) != 2 || k.Slips[0] != (api.Slip{Relay: 1, Story: 4, Edition: 1, Digest: digest.Sum(want[1].Text)}) {
		t.Error(k, l)
	}
	k = put(t, k, dispatch(4, 2, api.DTake, 10))
	if k, l := print(t, k); len(l) != 0 || k.Paper != 0 || len(relay.Waiting(k)) != 1 {
		t.Error(k, l)
	}
	if x, e := relay.Put(k, dispatch(4, 2, api.DFlash, 10)); x.Kept != nil || e != api.ErrRelay {
		t.Error(x, e)
	}
	if same := put(t, k, dispatch(4, 1, api.DTake, 3)); !relay.Same(same, k) {
		t.Error("an old edition changes something")
	}
	for bytes, pages := range map[int]int{0: 1, 99: 1, 100: 2, 20000: 201, 20001: 0} {
		if n := relay.Pages(dispatch(1, 1, 1, bytes)); n != pages {
			t.Error(bytes, n)
		}
	}
}

func TestP25_1Errors(t *testing.T) {
	ok := example(t)
	ok, _ = print(t, ok)
	packet := tell(t, ok)
	for i, d := range []api.Dispatch{{}, dispatch(-1, 1, 1, 1), dispatch(20, 1, 1, 1), dispatch(1, 0, 1, 1), dispatch(1, 1001, 1, 1), dispatch(1, 1, 0, 1), dispatch(1, 1, 4, 1), dispatch(1, 1, 1, 20001)} {
		_, e := relay.Put(ok, d)
		_, f := relay.Hear(ok, api.Packet{Kept: []api.Dispatch{d}})
		bad := ok
		bad.Kept = []api.Dispatch{d}
		if relay.Valid(bad) || relay.Pages(d) != 0 || e != api.ErrRelay || f != api.ErrRelay {
			t.Error(i, e, f)
		}
	}
	var many []api.Slip
	for i := range 401 {
		many = append(many, api.Slip{Relay: 2, Story: 1, Edition: 1 + i, Digest: strings.Repeat("d", 32)})
	}
	for i, change := range []func(r *api.Relay){
		func(r *api.Relay) { r.ID = 8 }, func(r *api.Relay) { r.ID = -1 }, func(r *api.Relay) { r.Paper = -1 }, func(r *api.Relay) { r.Paper = 10001 }, func(r *api.Relay) { r.Kept = append(r.Kept, r.Kept[0]) }, func(r *api.Relay) { r.Slips = many },
		func(r *api.Relay) { r.Slips[0].Relay = 8 }, func(r *api.Relay) { r.Slips[0].Story = 20 }, func(r *api.Relay) { r.Slips[0].Edition = 0 }, func(r *api.Relay) { r.Slips[0].Digest = "x" }, func(r *api.Relay) { r.Slips[0], r.Slips[1] = r.Slips[1], r.Slips[0] }, func(r *api.Relay) { r.Slips[1] = r.Slips[0] },
	} {
		r := ok
		r.Kept, r.Slips = slices.Clone(ok.Kept), slices.Clone(ok.Slips)
		change(&r)
		_, a := relay.Put(r, dispatch(1, 1, 1, 1))
		_, b := relay.Tell(r)
		_, c := relay.Hear(r, packet)
		_, _, d := relay.Print(r)
		_, e := relay.Refill(r, 10)
		_, f := relay.Hear(ok, api.Packet{From: r.ID, Kept: r.Kept, Slips: r.Slips})
		if relay.Valid(r) || relay.Waiting(r) != nil || a != api.ErrRelay || b != api.ErrRelay || c != api.ErrRelay || d != api.ErrRelay || e != api.ErrRelay || f != api.ErrRelay && r.Paper >= 0 && r.Paper <= 10000 {
			t.Error(i, a, b, c, d, e, f)
		}
	}
	for _, a := range [][2]int{{8, 1}, {-1, 1}, {1, -1}, {1, 10001}} {
		if r, e := relay.New(a[0], a[1]); r.Paper != 0 || e != api.ErrRelay {
			t.Error(a, e)
		}
	}
	full := ok
	full.Slips = many[:400]
	if _, e := relay.Hear(full, packet); e != api.ErrRelay {
		t.Error("more than 400 slips", e)
	}
	full.Paper = 10
	if _, _, e := relay.Print(full); e != api.ErrRelay {
		t.Error("more than 400 slips", e)
	}
	for _, pages := range []int{-1, 10001, 1<<63 - 1} {
		if r, e := relay.Refill(ok, pages); r.Kept != nil || e != api.ErrRelay {
			t.Error(pages, e)
		}
	}
	if r, e := relay.Refill(ok, 10000); r.Paper != 10000 || e != api.OK {
		t.Error(r.Paper, e)
	}
	if relay.Same(ok, example(t)) || !relay.Same(ok, ok) {
		t.Error("Same")
	}
}

func TestP25_2AllAgree(t *testing.T) {
	r := rand.New(rand.NewSource(1))
	for range 200 {
		a, b, c := random(t, r, 0), random(t, r, 1), random(t, r, 2)
		p, q := tell(t, b), tell(t, c)
		if !relay.Same(hear(t, a, p, q), hear(t, a, q, p, q)) || !relay.Same(hear(t, a, tell(t, hear(t, b, q))), hear(t, a, p, q)) {
			t.Fatal(a, b, c)
		}
		all := []api.Relay{a, b, c}
		for range 2 {
			for i := range all {
				for j := range all {
					all[j] = hear(t, all[j], tell(t, all[i]))
				}
			}
		}
		for _, x := range all[1:] {
			if !slices.Equal(x.Kept, all[0].Kept) || !slices.Equal(x.Slips, all[0].Slips) {
				t.Fatal(all)
			}
		}
	}
}

func TestP25_3NeverBack(t *testing.T) {
	r := rand.New(rand.NewSource(2))
	for range 300 {
		k := random(t, r, 0)
		before := k
		switch r.Intn(3) {
		case 0:
			k = put(t, k, some(r))
		case 1:
			k = hear(t, k, tell(t, random(t, r, 1)))
		case 2:
			k, _ = print(t, k)
		}
		for _, d := range before.Kept {
			if !slices.ContainsFunc(k.Kept, func(x api.Dispatch) bool { return x.Story == d.Story && x.Edition >= d.Edition }) {
				t.Fatal("a story is lost", d)
			}
		}
		for _, s := range before.Slips {
			if !slices.Contains(k.Slips, s) {
				t.Fatal("a slip is lost", s)
			}
		}
	}
}

func TestP25_4FlashesFirst(t *testing.T) {
	r := rand.New(rand.NewSource(3))
	for range 300 {
		k := random(t, r, 0)
		waits := relay.Waiting(k)
		if !slices.IsSortedFunc(waits, func(a, b api.Dispatch) int { return 100*(a.Class-b.Class) + a.Story - b.Story }) {
			t.Fatal(waits)
		}
		after, l := print(t, k)
		pages := 0
		for _, d := range l {
			pages += relay.Pages(d)
		}
		if k.Paper-after.Paper != pages || !slices.Equal(l, waits[:len(l)]) || len(l) < len(waits) && relay.Pages(waits[len(l)]) <= after.Paper {
			t.Fatal(k, l)
		}
	}
}

func TestP25_5Receipts(t *testing.T) {
	r := rand.New(rand.NewSource(4))
	for range 200 {
		k := random(t, r, 0)
		printed := map[[2]int]bool{}
		for _, s := range k.Slips {
			printed[[2]int{s.Story, s.Edition}] = true
		}
		for range 6 {
			k = put(t, k, some(r))
			more, e := relay.Refill(k, r.Intn(10))
			var l []api.Dispatch
			k, l = print(t, must(t, more, e))
			for _, d := range l {
				key := [2]int{d.Story, d.Edition}
				if printed[key] || !slices.Contains(k.Slips, api.Slip{Relay: 0, Story: d.Story, Edition: d.Edition, Digest: digest.Sum(d.Text)}) {
					t.Fatal(d)
				}
				printed[key] = true
			}
		}
		if len(k.Slips) != len(printed) {
			t.Fatal(k.Slips)
		}
	}
}

func TestP25_6Contradictions(t *testing.T) {
	a, b := example(t), example(t)
	b.ID = 2
	b.Kept = slices.Clone(b.Kept)
	b.Kept[0].Text = "other"
	if _, e := relay.Hear(a, tell(t, b)); e != api.ErrRelay {
		t.Error("different texts", e)
	}
	b.Kept[0] = dispatch(4, 7, api.DFlash, 1)
	if _, e := relay.Hear(a, tell(t, b)); e != api.ErrRelay {
		t.Error("different classes", e)
	}
	a, _ = print(t, a)
	c := a
	c.Slips = slices.Clone(a.Slips)
	c.Slips[0].Digest = digest.Sum("other")
	if _, e := relay.Hear(a, tell(t, c)); e != api.ErrRelay {
		t.Error("different slips", e)
	}
}

func TestP25_7Paper(t *testing.T) {
	r := rand.New(rand.NewSource(5))
	for range 200 {
		k := random(t, r, 0)
		k.Paper = 0
		x, y := r.Intn(15), r.Intn(15)
		a, e := relay.Refill(k, x)
		a, first := print(t, must(t, a, e))
		a, e = relay.Refill(a, y)
		a, second := print(t, must(t, a, e))
		b, e := relay.Refill(k, x+y)
		b, all := print(t, must(t, b, e))
		if !relay.Same(a, b) || !slices.Equal(append(first, second...), all) {
			t.Fatal(k, x, y)
		}
	}
}

func TestP25_1Limits(t *testing.T) {
	r := api.Relay{ID: 7, Paper: 10000, Kept: []api.Dispatch{dispatch(0, 1, 1, 0), dispatch(19, 1000, 3, 20000)}}
	for i := range 400 {
		r.Slips = append(r.Slips, api.Slip{Relay: 7, Story: 19, Edition: 1 + i, Digest: strings.Repeat("d", 32)})
	}
	r.Slips[399].Edition = 1000
	if !relay.Valid(r) || len(tell(t, r).Slips) != 400 {
		t.Error("the greatest relay")
	}
	for i, s := range []api.Slip{{Relay: 8, Story: 1, Edition: 1}, {Relay: -1, Story: 1, Edition: 1}, {Relay: 1, Story: 20, Edition: 1}, {Relay: 1, Story: -1, Edition: 1}, {Relay: 1, Story: 1, Edition: 1001}, {Relay: 1, Story: 1}} {
		s.Digest = strings.Repeat("d", 32)
		if relay.Valid(api.Relay{Slips: []api.Slip{s}}) {
			t.Error(i, s)
		}
	}
	for i, p := range []api.Packet{{From: 8}, {From: -1}, {Kept: []api.Dispatch{{}}}, {Slips: []api.Slip{{}}}} {
		if _, e := relay.Hear(example(t), p); e != api.ErrRelay {
			t.Error(i, e)
		}
	}
	for _, paper := range []int{-1, -5} {
		if _, e := relay.Refill(api.Relay{Paper: paper}, 10); e != api.ErrRelay {
			t.Error(paper, e)
		}
	}
}
