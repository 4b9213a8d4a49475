package flow_test

import (
	"math/rand"
	"slices"
	"strings"
	"testing"

	"newswire/api"
	"newswire/flow"
	"newswire/label"
)

var (
	reader  = api.Reader{}
	moments = []api.Moment{{Now: 10}, {Now: 11}, {Now: 12}}
	zeros   = strings.Repeat("\x00", 64)
)

func item(text string, at, class, until int) api.Item {
	l := label.None()
	l.Until = until
	return api.Item{At: at, Label: l, Class: class, Text: text}
}

func example() ([]api.Item, []api.Item) {
	b := []api.Item{item("rain", 10, api.DTake, 0)}
	return append([]api.Item{item("war", 10, api.DFlash, 100)}, b...), b
}

func some(r *rand.Rand) api.Item {
	x := item(strings.Repeat("x", 1+r.Intn(60)), r.Intn(30), 1+r.Intn(3), r.Intn(3)/2*r.Intn(40))
	if r.Intn(3) == 0 {
		x.Label.Events = []int{r.Intn(2)}
	}
	return x
}

func items(r *rand.Rand, n int) []api.Item {
	var l []api.Item
	for range r.Intn(n + 1) {
		l = append(l, some(r))
	}
	return l
}

func slots(r *rand.Rand) []api.Moment {
	var l []api.Moment
	for range 1 + r.Intn(30) {
		m := api.Moment{Now: len(l), Drift: r.Intn(2)}
		if r.Intn(2) == 0 {
			m.Events = []int{0}
		}
		l = append(l, m)
	}
	return l
}

func feed(t *testing.T, mode int, l []api.Item, m []api.Moment) []string {
	t.Helper()
	p, e := flow.Feed(mode, l, reader, m)
	if e != api.OK || len(p) != len(m) {
		t.Fatal(e)
	}
	return p
}

// release is the first slot in which x is open, or -1.
func release(x api.Item, m []api.Moment) int {
	return slices.IndexFunc(m, func(m api.Moment) bool { return x.At <= m.Now && label.Open(x.Label, reader, m) })
}

func TestP26_1Examples(t *testing.T) {
	a, b := example()
	if l, e := flow.Seen(a, reader, moments); len(l) != 1 || l[0].Text != "rain" || e != api.OK {
		t.Error(l, e)
	}
	if !flow.Alike(a, b, reader, moments) || flow.Alike(a, a[:1], reader, moments) {
		t.Error("Alike")
	}
	if p := feed(t, api.FSlots, a, moments); !slices.Equal(p, []string{"\x04rain" + zeros[5:], zeros, zeros}) {
		t.Errorf("%q", p)
	}
	if p := feed(t, api.FTight, a, moments); !slices.Equal(p, []string{"\x00\x04rain", "\x00", "\x00"}) {
		t.Errorf("%q", p)
	}
	if p := feed(t, api.FTight, b, moments); !slices.Equal(p, []string{"\x04rain", "", ""}) {
		t.Errorf("%q", p)
	}
	for mode, want := range map[int]int{api.FSlots: -1, api.FTight: 0} {
		if n, e := flow.Tells(mode, a, b, reader, moments); n != want || e != api.OK {
			t.Error(mode, n, e)
		}
	}
	if l, e := flow.Read(feed(t, api.FSlots, b, moments)); !slices.Equal(l, []string{"rain"}) || e != api.OK {
		t.Error(l, e)
	}
}

func TestP26_1Errors(t *testing.T) {
	a, _ := example()
	bad := item("x", 1, 1, 0)
	bad.Label.Until = -1
	for i, c := range []struct {
		l []api.Item
		r api.Reader
		m []api.Moment
	}{
		{[]api.Item{item("", 1, 1, 0)}, reader, moments}, {[]api.Item{item(strings.Repeat("x", 61), 1, 1, 0)}, reader, moments}, {[]api.Item{item("x", -1, 1, 0)}, reader, moments}, {[]api.Item{item("x", api.MaxTime+1, 1, 0)}, reader, moments},
		{[]api.Item{item("x", 1, 0, 0)}, reader, moments}, {[]api.Item{item("x", 1, 4, 0)}, reader, moments}, {[]api.Item{bad}, reader, moments}, {slices.Repeat(a, 7), reader, moments},
		{a, api.Reader{Territory: 8}, moments}, {a, api.Reader{Class: -1}, moments}, {a, reader, []api.Moment{{Now: -1}}}, {a, reader, make([]api.Moment, 41)},
	} {
		l, e := flow.Seen(c.l, c.r, c.m)
		p, f := flow.Feed(api.FSlots, c.l, c.r, c.m)
		n, g := flow.Tells(api.FSlots, a, c.l, c.r, c.m)
		if l != nil || p != nil || n != 0 || e != api.ErrFlow || f != api.ErrFlow || g != api.ErrFlow || flow.Alike(a, c.l, c.r, c.m) {
			t.Error(i, e, f, g)
		}
	}
	for _, mode := range []int{0, 3, -1} {
		if p, e := flow.Feed(mode, a, reader, moments); p != nil || e != api.ErrFlow {
			t.Error(mode, e)
		}
	}
	for i, p := range []string{"", zeros[1:], zeros + "\x00", "\x3d" + zeros[1:], zeros[1:] + "x", "\x01a" + zeros[3:] + "x"} {
		if l, e := flow.Read([]string{zeros, p}); l != nil || e != api.ErrFlow {
			t.Error(i, e)
		}
	}
}

func TestP26_2NobodyCanTell(t *testing.T) {
	r := rand.New(rand.NewSource(1))
	for range 500 {
		m, shown := slots(r), items(r, 6)
		mix := func() []api.Item {
			var l []api.Item
			for _, x := range shown {
				for r.Intn(2) == 0 && len(l) < 5 {
					hidden := some(r)
					hidden.Label.Until = 1000
					l = append(l, hidden)
				}
				l = append(l, x)
			}
			return l
		}
		a, b := mix(), mix()
		if !flow.Alike(a, b, reader, m) {
			t.Fatal("not alike")
		}
		if n, e := flow.Tells(api.FSlots, a, b, reader, m); n != -1 || e != api.OK {
			t.Fatal(a, b, n, e)
		}
	}
}

func TestP26_3NothingTooEarly(t *testing.T) {
	r := rand.New(rand.NewSource(2))
	for range 500 {
		m, l := slots(r), items(r, 8)
		for i := range l {
			l[i].Text = string(rune('a'+i)) + l[i].Text[1:]
		}
		seen, _ := flow.Seen(l, reader, m)
		sent := map[string]bool{}
		for slot, p := range feed(t, api.FSlots, l, m) {
			texts, e := flow.Read([]string{p})
			if e != api.OK || len(texts) > 1 {
				t.Fatal(e)
			}
			if len(texts) == 0 {
				continue
			}
			i := int(texts[0][0] - 'a')
			if k := release(l[i], m); k < 0 || k > slot || sent[texts[0]] || l[i].Text != texts[0] {
				t.Fatal(l[i], slot)
			}
			sent[texts[0]] = true
		}
		for _, x := range seen {
			if len(m)-release(x, m) >= len(seen) && !sent[x.Text] {
				t.Fatal("not sent", x)
			}
		}
	}
}

func TestP26_4TheFirst(t *testing.T) {
	r := rand.New(rand.NewSource(3))
	for range 300 {
		m, a, b := slots(r), items(r, 5), items(r, 5)
		for mode := 1; mode <= 2; mode++ {
			x, y := feed(t, mode, a, m), feed(t, mode, b, m)
			n, e := flow.Tells(mode, a, b, reader, m)
			if e != api.OK || n == -1 && !slices.Equal(x, y) || n >= 0 && (!slices.Equal(x[:n], y[:n]) || x[n] == y[n]) {
				t.Fatal(mode, n, e)
			}
		}
	}
}

func TestP26_5Leaks(t *testing.T) {
	r := rand.New(rand.NewSource(4))
	for range 300 {
		m, l := slots(r), items(r, 5)
		secret := item("secret", r.Intn(20), api.DFlash, 1000)
		n, e := flow.Tells(api.FTight, append([]api.Item{secret}, l...), l, reader, m)
		if want := slices.IndexFunc(m, func(m api.Moment) bool { return secret.At <= m.Now }); n != want || e != api.OK {
			t.Fatal(n, want, e)
		}
	}
}

func TestP26_6Joins(t *testing.T) {
	r := rand.New(rand.NewSource(5))
	for range 300 {
		m, x, y := slots(r), some(r), some(r)
		y.At = x.At
		j := x
		j.Label, _ = label.Join(x.Label, y.Label)
		want := slices.IndexFunc(m, func(k api.Moment) bool {
			return release(x, []api.Moment{k}) == 0 && release(y, []api.Moment{k}) == 0
		})
		p := feed(t, api.FSlots, []api.Item{j}, m)
		if got := slices.IndexFunc(p, func(s string) bool { return s != zeros }); got != want {
			t.Fatal(got, want)
		}
	}
}

func TestP26_7Order(t *testing.T) {
	r := rand.New(rand.NewSource(6))
	for range 500 {
		m, l := slots(r), items(r, 8)
		for i := range l {
			l[i].Text = string(rune('a' + i))
		}
		sent := map[int]int{}
		for slot, p := range feed(t, api.FSlots, l, m) {
			if p != zeros {
				sent[int(p[1]-'a')] = slot
			}
		}
		for i, at := range sent {
			for slot := release(l[i], m); slot < at; slot++ {
				ahead := -1
				for j, s := range sent {
					if s == slot {
						ahead = j
					}
				}
				if ahead < 0 || l[ahead].Class > l[i].Class || l[ahead].Class == l[i].Class && (release(l[ahead], m) > release(l[i], m) || release(l[ahead], m) == release(l[i], m) && ahead > i) {
					t.Fatal(l, i, ahead)
				}
			}
		}
	}
}

func TestP26_1Limits(t *testing.T) {
	x := item(strings.Repeat("x", 60), api.MaxTime, 3, api.MaxTime)
	l, m := slices.Repeat([]api.Item{x}, 12), slices.Repeat([]api.Moment{{Now: api.MaxTime}}, 40)
	if s, e := flow.Seen(l, api.Reader{Territory: 7, Class: 7}, m); len(s) != 12 || e != api.OK {
		t.Error(len(s), e)
	}
	if texts, e := flow.Read(feed(t, api.FSlots, l, m)); len(texts) != 12 || texts[0] != x.Text || e != api.OK {
		t.Error(len(texts), e)
	}
	y := item("x", 1, 1, 0)
	for i, change := range []func(x *api.Item){func(x *api.Item) { x.At = 2 }, func(x *api.Item) { x.Label.Until = 1 }, func(x *api.Item) { x.Class = 2 }, func(x *api.Item) { x.Text = "y" }} {
		z := y
		change(&z)
		if flow.Alike([]api.Item{y}, []api.Item{z}, reader, moments) {
			t.Error(i, "alike")
		}
	}
}
