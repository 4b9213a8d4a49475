package line_test

import (
	"math/rand"
	"slices"
	"strings"
	"testing"

	"newswire/api"
	"newswire/line"
)

const text = "abcdefg"

func encode(t *testing.T, f api.Frame) string {
	t.Helper()
	s, e := line.Encode(f)
	if e != api.OK {
		t.Fatal(f, e)
	}
	return s
}

func hold(t *testing.T, h api.Held, l ...api.Frame) api.Held {
	t.Helper()
	for _, f := range l {
		g, e := line.Receive(h, encode(t, f))
		if e != api.OK || !line.ValidHeld(g) {
			t.Fatal(h, f, e)
		}
		h = g
	}
	return h
}

func frames(t *testing.T, s string, size int) []api.Frame {
	t.Helper()
	l, e := line.Cut(7, s, size)
	if e != api.OK {
		t.Fatal(e)
	}
	return l
}

func empty(t *testing.T, total int) api.Held {
	t.Helper()
	h, e := line.New(7, total)
	if e != api.OK {
		t.Fatal(e)
	}
	return h
}

// message is a random text.
func message(r *rand.Rand) string {
	b := make([]byte, 1+r.Intn(300))
	for i := range b {
		b[i] = byte(r.Intn(256))
	}
	return string(b)
}

// some holds a random part of a text.
func some(t *testing.T, r *rand.Rand, s string) api.Held {
	h := empty(t, len(s))
	for range r.Intn(6) {
		from := r.Intn(len(s))
		h = hold(t, h, api.Frame{Message: 7, Total: len(s), From: from, Data: s[from:min(len(s), from+1+r.Intn(100))]})
	}
	return h
}

func fates(r *rand.Rand, n int) []api.Fate {
	var l []api.Fate
	for range n {
		l = append(l, api.Fate{Delay: r.Intn(8) - 1, Again: r.Intn(2) * r.Intn(5), Split: r.Intn(2) * r.Intn(10), Spoil: r.Intn(5) / 4 * r.Intn(100)})
	}
	return l
}

func TestP23_1Examples(t *testing.T) {
	l := frames(t, text, 3)
	if !slices.Equal(l, []api.Frame{{Message: 7, Total: 7, Data: "abc"}, {Message: 7, Total: 7, From: 3, Data: "def"}, {Message: 7, Total: 7, From: 6, Data: "g"}}) {
		t.Error(l)
	}
	h := hold(t, empty(t, 7), l[1])
	if m, e := line.Missing(h); !slices.Equal(m, [][2]int{{0, 3}, {6, 7}}) || e != api.OK {
		t.Error(m, e)
	}
	k, e := line.Resume(h, text, 2)
	if !slices.Equal(k, []api.Frame{{Message: 7, Total: 7, Data: "ab"}, {Message: 7, Total: 7, From: 2, Data: "c"}, {Message: 7, Total: 7, From: 6, Data: "g"}}) || e != api.OK {
		t.Error(k, e)
	}
	if g, e := line.Receive(h, encode(t, api.Frame{Message: 7, Total: 7, From: 4, Data: "xy"})); g.Total != 0 || e != api.ErrLine {
		t.Error(g, e)
	}
	s, e := line.Carry(l, []api.Fate{{Delay: 2}, {Delay: -1}})
	if !slices.Equal(s, []string{encode(t, l[0]), encode(t, l[2])}) || e != api.OK {
		t.Error(s, e)
	}
	a, b, e := line.Split(l[0], 1)
	if a.Data != "a" || b.Data != "bc" || b.From != 1 || e != api.OK {
		t.Error(a, b, e)
	}
}

func TestP23_1Carry(t *testing.T) {
	l := frames(t, text, 3)
	a, b, c := encode(t, l[0]), encode(t, l[1]), encode(t, l[2])
	x, y, _ := line.Split(l[0], 2)
	change := func(s string, i int) string { return s[:i] + string([]byte{s[i] + 1}) + s[i+1:] }
	for i, k := range []struct {
		fates []api.Fate
		want  []string
	}{
		{nil, []string{a, b, c}},
		{[]api.Fate{{Delay: 1}}, []string{a, b, c}},
		{[]api.Fate{{Again: 1}}, []string{a, b, a, c}},
		{[]api.Fate{{Again: 1}, {Delay: 1}}, []string{a, a, b, c}},
		{[]api.Fate{{Split: 2, Again: 2}}, []string{encode(t, x), encode(t, y), b, c, encode(t, x), encode(t, y)}},
		{[]api.Fate{{Split: 3}}, []string{a, b, c}},
		{[]api.Fate{{Spoil: 2 + len(a)}}, []string{change(a, 2), b, c}},
		{[]api.Fate{{Spoil: 2, Again: 50}}, []string{change(a, 2), b, c, change(a, 2)}},
		{[]api.Fate{{Delay: -1 << 62, Again: 3}, {}, {}}, []string{b, c}},
	} {
		if s, e := line.Carry(l, k.fates); !slices.Equal(s, k.want) || e != api.OK {
			t.Errorf("%d: %q, %d; want %q", i, s, e, k.want)
		}
	}
	for i, f := range []api.Fate{{Delay: 51}, {Again: 51}, {Again: -1}, {Split: 101}, {Split: -1}, {Spoil: 1001}, {Spoil: -1}} {
		if s, e := line.Carry(l, []api.Fate{f}); s != nil || e != api.ErrLine {
			t.Error(i, s, e)
		}
	}
	_, d := line.Carry(l, make([]api.Fate, 4))
	_, e := line.Carry([]api.Frame{{}}, nil)
	_, f := line.Carry(slices.Repeat(l[:1], 201), nil)
	if d != api.ErrLine || e != api.ErrLine || f != api.ErrLine {
		t.Error(d, e, f)
	}
}

func TestP23_1Errors(t *testing.T) {
	for i, f := range []api.Frame{{}, {Message: -1, Total: 1, Data: "x"}, {Message: 1000, Total: 1, Data: "x"}, {Total: 0, Data: "x"}, {Total: 4001, Data: "x"}, {Total: 5, From: -1, Data: "x"}, {Total: 5, From: 5, Data: "x"}, {Total: 5}, {Total: 4000, Data: strings.Repeat("x", 101)}, {Total: 5, From: 1<<63 - 1, Data: "x"}} {
		s, e := line.Encode(f)
		_, _, g := line.Split(f, 1)
		if line.Valid(f) || s != "" || e != api.ErrLine || g != api.ErrLine {
			t.Error(i, f)
		}
	}
	for i, h := range []api.Held{{}, {Message: -1, Total: 5}, {Total: 4001}, {Total: 5, Pieces: []api.Piece{{From: -1, Data: "x"}}}, {Total: 5, Pieces: []api.Piece{{From: 5, Data: "x"}}}, {Total: 5, Pieces: []api.Piece{{From: 1}}}, {Total: 5, Pieces: []api.Piece{{Data: "a"}, {From: 1, Data: "b"}}}, {Total: 5, Pieces: []api.Piece{{From: 3, Data: "a"}, {From: 0, Data: "b"}}}, {Total: 5, Pieces: []api.Piece{{From: 1<<63 - 1, Data: "b"}}}} {
		_, a := line.Receive(h, encode(t, api.Frame{Total: 5, Data: "x"}))
		_, b := line.Missing(h)
		_, c := line.Text(h)
		_, d := line.Resume(h, "abcde", 5)
		if line.ValidHeld(h) || a != api.ErrLine || b != api.ErrLine || c != api.ErrLine || d != api.ErrLine {
			t.Error(i, h, a, b, c, d)
		}
	}
	for _, a := range [][2]int{{-1, 5}, {1000, 5}, {5, 0}, {5, 4001}} {
		if h, e := line.New(a[0], a[1]); h.Total != 0 || e != api.ErrLine {
			t.Error(a, e)
		}
	}
	for i, c := range []struct {
		message int
		text    string
		size    int
	}{{-1, "x", 1}, {1000, "x", 1}, {1, "", 1}, {1, strings.Repeat("x", 4001), 1}, {1, "x", 0}, {1, "x", 101}} {
		if l, e := line.Cut(c.message, c.text, c.size); l != nil || e != api.ErrLine {
			t.Error(i, e)
		}
	}
	f := frames(t, text, 3)[0]
	for _, at := range []int{0, 3, -1} {
		if a, b, e := line.Split(f, at); a.Total != 0 || b.Total != 0 || e != api.ErrLine {
			t.Error(at, e)
		}
	}
	h := hold(t, empty(t, 7), f)
	_, a := line.Resume(h, "abcdef", 2)
	_, b := line.Resume(h, "xbcdefg", 2)
	_, c := line.Resume(h, text, 0)
	_, d := line.Resume(h, text, 101)
	_, e := line.Text(h)
	for i, e := range []api.Errno{a, b, c, d, e} {
		if e != api.ErrLine {
			t.Error(i, e)
		}
	}
	for i, g := range []api.Frame{{Message: 8, Total: 7, Data: "a"}, {Message: 7, Total: 8, Data: "a"}, {Message: 7, Total: 7, From: 2, Data: "xd"}} {
		if k, e := line.Receive(h, encode(t, g)); k.Total != 0 || e != api.ErrLine {
			t.Error(i, e)
		}
	}
	if line.Same(h, empty(t, 7)) || !line.Same(h, h) {
		t.Error("Same")
	}
}

func TestP23_2OnlyWhatWasSent(t *testing.T) {
	r := rand.New(rand.NewSource(1))
	for range 300 {
		s := message(r)
		l := frames(t, s, 1+r.Intn(100))
		came, e := line.Carry(l, fates(r, len(l)))
		if e != api.OK {
			continue
		}
		h := empty(t, len(s))
		for _, c := range came {
			if g, e := line.Receive(h, c); e == api.OK {
				h = g
			}
		}
		for _, p := range h.Pieces {
			if s[p.From:p.From+len(p.Data)] != p.Data {
				t.Fatal("another byte is held")
			}
		}
	}
}

func TestP23_3AllInTheEnd(t *testing.T) {
	r := rand.New(rand.NewSource(2))
	for range 300 {
		s := message(r)
		l := frames(t, s, 1+r.Intn(30))
		for i := range l {
			l[i], l[r.Intn(len(l))] = l[r.Intn(len(l))], l[i]
		}
		l = append(l, frames(t, s, 1+r.Intn(30))...)
		r.Shuffle(len(l), func(i, j int) { l[i], l[j] = l[j], l[i] })
		h := hold(t, empty(t, len(s)), l...)
		if u, e := line.Text(h); u != s || e != api.OK {
			t.Fatal(e)
		}
	}
}

func TestP23_4Order(t *testing.T) {
	r := rand.New(rand.NewSource(3))
	for range 300 {
		s := message(r)
		l := frames(t, s, 2+r.Intn(30))
		l = l[:1+r.Intn(len(l))]
		h := hold(t, empty(t, len(s)), l...)
		var again []api.Frame
		for _, f := range append(slices.Clone(l), l[:r.Intn(len(l))]...) {
			if a, b, e := line.Split(f, 1); e == api.OK {
				again = append(again, b, a)
			} else {
				again = append(again, f)
			}
		}
		r.Shuffle(len(again), func(i, j int) { again[i], again[j] = again[j], again[i] })
		if g := hold(t, empty(t, len(s)), again...); !line.Same(g, h) {
			t.Fatal(g, h)
		}
	}
}

func TestP23_5Resume(t *testing.T) {
	r := rand.New(rand.NewSource(4))
	for range 300 {
		s := message(r)
		h, size := some(t, r, s), 1+r.Intn(100)
		l, e := line.Resume(h, s, size)
		m, _ := line.Missing(h)
		missing, bytes := 0, 0
		for _, x := range m {
			missing += x[1] - x[0]
		}
		for _, f := range l {
			bytes += len(f.Data)
		}
		whole := hold(t, h, l...)
		if u, f := line.Text(whole); u != s || e != api.OK || f != api.OK || bytes != missing {
			t.Fatal(e, f, bytes, missing)
		}
		if k, e := line.Resume(whole, s, size); len(k) != 0 || e != api.OK {
			t.Fatal(k, e)
		}
		if k, _ := line.Resume(empty(t, len(s)), s, size); !slices.Equal(k, frames(t, s, size)) {
			t.Fatal(k)
		}
	}
}

func TestP23_6Codes(t *testing.T) {
	r := rand.New(rand.NewSource(5))
	for range 500 {
		s := message(r)
		l := frames(t, s, 1+r.Intn(100))
		f := l[r.Intn(len(l))]
		c := encode(t, f)
		if g, e := line.Decode(c); g != f || e != api.OK {
			t.Fatal(g, e)
		}
		b := []byte(c)
		b[r.Intn(len(b))] ^= byte(1 + r.Intn(255))
		for i, x := range []string{string(b), c + "x", c[:r.Intn(len(c))]} {
			if g, e := line.Decode(x); e == api.OK && (i > 0 || encode(t, g) != x) {
				t.Fatal(i, "is accepted")
			}
		}
		at := strings.LastIndex(c, f.Data)
		b = []byte(c)
		b[at+r.Intn(len(f.Data))] ^= byte(1 + r.Intn(255))
		if g, e := line.Decode(string(b)); g.Total != 0 || e != api.ErrLine {
			t.Fatal("changed data is accepted")
		}
		b = []byte(c)
		b[len(b)-1] ^= 1
		if _, e := line.Decode(string(b)); e != api.ErrLine {
			t.Fatal("a changed sum is accepted")
		}
	}
}

func TestP23_7Missing(t *testing.T) {
	r := rand.New(rand.NewSource(6))
	for range 300 {
		s := message(r)
		h := some(t, r, s)
		m, e := line.Missing(h)
		var at []int
		for _, x := range m {
			at = append(at, x[0], x[1])
		}
		count := make([]int, len(s))
		for i := 0; i < len(at); i += 2 {
			for j := at[i]; j < at[i+1]; j++ {
				count[j]++
			}
		}
		for _, p := range h.Pieces {
			for j := range len(p.Data) {
				count[p.From+j]++
			}
		}
		if e != api.OK || slices.Max(count) != 1 || slices.Min(count) != 1 || len(m) > len(h.Pieces)+1 {
			t.Fatal(h, m, e)
		}
	}
}

func TestP23_1Limits(t *testing.T) {
	long := strings.Repeat("x", 4000)
	l, e := line.Cut(999, long, 100)
	if e != api.OK || len(l) != 40 || !line.Valid(l[39]) {
		t.Error(e)
	}
	h, e := line.New(999, 4000)
	if e != api.OK || !line.ValidHeld(h) {
		t.Error(e)
	}
	if _, e := line.New(0, 1); e != api.OK {
		t.Error(e)
	}
	all := hold(t, h, l...)
	if s, e := line.Text(all); s != long || e != api.OK || len(all.Pieces) != 1 {
		t.Error(e)
	}
	many := slices.Repeat(l, 5)
	if s, e := line.Carry(many, slices.Repeat([]api.Fate{{Delay: 50, Again: 50, Split: 100, Spoil: 1000}}, 200)); len(s) != 400 || e != api.OK {
		t.Error(len(s), e)
	}
	if a, b, e := line.Split(l[0], 99); len(a.Data) != 99 || len(b.Data) != 1 || e != api.OK {
		t.Error(e)
	}
	bad := api.Held{Message: 7, Total: 9, Pieces: []api.Piece{{From: 20, Data: "x"}}}
	if _, e := line.Receive(bad, encode(t, api.Frame{Message: 7, Total: 9, Data: "a"})); e != api.ErrLine {
		t.Error("what is held is not valid", e)
	}
}
