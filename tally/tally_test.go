package tally_test

import (
	"math/rand"
	"slices"
	"testing"

	"newswire/api"
	"newswire/tally"
)

var contest = api.Contest{Candidates: 2, Districts: []int{100, 50}}

func must(t *testing.T, x api.Tally, e api.Errno) api.Tally {
	t.Helper()
	if e != api.OK || !tally.Valid(x) {
		t.Fatal(x, e)
	}
	return x
}

func of(t *testing.T, c api.Contest, l ...api.Returns) api.Tally {
	t.Helper()
	x, e := tally.New(c)
	x = must(t, x, e)
	for _, r := range l {
		x, e = tally.Add(x, r)
		x = must(t, x, e)
	}
	return x
}

func returns(district, number int, votes ...int) api.Returns {
	return api.Returns{District: district, Number: number, Votes: votes}
}

func someContest(r *rand.Rand) api.Contest {
	c := api.Contest{Candidates: 2 + r.Intn(3)}
	for range 1 + r.Intn(4) {
		c.Districts = append(c.Districts, r.Intn(12))
	}
	return c
}

func some(r *rand.Rand, c api.Contest) api.Returns {
	x := api.Returns{District: r.Intn(len(c.Districts)), Number: 1 + r.Intn(3)}
	left := c.Districts[x.District]
	for range c.Candidates {
		n := r.Intn(left + 1)
		left -= n
		x.Votes = append(x.Votes, n)
	}
	r.Shuffle(len(x.Votes), func(i, j int) { x.Votes[i], x.Votes[j] = x.Votes[j], x.Votes[i] })
	return x
}

func several(r *rand.Rand, c api.Contest) []api.Returns {
	var l []api.Returns
	for range r.Intn(8) {
		l = append(l, some(r, c))
	}
	return l
}

func TestP27_1Examples(t *testing.T) {
	for i, c := range []struct {
		l      []api.Returns
		totals []int
		rest   int
		sure   int
		open   []int
	}{
		{nil, []int{0, 0}, 150, -1, []int{0, 1}},
		{[]api.Returns{returns(0, 1, 60, 20)}, []int{60, 20}, 70, -1, []int{0, 1}},
		{[]api.Returns{returns(0, 1, 60, 20), returns(1, 1, 20, 10)}, []int{80, 30}, 40, 0, []int{0}},
		{[]api.Returns{returns(0, 1, 60, 20), returns(1, 1, 20, 10), returns(0, 2, 30, 50)}, []int{50, 60}, 40, -1, []int{0, 1}},
	} {
		x := of(t, contest, c.l...)
		totals, rest, e := tally.Totals(x)
		sure, f := tally.Sure(x)
		open, g := tally.Open(x)
		if !slices.Equal(totals, c.totals) || rest != c.rest || sure != c.sure || !slices.Equal(open, c.open) || e != api.OK || f != api.OK || g != api.OK {
			t.Error(i, totals, rest, sure, open)
		}
	}
	a, b := returns(0, 1, 5, 9), returns(0, 1, 6, 0)
	if x := of(t, contest, a, b); !tally.Same(x, of(t, contest, b)) || tally.Same(x, of(t, contest, a)) {
		t.Error("the greater votes with the same number", x)
	}
}

func TestP27_1Errors(t *testing.T) {
	for i, c := range []api.Contest{{}, {Candidates: 1, Districts: []int{1}}, {Candidates: 5, Districts: []int{1}}, {Candidates: 2}, {Candidates: 2, Districts: make([]int, 13)}, {Candidates: 2, Districts: []int{-1}}, {Candidates: 2, Districts: []int{100001}}} {
		x, e := tally.New(c)
		_, f := tally.Add(api.Tally{Contest: c}, returns(0, 1, 0, 0))
		if x.Contest.Candidates != 0 || e != api.ErrTally || f != api.ErrTally || tally.Valid(api.Tally{Contest: c}) {
			t.Error(i, e, f)
		}
	}
	ok := of(t, contest, returns(0, 1, 1, 1))
	for i, r := range []api.Returns{returns(-1, 1, 0, 0), returns(2, 1, 0, 0), returns(0, 0, 0, 0), returns(0, 1001, 0, 0), returns(0, 1, 0), returns(0, 1, 0, 0, 0), returns(0, 1, -1, 0), returns(0, 1, 50, 51), returns(0, 1, 1<<62, 1<<62), returns(1, 1, 51, 0), returns(0, 1, -1<<63, 5)} {
		bad := api.Tally{Contest: contest, Returns: []api.Returns{r}}
		_, a := tally.Add(ok, r)
		_, b := tally.Join(ok, bad)
		n, _, c := tally.Totals(bad)
		s, d := tally.Sure(bad)
		o, e := tally.Open(bad)
		if tally.Valid(bad) || n != nil || s != 0 || o != nil || a != api.ErrTally || b != api.ErrTally || c != api.ErrTally || d != api.ErrTally || e != api.ErrTally {
			t.Error(i, a, b, c, d, e)
		}
	}
	twice := api.Tally{Contest: contest, Returns: []api.Returns{returns(0, 1, 1, 1), returns(0, 2, 1, 1)}}
	other := of(t, api.Contest{Candidates: 2, Districts: []int{100, 51}})
	if _, e := tally.Join(ok, other); tally.Valid(twice) || e != api.ErrTally {
		t.Error("another contest", e)
	}
	for i, r := range []api.Returns{returns(12, 1, 0, 0), returns(0, 0, 0, 0), returns(0, 1, 0), returns(0, 1, 0, 0, 0, 0, 0), returns(0, 1, 100000, 1), returns(0, 1, -1, 1)} {
		if s, e := tally.Encode(r); s != "" || e != api.ErrTally {
			t.Error(i, e)
		}
	}
}

func TestP27_2AnyOrder(t *testing.T) {
	r := rand.New(rand.NewSource(1))
	for range 500 {
		c := someContest(r)
		l, k, m := several(r, c), several(r, c), several(r, c)
		mixed := append(slices.Clone(l), l...)
		r.Shuffle(len(mixed), func(i, j int) { mixed[i], mixed[j] = mixed[j], mixed[i] })
		x, y, z := of(t, c, l...), of(t, c, k...), of(t, c, m...)
		join := func(a, b api.Tally) api.Tally {
			j, e := tally.Join(a, b)
			return must(t, j, e)
		}
		if !tally.Same(x, of(t, c, mixed...)) || !tally.Same(join(x, y), join(y, x)) || !tally.Same(join(join(x, y), z), join(x, join(y, z))) || !tally.Same(join(x, x), x) || !tally.Same(join(x, y), of(t, c, append(l, k...)...)) {
			t.Fatal(l, k, m)
		}
	}
}

// more adds votes to a tally: no count falls.
func more(t *testing.T, r *rand.Rand, x api.Tally, fill int) api.Tally {
	t.Helper()
	for d, most := range x.Contest.Districts {
		votes := make([]int, x.Contest.Candidates)
		number := 1
		for _, k := range x.Returns {
			if k.District == d {
				copy(votes, k.Votes)
				number = k.Number + 1
			}
		}
		for _, n := range votes {
			most -= n
		}
		for ; most > 0; most-- {
			to := r.Intn(len(votes) + 1)
			if fill >= 0 {
				to = fill
			}
			if to < len(votes) {
				votes[to]++
			}
		}
		y, e := tally.Add(x, api.Returns{District: d, Number: number, Votes: votes})
		x = must(t, y, e)
	}
	return x
}

func TestP27_3WhoIsSure(t *testing.T) {
	r := rand.New(rand.NewSource(2))
	for range 1000 {
		c := someContest(r)
		x := of(t, c, several(r, c)...)
		sure, _ := tally.Sure(x)
		if sure < 0 {
			continue
		}
		y := more(t, r, x, -1)
		totals, _, _ := tally.Totals(y)
		for i, n := range totals {
			if i != sure && n >= totals[sure] {
				t.Fatal(x, y)
			}
		}
		if still, _ := tally.Sure(y); still != sure {
			t.Fatal(x, y)
		}
	}
}

func TestP27_4WhoIsNot(t *testing.T) {
	r := rand.New(rand.NewSource(3))
	for range 1000 {
		c := someContest(r)
		x := of(t, c, several(r, c)...)
		open, _ := tally.Open(x)
		if sure, _ := tally.Sure(x); sure < 0 && len(open) < 2 {
			t.Fatal(x, open)
		}
		for i := range c.Candidates {
			totals, _, _ := tally.Totals(more(t, r, x, i))
			if (totals[i] == slices.Max(totals)) != slices.Contains(open, i) {
				t.Fatal(x, i, open)
			}
		}
	}
}

func TestP27_5Totals(t *testing.T) {
	r := rand.New(rand.NewSource(4))
	for range 500 {
		c := someContest(r)
		x := of(t, c, several(r, c)...)
		totals, rest, _ := tally.Totals(x)
		sum := rest
		for _, n := range totals {
			sum += n
		}
		for _, n := range c.Districts {
			sum -= n
		}
		y := tallyReversed(x)
		back, other, e := tally.Totals(y)
		slices.Reverse(back)
		if sum != 0 || e != api.OK || other != rest || !slices.Equal(back, totals) {
			t.Fatal(x)
		}
		a, _ := tally.Sure(x)
		b, _ := tally.Sure(y)
		if a >= 0 && b != c.Candidates-1-a || a < 0 && b >= 0 {
			t.Fatal(a, b)
		}
	}
}

// tallyReversed numbers candidates the other way around.
func tallyReversed(x api.Tally) api.Tally {
	y := api.Tally{Contest: x.Contest}
	for _, r := range x.Returns {
		r.Votes = slices.Clone(r.Votes)
		slices.Reverse(r.Votes)
		y.Returns = append(y.Returns, r)
	}
	return y
}

func TestP27_6Codes(t *testing.T) {
	r := rand.New(rand.NewSource(5))
	for range 500 {
		x := some(r, someContest(r))
		s, e := tally.Encode(x)
		y, next, f := tally.Decode("ab"+s+"c", 2)
		if e != api.OK || f != api.OK || next != 2+len(s) || y.District != x.District || y.Number != x.Number || !slices.Equal(x.Votes, y.Votes) {
			t.Fatal(x, y, e, f)
		}
		if y, next, e := tally.Decode(s[:r.Intn(len(s))], 0); y.Votes != nil || next != 0 || e != api.ErrTally {
			t.Fatal(e)
		}
		b := []byte(s)
		b[r.Intn(len(b))] ^= 1 << r.Intn(8)
		if y, next, e := tally.Decode(string(b), 0); e == api.OK {
			if u, _ := tally.Encode(y); u != string(b[:next]) {
				t.Fatal("another encoding is decoded")
			}
		}
	}
}
