package call_test

import (
	"math/big"
	"math/rand"
	"slices"
	"testing"

	"newswire/api"
	"newswire/call"
	"newswire/rational"
)

func ratio(n, d int) api.Ratio {
	r, _ := rational.Of(n, d)
	return r
}

func must(t *testing.T, r api.Races, e api.Errno) api.Races {
	t.Helper()
	if e != api.OK || !call.Valid(r) {
		t.Fatal(r, e)
	}
	return r
}

// with returns races with one race, which has the number 7.
func with(t *testing.T, alpha api.Ratio, bet int, sizes ...int) api.Races {
	t.Helper()
	r, e := call.Open(ratio(9, 10))
	r = must(t, r, e)
	r, e = call.Register(r, api.Race{ID: 7, Sizes: sizes, Alpha: alpha, Bet: bet})
	return must(t, r, e)
}

func report(t *testing.T, r api.Races, district, from int, votes ...bool) api.Races {
	t.Helper()
	k, _, e := call.Report(r, 7, api.Ballots{District: district, From: from, Votes: votes})
	return must(t, k, e)
}

func verdict(t *testing.T, r api.Races) int {
	t.Helper()
	v, e := call.Verdict(r, 7)
	if e != api.OK {
		t.Fatal(e)
	}
	return v
}

func example(t *testing.T) api.Races { return with(t, ratio(1, 2), 50, 3, 2) }

func TestP28_1Examples(t *testing.T) {
	r := report(t, example(t), 0, 0, true)
	if x := r.Races[0]; x.Wealth != ratio(7, 4) || x.Called || verdict(t, r) != api.COpen {
		t.Error(x)
	}
	r, n, e := call.Report(r, 7, api.Ballots{Votes: []bool{true, true}})
	r = must(t, r, e)
	if x := r.Races[0]; n != 1 || x.Wealth != ratio(35, 8) || !x.Called || x.Yes != 2 || verdict(t, r) != api.CCalled {
		t.Error(x, n)
	}
	if s := report(t, r, 1, 0, true); verdict(t, s) != api.CCertain || s.Races[0].Wealth != ratio(35, 8) {
		t.Error(s)
	}
	r = report(t, r, 0, 2, false)
	r = report(t, r, 1, 0, false, false)
	if verdict(t, r) != api.CWrong {
		t.Error(r)
	}
	r = example(t)
	r = report(t, r, 0, 0, false, false, false)
	if verdict(t, r) != api.CLost {
		t.Error(r)
	}
	if x, e := call.Left(example(t)); x != ratio(2, 5) || e != api.OK {
		t.Error(x, e)
	}
}

func TestP28_1NotValid(t *testing.T) {
	for i, change := range []func(x *api.Race){
		func(x *api.Race) { x.ID = -1 }, func(x *api.Race) { x.ID = 1000 }, func(x *api.Race) { x.Sizes, x.Counted = nil, nil }, func(x *api.Race) { x.Sizes, x.Counted = []int{0, 0}, []int{0, 0} }, func(x *api.Race) { x.Sizes[0] = 51 }, func(x *api.Race) { x.Sizes[0] = -1 }, func(x *api.Race) { x.Sizes, x.Counted = slices.Repeat([]int{1}, 21), make([]int, 21) },
		func(x *api.Race) { x.Counted[0] = 4 }, func(x *api.Race) { x.Counted[0] = -1 }, func(x *api.Race) { x.Counted = []int{0} }, func(x *api.Race) { x.Counted = []int{0, 0, 0} }, func(x *api.Race) { x.Yes = 1 }, func(x *api.Race) { x.Yes = -1 },
		func(x *api.Race) { x.Alpha = ratio(0, 1) }, func(x *api.Race) { x.Alpha = ratio(1, 1) }, func(x *api.Race) { x.Alpha = ratio(1, 1001) }, func(x *api.Race) { x.Alpha = api.Ratio{Num: "2", Den: "4"} }, func(x *api.Race) { x.Alpha = ratio(-1, 2) }, func(x *api.Race) { x.Alpha = ratio(99, 100) },
		func(x *api.Race) { x.Bet = 0 }, func(x *api.Race) { x.Bet = 51 },
		func(x *api.Race) { x.Wealth = ratio(-1, 2) }, func(x *api.Race) { x.Wealth = ratio(1, 3) }, func(x *api.Race) { x.Wealth, x.Called = ratio(1000001, 1), true }, func(x *api.Race) { x.Wealth = api.Ratio{} }, func(x *api.Race) { x.Wealth = ratio(2, 1) }, func(x *api.Race) { x.Called = true }, func(x *api.Race) { x.Wealth = ratio(1, 2000000000000) },
	} {
		r := example(t)
		change(&r.Races[0])
		_, a := call.Left(r)
		_, b := call.Register(r, api.Race{ID: 8, Sizes: []int{1}, Alpha: ratio(1, 100), Bet: 1})
		_, _, c := call.Report(r, 7, api.Ballots{})
		_, d := call.Verdict(r, 7)
		if call.Valid(r) || a != api.ErrCall || b != api.ErrCall || c != api.ErrCall || d != api.ErrCall {
			t.Error(i, a, b, c, d)
		}
	}
	for _, budget := range []api.Ratio{{}, ratio(0, 1), ratio(1, 1), ratio(1, 1001), {Num: "3", Den: "6"}} {
		if r, e := call.Open(budget); r.Budget != (api.Ratio{}) || e != api.ErrCall {
			t.Error(budget, e)
		}
	}
	rich := example(t)
	rich.Races[0].Wealth, rich.Races[0].Called = ratio(1000000, 1), true
	if !call.Valid(rich) {
		t.Error("the greatest wealth")
	}
	full := example(t)
	for id := range 6 {
		k, e := call.Register(full, api.Race{ID: id, Sizes: []int{1}, Alpha: ratio(1, 1000), Bet: 1})
		full = must(t, k, e)
		k, e = call.Register(full, api.Race{ID: 999 - id, Sizes: []int{1}, Alpha: ratio(1, 1000), Bet: 1})
		if len(full.Races) == 12 {
			if e != api.ErrCall {
				t.Error("thirteen races", e)
			}
			continue
		}
		full = must(t, k, e)
	}
}

func TestP28_1Errors(t *testing.T) {
	r := example(t)
	for i, x := range []api.Race{{ID: 7, Sizes: []int{1}, Alpha: ratio(1, 10), Bet: 1}, {ID: 8, Sizes: []int{1}, Alpha: ratio(1, 2), Bet: 1}, {ID: 8, Alpha: ratio(1, 10), Bet: 1}, {ID: 8, Sizes: []int{1}, Alpha: ratio(1, 10)}} {
		if k, e := call.Register(r, x); k.Races != nil || e != api.ErrCall {
			t.Error(i, e)
		}
	}
	for i, l := range []api.Ballots{{District: -1}, {District: 2}, {From: -1}, {From: 1}, {Votes: make([]bool, 4)}, {From: 1 << 62}} {
		if k, n, e := call.Report(r, 7, l); k.Races != nil || n != 0 || e != api.ErrCall {
			t.Error(i, e)
		}
	}
	if _, _, e := call.Report(r, 8, api.Ballots{}); e != api.ErrCall {
		t.Error(e)
	}
	if v, e := call.Verdict(r, 8); v != 0 || e != api.ErrCall {
		t.Error(v, e)
	}
	x := api.Race{ID: 3, Sizes: []int{2}, Counted: []int{1}, Yes: 1, Alpha: ratio(1, 10), Bet: 5, Wealth: ratio(3, 1), Called: true}
	k, e := call.Register(r, x)
	k = must(t, k, e)
	if y := k.Races[0]; y.ID != 3 || y.Yes != 0 || y.Counted[0] != 0 || y.Wealth != ratio(1, 1) || y.Called {
		t.Error(y)
	}
	if call.Same(r, k) || !call.Same(r, example(t)) {
		t.Error("Same")
	}
}

// wrong returns in how many of all orders in which the other ballots can be counted a race is called, and how many orders there are.
func wrong(t *testing.T, r api.Races, at, yes, no int) (int64, int64) {
	if yes+no == 0 || r.Races[0].Called {
		n := new(big.Int).Binomial(int64(yes+no), int64(yes)).Int64()
		if r.Races[0].Called {
			return n, n
		}
		return 0, n
	}
	var called, all int64
	if yes > 0 {
		a, b := wrong(t, report(t, r, 0, at, true), at+1, yes-1, no)
		called, all = called+a, all+b
	}
	if no > 0 {
		a, b := wrong(t, report(t, r, 0, at, false), at+1, yes, no-1)
		called, all = called+a, all+b
	}
	return called, all
}

func TestP28_2WrongCalls(t *testing.T) {
	for _, c := range []struct{ n, yes, bet int }{{5, 2, 50}, {8, 4, 30}, {9, 4, 50}, {10, 5, 10}, {7, 3, 50}} {
		for _, d := range []int{2, 3, 10} {
			called, all := wrong(t, with(t, ratio(1, d), c.bet, c.n), 0, c.yes, c.n-c.yes)
			if called*int64(d) > all {
				t.Error(c, d, called, all)
			}
		}
	}
}

func votes(r *rand.Rand, n int) []bool {
	l := make([]bool, n)
	for i := range l {
		l[i] = r.Intn(5) > 0
	}
	return l
}

func TestP28_3Looks(t *testing.T) {
	r := rand.New(rand.NewSource(1))
	for range 30 {
		start := with(t, ratio(1, 20), 30, 20, 15)
		l := votes(r, 20)
		a := report(t, start, 0, 0, l...)
		b := start
		for at := 0; at < 20; {
			from, to := r.Intn(at+1), min(20, at+1+r.Intn(6))
			b = report(t, b, 0, from, l[from:to]...)
			at = to
		}
		if c := report(t, b, 0, 0, l...); !call.Same(a, b) || !call.Same(b, c) {
			t.Fatal(a, b)
		}
	}
}

func TestP28_4Budget(t *testing.T) {
	r := rand.New(rand.NewSource(2))
	x := with(t, ratio(1, 4), 20, 10, 10)
	before, _ := call.Left(x)
	for range 20 {
		d := r.Intn(2)
		x = report(t, x, d, 0, votes(r, r.Intn(11))...)
		if left, e := call.Left(x); left != before || e != api.OK {
			t.Fatal(left)
		}
	}
}

func TestP28_5Certain(t *testing.T) {
	r := rand.New(rand.NewSource(3))
	for range 60 {
		x := with(t, ratio(1, 3), 50, 12)
		last := api.COpen
		for at := range 12 {
			x = report(t, x, 0, at, r.Intn(2) == 0)
			v, y := verdict(t, x), x.Races[0]
			yes, left := y.Yes, 12-y.Counted[0]
			want := api.COpen
			switch {
			case yes+left <= 6 && y.Called:
				want = api.CWrong
			case yes+left <= 6:
				want = api.CLost
			case yes > 6:
				want = api.CCertain
			case y.Called:
				want = api.CCalled
			}
			if v != want || last >= api.CCertain && v != last {
				t.Fatal(v, want, last)
			}
			last = v
		}
		if (last == api.CCertain) != (x.Races[0].Yes > 6) {
			t.Fatal(x)
		}
	}
}

func TestP28_6OnceCalled(t *testing.T) {
	r := rand.New(rand.NewSource(4))
	for range 30 {
		x := with(t, ratio(1, 5), 1+r.Intn(50), 30)
		called := false
		for at := range 30 {
			x = report(t, x, 0, at, r.Intn(3) > 0)
			y := x.Races[0]
			if called && !y.Called || rational.Compare(y.Wealth, ratio(0, 1)) < 0 || !y.Called && rational.Compare(y.Wealth, ratio(5, 1)) >= 0 {
				t.Fatal(y)
			}
			called = y.Called
		}
	}
}

func TestP28_7All(t *testing.T) {
	for _, n := range []int{1, 2, 5, 20, 50} {
		yes, no := with(t, ratio(1, 100), 25, n), with(t, ratio(1, 100), 25, n)
		for at := range n {
			yes, no = report(t, yes, 0, at, true), report(t, no, 0, at, false)
			if no.Races[0].Called {
				t.Fatal("called for nothing")
			}
		}
		if v := verdict(t, yes); v != api.CCertain && v != api.CCalled {
			t.Error(n, v)
		}
		if verdict(t, no) != api.CLost {
			t.Error(n)
		}
	}
}

func TestP28_1Limits(t *testing.T) {
	r, e := call.Open(ratio(999, 1000))
	r = must(t, r, e)
	sizes := slices.Repeat([]int{50}, 20)
	sizes[3] = 0
	r, e = call.Register(r, api.Race{ID: 999, Sizes: sizes, Alpha: ratio(1, 1000), Bet: 50})
	r = must(t, r, e)
	r, e = call.Register(r, api.Race{Sizes: []int{1}, Alpha: ratio(998, 1000), Bet: 1})
	r = must(t, r, e)
	if left, e := call.Left(r); left.Num != "0" || e != api.OK || r.Races[0].ID != 0 {
		t.Error(left, e)
	}
	x := report(t, example(t), 0, 0, true, false)
	for _, c := range []struct{ from, votes int }{{1, 3}, {2, 2}, {3, 0}} {
		if _, _, e := call.Report(x, 7, api.Ballots{From: c.from, Votes: make([]bool, c.votes)}); e != api.ErrCall {
			t.Error(c, e)
		}
	}
	if y, n, e := call.Report(x, 7, api.Ballots{From: 2, Votes: []bool{true}}); n != 1 || y.Races[0].Yes != 2 || e != api.OK {
		t.Error(n, e)
	}
}
