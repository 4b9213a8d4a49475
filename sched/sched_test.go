package sched_test

import (
	"math/rand"
	"slices"
	"testing"

	"newswire/api"
	"newswire/sched"
)

func example(size, period int) []api.Stream {
	return []api.Stream{{Class: api.DTake, Size: size, Period: period}, {Class: api.DFlash, Size: 2, Period: 10}}
}

func some(r *rand.Rand) []api.Stream {
	var l []api.Stream
	for range 1 + r.Intn(5) {
		l = append(l, api.Stream{Class: 1 + r.Intn(3), Size: 1 + r.Intn(8), Period: 10 + r.Intn(60)})
	}
	return l
}

func arrivals(r *rand.Rand, l []api.Stream) []api.Arrival {
	var a []api.Arrival
	next := make([]int, len(l))
	for at := 0; at < 300 && len(a) < 55; at++ {
		for i, s := range l {
			if at >= next[i] && r.Intn(5) == 0 {
				a = append(a, api.Arrival{Stream: i, At: at})
				next[i] = at + s.Period
			}
		}
	}
	return a
}

func finish(t *testing.T, l []api.Stream, a []api.Arrival) []int {
	t.Helper()
	f, e := sched.Finish(l, a)
	if e != api.OK || len(f) != len(a) {
		t.Fatal(e)
	}
	return f
}

func before(l []api.Stream, i, j int) bool {
	return l[i].Class < l[j].Class || l[i].Class == l[j].Class && i < j
}

func TestP24_1Examples(t *testing.T) {
	l := example(4, 20)
	a := []api.Arrival{{}, {Stream: 1, At: 1}}
	if x, e := sched.Trace(l, a); !slices.Equal(x, []int{0, 1, 1, 0, 0, 0}) || e != api.OK {
		t.Error(x, e)
	}
	if x := finish(t, l, a); !slices.Equal(x, []int{6, 3}) {
		t.Error(x)
	}
	if x, e := sched.Trace(l, []api.Arrival{{Stream: 1, At: 2}}); !slices.Equal(x, []int{-1, -1, 0, 0}) || e != api.OK {
		t.Error(x, e)
	}
	if x, e := sched.Trace(l, nil); len(x) != 0 || e != api.OK {
		t.Error(x, e)
	}
	for i, c := range []struct {
		l    []api.Stream
		want []int
	}{{l, []int{6, 2}}, {example(10, 20), []int{14, 2}}, {example(10, 12), []int{-1, 2}}} {
		if x, e := sched.Response(c.l); !slices.Equal(x, c.want) || e != api.OK {
			t.Error(i, x, e)
		}
	}
	for i, c := range []struct {
		bytes       int
		wants, want []int
	}{{10, []int{2, 9, 9}, []int{2, 4, 4}}, {11, []int{2, 9, 9}, []int{2, 5, 4}}, {100, []int{2, 9, 9}, []int{2, 9, 9}}, {0, []int{5}, []int{0}}, {5, nil, nil}, {2, []int{1, 1, 1}, []int{1, 1, 0}}} {
		if x, e := sched.Divide(c.bytes, c.wants); !slices.Equal(x, c.want) || e != api.OK {
			t.Error(i, x, e)
		}
	}
}

func TestP24_1Errors(t *testing.T) {
	l := example(4, 20)
	for i, s := range []api.Stream{{}, {Class: 4, Size: 1, Period: 1}, {Class: 0, Size: 1, Period: 1}, {Class: 1, Size: 0, Period: 1}, {Class: 1, Size: 51, Period: 1}, {Class: 1, Size: 1, Period: 0}, {Class: 1, Size: 1, Period: 1001}} {
		if x, e := sched.Response([]api.Stream{s}); sched.Valid([]api.Stream{s}) || x != nil || e != api.ErrSched {
			t.Error(i, e)
		}
	}
	if sched.Valid(nil) || sched.Valid(slices.Repeat(l, 5)) || !sched.Valid(slices.Repeat(l, 4)) {
		t.Error("the number of streams")
	}
	var many []api.Arrival
	for i := range 61 {
		many = append(many, api.Arrival{At: 20 * i})
	}
	if !sched.Proper(l, many[:60]) {
		t.Error("60 arrivals")
	}
	for i, a := range [][]api.Arrival{many, {{Stream: 2}}, {{Stream: -1}}, {{At: -1}}, {{At: 2001}}, {{At: 5}, {Stream: 1, At: 4}}, {{Stream: 1}, {Stream: 0}}, {{}, {}}, {{}, {At: 19}}} {
		_, e := sched.Trace(l, a)
		_, f := sched.Finish(l, a)
		if sched.Proper(l, a) || e != api.ErrSched || f != api.ErrSched {
			t.Error(i, e, f)
		}
	}
	if sched.Proper(nil, nil) {
		t.Error("proper for no streams")
	}
	for i, c := range []struct {
		bytes int
		wants []int
	}{{-1, nil}, {1000001, nil}, {5, []int{-1}}, {5, []int{1000001}}, {5, make([]int, 9)}} {
		if x, e := sched.Divide(c.bytes, c.wants); x != nil || e != api.ErrSched {
			t.Error(i, e)
		}
	}
}

func TestP24_2Latencies(t *testing.T) {
	r := rand.New(rand.NewSource(1))
	for range 500 {
		l := some(r)
		a := arrivals(r, l)
		bound, _ := sched.Response(l)
		for i, f := range finish(t, l, a) {
			if b := bound[a[i].Stream]; b != -1 && f-a[i].At > b {
				t.Fatal(l, a, i, f, b)
			}
		}
	}
}

func TestP24_3NoLess(t *testing.T) {
	r := rand.New(rand.NewSource(2))
	for range 300 {
		l := some(r)
		bound, _ := sched.Response(l)
		for i := range l {
			if bound[i] == -1 {
				continue
			}
			var a []api.Arrival
			first := -1
			for at := range 100 {
				for j := range l {
					if (j == i || before(l, j, i)) && at%l[j].Period == 0 && len(a) < 60 {
						if j == i && first < 0 {
							first = len(a)
						}
						a = append(a, api.Arrival{Stream: j, At: at})
					}
				}
			}
			if f := finish(t, l, a); len(a) < 60 && f[first] != bound[i] {
				t.Fatal(l, i, f[first], bound[i])
			}
		}
	}
}

func TestP24_4Preemption(t *testing.T) {
	r := rand.New(rand.NewSource(3))
	for range 300 {
		l := some(r)
		a := arrivals(r, l)
		if len(a) == 0 {
			continue
		}
		all := finish(t, l, a)
		k := r.Intn(len(a))
		for i, f := range finish(t, l, slices.Delete(slices.Clone(a), k, k+1)) {
			j := i
			if i >= k {
				j++
			}
			if f > all[j] || f != all[j] && before(l, a[j].Stream, a[k].Stream) {
				t.Fatal(l, a, k, j)
			}
		}
	}
}

func TestP24_5TheLine(t *testing.T) {
	r := rand.New(rand.NewSource(4))
	for range 300 {
		l := some(r)
		a := arrivals(r, l)
		trace, e := sched.Trace(l, a)
		f := finish(t, l, a)
		if e != api.OK || len(trace) > 0 && trace[len(trace)-1] < 0 {
			t.Fatal(e)
		}
		sent := make([]int, len(a))
		for tick, i := range trace {
			for j, x := range a {
				waiting := x.At <= tick && sent[j] < l[x.Stream].Size
				if waiting && (i < 0 || before(l, x.Stream, a[i].Stream) || x.Stream == a[i].Stream && j < i) {
					t.Fatal("the wrong one is sent", tick, i, j)
				}
			}
			if i < 0 {
				continue
			}
			sent[i]++
			if a[i].At > tick || sent[i] == l[a[i].Stream].Size && f[i] != tick+1 {
				t.Fatal(tick, i)
			}
		}
		for i, x := range a {
			if sent[i] != l[x.Stream].Size {
				t.Fatal(i, sent[i])
			}
		}
	}
}

func divide(t *testing.T, bytes int, wants []int) []int {
	t.Helper()
	l, e := sched.Divide(bytes, wants)
	if e != api.OK {
		t.Fatal(e)
	}
	return l
}

func TestP24_6Fairness(t *testing.T) {
	r := rand.New(rand.NewSource(5))
	for range 2000 {
		wants := make([]int, 1+r.Intn(8))
		all := 0
		for i := range wants {
			wants[i] = r.Intn(20)
			all += wants[i]
		}
		bytes := r.Intn(100)
		got, more := divide(t, bytes, wants), divide(t, bytes+1, wants)
		sum := 0
		for i, n := range got {
			sum += n
			if n > wants[i] || more[i] < n {
				t.Fatal(wants, bytes, got, more)
			}
			for j, m := range got {
				if m < wants[j] && n > m+1 {
					t.Fatal(wants, bytes, got)
				}
			}
		}
		if sum != min(bytes, all) {
			t.Fatal(wants, bytes, got)
		}
		slices.Reverse(wants)
		back := divide(t, bytes, wants)
		slices.Reverse(back)
		for i := range got {
			if d := got[i] - back[i]; d < -1 || d > 1 {
				t.Fatal(wants, got, back)
			}
		}
	}
}

func TestP24_1Limits(t *testing.T) {
	l := []api.Stream{{Class: 1, Size: 50, Period: 1000}, {Class: 3, Size: 1, Period: 1}, {Class: 2, Size: 1, Period: 2}}
	if !sched.Valid(l) || !sched.Proper(l, []api.Arrival{{Stream: 1, At: 0}, {Stream: 1, At: 1}, {Stream: 0, At: 2000}}) {
		t.Error("the greatest numbers")
	}
	l = []api.Stream{{Class: 1, Size: 1, Period: 20}}
	for second, ok := range map[int]bool{24: false, 25: true, 44: true} {
		if sched.Proper(l, []api.Arrival{{At: 5}, {At: second}}) != ok {
			t.Error(second)
		}
	}
	if r, e := sched.Response([]api.Stream{{Class: 1, Size: 10, Period: 10}, {Class: 1, Size: 1, Period: 10}}); !slices.Equal(r, []int{10, -1}) || e != api.OK {
		t.Error(r, e)
	}
	if x, e := sched.Divide(1000000, []int{1000000, 0}); !slices.Equal(x, []int{1000000, 0}) || e != api.OK {
		t.Error(x, e)
	}
	if x, e := sched.Divide(3, slices.Repeat([]int{1000000}, 8)); !slices.Equal(x, []int{1, 1, 1, 0, 0, 0, 0, 0}) || e != api.OK {
		t.Error(x, e)
	}
}
