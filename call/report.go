package call

import (
	"newswire/api"
	"newswire/rational"
)

// percent is the denominator of bets.
const percent = 100

// find returns the index of the first element for which is is true, or false.
func find[T any](l []T, is func(T) bool) (int, bool) {
	for i, x := range l {
		if is(x) {
			return i, true
		}
	}
	return 0, false
}

// race returns the index of the race id of r, if r is valid.
func race(r api.Races, id int) (int, bool) {
	i, ok := find(r.Races, func(x api.Race) bool { return x.ID == id })
	return i, ok && Valid(r)
}

func half(x api.Race) int {
	return sum(x.Sizes) / 2
}

// uncounted returns how many ballots have not been counted.
func uncounted(x api.Race) int {
	return sum(x.Sizes) - sum(x.Counted)
}

// bet returns the wealth after a ballot. The race bets against the claim that at most half of all ballots say yes: among those that are left, at most a part m.
func bet(x api.Race, yes bool) api.Ratio {
	m := fraction(half(x)-x.Yes, uncounted(x))
	if !less(whole(0), m) || !less(m, whole(1)) {
		return x.Wealth
	}
	b := fraction(x.Bet, percent)
	factor := sub(whole(1), b)
	if yes {
		factor = add(whole(1), div(mul(b, sub(whole(1), m)), m))
	}
	return exact(rational.Down(mul(x.Wealth, factor), api.BetPlaces))
}

// count counts a ballot of a district.
func count(x *api.Race, district int, yes bool) {
	if !x.Called {
		x.Wealth = bet(*x, yes)
		x.Called = enough(x.Wealth, x.Alpha)
	}
	x.Counted[district]++
	if yes {
		x.Yes++
	}
}

func fits(x api.Race, l api.Ballots) bool {
	return 0 <= l.District && l.District < len(x.Sizes) &&
		0 <= l.From && l.From <= x.Counted[l.District] &&
		len(l.Votes) <= x.Sizes[l.District]-l.From
}

// Report counts the ballots of l for a race, as far as they have not been counted.
func Report(r api.Races, id int, l api.Ballots) (api.Races, int, api.Errno) {
	i, ok := race(r, id)
	if !ok || !fits(r.Races[i], l) {
		return api.Races{}, 0, api.ErrCall
	}
	r, e := checked(r)
	if e != api.OK {
		return api.Races{}, 0, e
	}
	x := &r.Races[i]
	known := min(len(l.Votes), x.Counted[l.District]-l.From)
	_, ok = computed(func() bool {
		for _, yes := range l.Votes[known:] {
			count(x, l.District, yes)
		}
		return true
	})
	if !ok {
		return api.Races{}, 0, api.ErrCall
	}
	return r, len(l.Votes) - known, api.OK
}

// judgement is a verdict, and when it is given.
type judgement struct {
	verdict int
	given   func() bool
}

// judgements returns all verdicts on x, the first one that is given being the right one.
func judgements(x api.Race) []judgement {
	lost := func() bool { return x.Yes+uncounted(x) <= half(x) }
	return []judgement{
		{api.CWrong, func() bool { return lost() && x.Called }},
		{api.CLost, lost},
		{api.CCertain, func() bool { return x.Yes > half(x) }},
		{api.CCalled, func() bool { return x.Called }},
		{api.COpen, func() bool { return true }},
	}
}

// Verdict returns the verdict on a race.
func Verdict(r api.Races, id int) (int, api.Errno) {
	i, ok := race(r, id)
	if !ok {
		return 0, api.ErrCall
	}
	l := judgements(r.Races[i])
	first, _ := find(l, func(j judgement) bool { return j.given() })
	return l[first].verdict, api.OK
}
