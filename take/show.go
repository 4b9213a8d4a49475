package take

import "newswire/api"

// received has takes of one story by their numbers, and the greatest number.
type received struct {
	takes map[int]api.Take
	last  int
}

// gather returns the takes of l by their numbers, or false if they contradict each other.
func gather(l []api.Take) (received, bool) {
	r := received{takes: map[int]api.Take{}}
	for _, k := range l {
		old, known := r.takes[k.Number]
		if !Valid(k) || k.Story != l[0].Story || known && !Same(old, k) {
			return received{}, false
		}
		r.takes[k.Number], r.last = k, max(r.last, k.Number)
	}
	return r, len(l) <= maxReceived
}

// start reports whether the story can be known from a number on.
func (r received) start(number int) bool {
	k, known := r.takes[number]
	return known && (k.Kind == api.TWrite || number == 1)
}

// known returns the greatest number up to which the story is known, and what is known then. Where it breaks off, only a later start can go on.
func (r received) known() (int, api.Term) {
	var best, t api.Term
	number, going := 0, false
	for n := 1; n <= r.last; n++ {
		if r.start(n) {
			t, going = api.Term{}, true
		}
		k, got := r.takes[n]
		if !going || !got {
			going = false
			continue
		}
		var e api.Errno
		if t, e = Next(t, k); e != api.OK {
			going = false
			continue
		}
		number, best = n, t
	}
	return number, best
}

// Show returns what is seen when l has been received.
func Show(l []api.Take) (api.Seen, api.Errno) {
	r, ok := gather(l)
	if !ok {
		return api.Seen{}, api.ErrTake
	}
	var s api.Seen
	s.Number, s.Term = r.known()
	for n := s.Number + 1; n <= r.last; n++ {
		if _, got := r.takes[n]; !got {
			s.Missing = append(s.Missing, n)
		}
	}
	return s, api.OK
}
