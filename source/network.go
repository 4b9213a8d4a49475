package source

import (
	"iter"
	"math/bits"
	"slices"

	"newswire/api"
)

// set is a set of IDs, each of which is a bit.
type set uint32

func bit(id int) set {
	return 1 << id
}

func setOf(ids []int) set {
	var s set
	for _, id := range ids {
		s |= bit(id)
	}
	return s
}

func (s set) has(id int) bool {
	return s&bit(id) != 0
}

// all yields the elements of s in ascending order.
func (s set) all() iter.Seq[int] {
	return func(yield func(int) bool) {
		for s != 0 {
			if !yield(bits.TrailingZeros32(uint32(s))) {
				return
			}
			s &= s - 1
		}
	}
}

// way is a list of IDs, each of which is quoted by the next one.
type way []int

// compare orders ways: one comes before another one that begins with it.
func (w way) compare(v way) int {
	return slices.Compare(w, v)
}

// last returns the source to which w leads so far.
func (w way) last() int {
	return w[len(w)-1]
}

// network is who quotes whom, who has seen for itself, and who asserts something.
type network struct {
	from   [api.MaxSources]set
	quoted [api.MaxSources]set
	first  set
	said   set
}

func read(l []api.Source) *network {
	n := &network{}
	for _, s := range l {
		n.from[s.ID] = setOf(s.From)
		for _, id := range s.From {
			n.quoted[id] |= bit(s.ID)
		}
		if len(s.From) == 0 {
			n.first |= bit(s.ID)
		}
	}
	return n
}

// origins yields those who have seen for themselves what reaches one of the sources.
func (n *network) origins(reached set) iter.Seq[int] {
	for before := set(0); before != reached; {
		before = reached
		for id := range before.all() {
			reached |= n.from[id]
		}
	}
	return (reached & n.first).all()
}

// isWay reports whether w, whose IDs are known to be different, is a way to one who asserts something.
func (n *network) isWay(w way) bool {
	if len(w) == 0 || !n.first.has(w[0]) || !n.said.has(w.last()) {
		return false
	}
	for i, id := range w[1:] {
		if !n.from[id].has(w[i]) {
			return false
		}
	}
	return true
}

// In a flow, a source has a place where it is entered and one where it is left: only one unit goes from the one to the other.
const (
	begin  = 2 * api.MaxSources
	finish = begin + 1
	places = finish + 1
)

// places of a source.
func entry(id int) int { return 2 * id }
func exit(id int) int  { return 2*id + 1 }

// usedUp reports whether only one unit can go between two places: within a source, or back.
func usedUp(at int, next int) bool {
	return at < begin && at%2 == 0 || at%2 == 1 && next == at-1
}

// open returns to which other places something can go from each one.
func (n *network) open(allowed set, starts set) [places]set {
	var open [places]set
	for id := range allowed.all() {
		open[entry(id)] |= bit(exit(id))
		for next := range (n.quoted[id] & allowed).all() {
			open[exit(id)] |= bit(entry(next))
		}
		if starts.has(id) {
			open[begin] |= bit(entry(id))
		}
		if n.said.has(id) {
			open[exit(id)] |= bit(finish)
		}
	}
	return open
}

// flow returns how many ways there are from starts to those who assert something that use each of the allowed sources at most once, and the first cut.
func (n *network) flow(allowed set, starts set) (int, set) {
	open := n.open(allowed, starts)
	var seen set
	var push func(at int) bool
	push = func(at int) bool {
		seen |= bit(at)
		if at == finish {
			return true
		}
		for next := range open[at].all() {
			if !seen.has(next) && push(next) {
				if usedUp(at, next) {
					open[at] &^= bit(next)
				}
				open[next] |= bit(at)
				return true
			}
		}
		return false
	}
	count := 0
	for push(begin) {
		count++
		seen = 0
	}
	var cut set
	for id := range allowed.all() {
		if seen.has(entry(id)) && !seen.has(exit(id)) {
			cut |= bit(id)
		}
	}
	return count, cut
}

// completes reports whether w can be continued to a way that is one of so many that use allowed sources alone, each at most once.
// Sets of starts from which there are separate ways form a matroid: so it is enough that there is a way from the last source of w, and that there are so many ways if it counts as a start.
func (n *network) completes(w way, allowed set, ways int) bool {
	end := bit(w.last())
	rest := allowed&^setOf(w) | end
	alone, _ := n.flow(rest, end)
	together, _ := n.flow(rest, n.first|end)
	return alone == 1 && together >= ways
}

// least returns the least way that is one of so many, as many as there are, that use allowed sources alone, each at most once.
func (n *network) least(allowed set, ways int) way {
	w, next := way{}, n.first&allowed
	for {
		var longer []way
		for id := range next.all() {
			if v := append(slices.Clone(w), id); n.completes(v, allowed, ways) {
				longer = append(longer, v)
			}
		}
		w = slices.MinFunc(longer, way.compare)
		if n.said.has(w.last()) { // whatever completes a longer way completes this one, too
			return w
		}
		next = n.quoted[w.last()] & allowed &^ setOf(w)
	}
}
