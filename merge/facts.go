package merge

import (
	"cmp"
	"maps"
	"slices"

	"newswire/api"
	"newswire/copies"
	"newswire/lists"
)

// past is the versions of a fact so far.
type past struct {
	versions []api.Version
}

// history is the past of a fact, and its base.
type history struct {
	past
	base api.Version
}

// newest returns the version that was added last; a zero one if there is none.
func (p past) newest() api.Version {
	if len(p.versions) == 0 {
		return api.Version{}
	}
	return p.versions[len(p.versions)-1]
}

// holds reports whether the fact holds as its newest version says.
func (p past) holds() bool {
	kind := p.newest().Kind
	return kind == api.VAssert || kind == api.VCorrect || kind == api.VDispute
}

// closed reports whether there is no place for a version of a kind: the last number is kept for a kill.
func (p past) closed(kind int) bool {
	last := p.newest()
	return last.Kind == api.VKill || last.Number >= api.MaxVersions || last.Number == api.MaxVersions-1 && kind != api.VKill
}

// version returns the version that x adds, or false if it is skipped.
func (h *history) version(x api.Filing) (api.Version, bool) {
	last := h.newest()
	v := api.Version{Fact: x.Fact, Number: last.Number + 1, Kind: x.Kind, Says: last.Says, At: x.At, Sources: slices.Clone(x.Sources)}
	switch x.Kind {
	case api.VAssert, api.VCorrect:
		v.Kind, v.Says = api.VAssert, x.Says
		if h.holds() {
			v.Kind = api.VCorrect
			if h.base.Says == x.Says {
				v.Sources = lists.Merge(x.Sources, h.base.Sources, cmp.Compare[int], lists.First)
			}
		}
		return v, true
	case api.VKill:
		return v, last.Number > 0
	}
	return v, h.holds()
}

// add adds the version that x adds, and reports whether it adds one.
func (h *history) add(x api.Filing) bool {
	if h.closed(x.Kind) {
		return false
	}
	v, ok := h.version(x)
	if !ok {
		return false
	}
	h.versions = append(h.versions, v)
	if v.Kind == api.VAssert || v.Kind == api.VCorrect {
		h.base = v
	}
	return true
}

// place is where a filing is in the order of filing.
type place = [3]int

// ordered returns filings in the order of filing: by minutes, then by desks, then by numbers.
func ordered(l []api.Filing) []api.Filing {
	at := map[place]api.Filing{}
	for _, x := range l {
		at[place{x.At, x.Desk, x.Number}] = x
	}
	places := slices.SortedFunc(maps.Keys(at), func(a, b place) int { return slices.Compare(a[:], b[:]) })
	return lists.Map(places, func(p place) api.Filing { return at[p] })
}

// Facts returns the facts of d, and which filings were skipped.
func Facts(d api.Desk) (api.File, [][2]int, api.Errno) {
	if !Valid(d) {
		return api.File{}, nil, api.ErrMerge
	}
	var histories [api.MaxFacts]history
	var skipped [][2]int
	for _, x := range ordered(d.Filings) {
		if !histories[x.Fact].add(x) {
			skipped = append(skipped, [2]int{x.Desk, x.Number})
		}
	}
	f := api.File{Sources: lists.Map(d.Sources, copies.Source)}
	for _, h := range histories {
		f.Versions = append(f.Versions, h.versions...)
	}
	return f, skipped, api.OK
}
