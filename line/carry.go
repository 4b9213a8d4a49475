package line

import (
	"cmp"
	"slices"

	"newswire/api"
	"newswire/lists"
)

// The greatest numbers of frames that are carried, and in a fate.
const (
	maxCarried = 200
	maxSplit   = 100
	maxSpoil   = 1000
)

// arrival is an encoding that arrives at a tick, for the first time or once more.
type arrival struct {
	tick int
	more int
	text string
}

// compare orders arrivals by their ticks; what comes once more comes after what comes for the first time.
func (a arrival) compare(b arrival) int {
	return cmp.Or(cmp.Compare(a.tick, b.tick), cmp.Compare(a.more, b.more))
}

func validFate(f api.Fate) bool {
	return f.Delay <= api.MaxDelay &&
		0 <= f.Again && f.Again <= api.MaxDelay &&
		0 <= f.Split && f.Split <= maxSplit &&
		0 <= f.Spoil && f.Spoil <= maxSpoil
}

// sent returns the frames that are sent in the place of f: two, if it is split.
func sent(f api.Frame, split int) []api.Frame {
	if a, b, e := Split(f, split); e == api.OK {
		return []api.Frame{a, b}
	}
	return []api.Frame{f}
}

// spoiled returns s with another byte at an index, modulo its length; s itself for the index 0.
func spoiled(s string, index int) string {
	if index == 0 {
		return s
	}
	b := []byte(s)
	b[index%len(b)]++
	return string(b)
}

// Carry returns the encodings that arrive of frames with these fates.
func Carry(l []api.Frame, fates []api.Fate) ([]string, api.Errno) {
	if len(l) > maxCarried || len(fates) > len(l) || !lists.All(l, Valid) || !lists.All(fates, validFate) {
		return nil, api.ErrLine
	}
	var arrivals []arrival
frames:
	for i, f := range l {
		var fate api.Fate
		if i < len(fates) {
			fate = fates[i]
		}
		for _, g := range sent(f, fate.Split) {
			if fate.Delay < 0 {
				continue frames
			}
			s, _ := Encode(g)
			first := arrival{tick: i + fate.Delay, text: spoiled(s, fate.Spoil)}
			arrivals = append(arrivals, first)
			if fate.Again != 0 {
				arrivals = append(arrivals, arrival{tick: first.tick + fate.Again, more: 1, text: first.text})
			}
		}
	}
	slices.SortStableFunc(arrivals, arrival.compare)
	return lists.Map(arrivals, func(a arrival) string { return a.text }), api.OK
}
