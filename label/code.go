package label

import (
	"newswire/api"
	"newswire/coding"
)

// Encode returns the encoding of l.
func Encode(l api.Label) (string, api.Errno) {
	if !Valid(l) {
		return "", api.ErrLabel
	}
	var w coding.Writer
	w.Ints(l.Until)
	w.List(l.Events)
	w.Ints(len(l.Counts))
	for _, c := range l.Counts {
		w.Ints(c.Fact, c.Count)
	}
	w.Ints(l.Territories, l.Classes, len(l.Locks))
	for _, q := range l.Locks {
		w.Ints(q.Need)
		w.List(q.Keys)
	}
	return w.Or(api.ErrLabel)
}

// Decode returns the valid label whose encoding begins in s at the offset at.
func Decode(s string, at int) (api.Label, int, api.Errno) {
	l, next, ok := coding.Read(s, at, readLabel, Valid)
	return coding.Or(l, next, ok, api.ErrLabel)
}

func readLabel(r *coding.Reader) api.Label {
	l := api.Label{Until: r.Int(), Events: r.List(api.MaxEvents)}
	l.Counts = coding.Many(r, api.MaxFacts, func() api.Confirmed {
		return api.Confirmed{Fact: r.Int(), Count: r.Int()}
	})
	r.Ints(&l.Territories, &l.Classes)
	l.Locks = coding.Many(r, api.MaxLocks, func() api.Quorum {
		return api.Quorum{Need: r.Int(), Keys: r.List(api.MaxKeys)}
	})
	return l
}
