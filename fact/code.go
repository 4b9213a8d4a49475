package fact

import (
	"newswire/api"
	"newswire/coding"
)

// Encode returns the encoding of v.
func Encode(v api.Version) (string, api.Errno) {
	if len(v.Sources) > api.MaxSources {
		return "", api.ErrFact
	}
	var w coding.Writer
	w.Ints(v.Fact, v.Number, v.Kind)
	w.Statement(v.Says)
	w.Ints(v.At)
	w.List(v.Sources)
	return w.Or(api.ErrFact)
}

// Decode returns the version whose encoding begins in s at the offset at.
func Decode(s string, at int) (api.Version, int, api.Errno) {
	v, next, ok := coding.Read(s, at, readVersion, func(api.Version) bool { return true })
	return coding.Or(v, next, ok, api.ErrFact)
}

func readVersion(r *coding.Reader) api.Version {
	var v api.Version
	r.Ints(&v.Fact, &v.Number, &v.Kind)
	v.Says = r.Statement()
	r.Ints(&v.At)
	v.Sources = r.List(api.MaxSources)
	return v
}
