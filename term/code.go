package term

import (
	"newswire/api"
	"newswire/coding"
	"newswire/digest"
)

// Encode returns the encoding of t.
func Encode(t api.Term) (string, api.Errno) {
	if !Valid(t) {
		return "", api.ErrTerm
	}
	var w coding.Writer
	w.Ints(len(t.Nodes))
	for _, n := range t.Nodes {
		w.Node(n)
	}
	return w.Or(api.ErrTerm)
}

// Decode returns the valid term whose encoding begins in s at the offset at.
func Decode(s string, at int) (api.Term, int, api.Errno) {
	t, next, ok := coding.Read(s, at, func(r *coding.Reader) api.Term {
		return api.Term{Nodes: coding.Many(r, api.MaxNodes, r.Node)}
	}, Valid)
	return coding.Or(t, next, ok, api.ErrTerm)
}

// Digest returns the digest of the encoding of t.
func Digest(t api.Term) (string, api.Errno) {
	s, e := Encode(t)
	if e != api.OK {
		return "", e
	}
	return digest.Sum(s), api.OK
}
