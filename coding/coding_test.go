package coding_test

import (
	"strings"
	"testing"

	"newswire/api"
	"newswire/coding"
)

func valid(api.Node) bool { return true }

func TestThereAndBack(t *testing.T) {
	n := api.Node{ID: 7, Parent: -1, Kind: 5, Fact: 3, Version: 2, Source: 99, Not: true, Says: api.Statement{Who: 1, What: 2, Whom: -1, Count: api.Amount{Lo: 1, Hi: 2, Unit: 3}, From: 4, To: 5}, Text: "x"}
	var w coding.Writer
	w.Node(n)
	s, ok := w.Done()
	if !ok {
		t.Fatal("not written")
	}
	if m, next, ok := coding.Read("ab"+s+"c", 2, (*coding.Reader).Node, valid); m != n || next != 2+len(s) || !ok {
		t.Error(m, next, ok)
	}
	for i := range len(s) {
		if m, next, ok := coding.Read(s[:i], 0, (*coding.Reader).Node, valid); m != (api.Node{}) || next != 0 || ok {
			t.Error(i, m, next, ok)
		}
	}
	if _, _, ok := coding.Read(s, 0, (*coding.Reader).Node, func(api.Node) bool { return false }); ok {
		t.Error("what is not valid is read")
	}
	if _, _, ok := coding.Read(s, -1, (*coding.Reader).Node, valid); ok {
		t.Error("read outside of the text")
	}
}

func TestFailed(t *testing.T) {
	var w coding.Writer
	w.Ints(api.MaxInt + 1)
	w.List([]int{1})
	if s, e := w.Or(api.ErrFact); s != "" || e != api.ErrFact {
		t.Error(s, e)
	}
	var v coding.Writer
	v.String(strings.Repeat("x", api.MaxString+1))
	if _, ok := v.Done(); ok {
		t.Error("too long a string")
	}
}
