package coding

import (
	"newswire/api"
	"newswire/wire"
)

// Position is where a reader is.
type Position struct {
	At int
}

// Reader reads encodings, one after the other. Its methods give up, by a panic that Read recovers, where there is none.
type Reader struct {
	Position
	text string
}

// gaveUp is the value of the panic.
type gaveUp struct{}

// Read returns what read makes of the bytes of s from the offset at on, and the offset after them; false if it gives up, or the result is not valid.
func Read[T any](s string, at int, read func(r *Reader) T, valid func(T) bool) (x T, next int, ok bool) {
	defer func() {
		if recover() != nil {
			var none T
			x, next, ok = none, 0, false
		}
	}()
	r := &Reader{Position: Position{At: at}, text: s}
	x = read(r)
	Demand(valid(x))
	return x, r.At, true
}

// Or returns the result of Read with an error in the place of false.
func Or[T any](x T, next int, ok bool, e api.Errno) (T, int, api.Errno) {
	if !ok {
		return x, 0, e
	}
	return x, next, api.OK
}

// Demand gives up unless ok is true.
func Demand(ok bool) {
	if !ok {
		panic(gaveUp{})
	}
}

// Part reads what a function decodes.
func Part[T any](r *Reader, decode func(s string, at int) (T, int, api.Errno)) T {
	x, next, e := decode(r.text, r.At)
	Demand(e == api.OK)
	r.At = next
	return x
}

// Int reads an integer.
func (r *Reader) Int() int {
	return Part(r, wire.Int)
}

// String reads a string.
func (r *Reader) String() string {
	return Part(r, wire.String)
}

// Ints reads an integer for each of the given places.
func (r *Reader) Ints(to ...*int) {
	for _, n := range to {
		*n = r.Int()
	}
}

// Count reads a number from 0 to most.
func (r *Reader) Count(most int) int {
	n := r.Int()
	Demand(0 <= n && n <= most)
	return n
}

// Bool reads 1 or 0.
func (r *Reader) Bool() bool {
	return r.Count(1) == 1
}

// Many reads a number from 0 to most, and as many elements.
func Many[T any](r *Reader, most int, read func() T) []T {
	var l []T
	for range r.Count(most) {
		l = append(l, read())
	}
	return l
}

// List reads a number from 0 to most, and as many integers.
func (r *Reader) List(most int) []int {
	return Many(r, most, r.Int)
}

// Statement reads a statement.
func (r *Reader) Statement() api.Statement {
	var s api.Statement
	r.Ints(&s.Who, &s.What, &s.Whom, &s.Count.Lo, &s.Count.Hi, &s.Count.Unit, &s.From, &s.To)
	return s
}

// Node reads a node from its number on.
func (r *Reader) Node() api.Node {
	var n api.Node
	r.Ints(&n.ID, &n.Parent, &n.Kind, &n.Fact, &n.Version, &n.Source)
	n.Not = r.Bool()
	n.Says = r.Statement()
	n.Text = r.String()
	return n
}
