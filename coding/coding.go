// Package coding writes and reads rows of encoded integers and strings, for the encodings of the layers.
package coding

import (
	"newswire/api"
	"newswire/wire"
)

// Text is what has been written, unless something could not be.
type Text struct {
	bytes  []byte
	failed bool
}

// Writer writes encodings, one after the other.
type Writer struct {
	Text
}

// put writes an encoding, or notes that there is none.
func (t *Text) put(s string, e api.Errno) {
	t.bytes = append(t.bytes, s...)
	t.failed = t.failed || e != api.OK
}

// Done returns what was written, or false if something could not be.
func (t *Text) Done() (string, bool) {
	if t.failed {
		return "", false
	}
	return string(t.bytes), true
}

// Or returns what was written, or the error if something could not be.
func (t *Text) Or(e api.Errno) (string, api.Errno) {
	s, ok := t.Done()
	if !ok {
		return "", e
	}
	return s, api.OK
}

// Put writes an encoding that a function has returned.
func (w *Writer) Put(s string, e api.Errno) {
	w.put(s, e)
}

// Ints writes integers.
func (w *Writer) Ints(l ...int) {
	for _, n := range l {
		w.put(wire.PutInt(n))
	}
}

// List writes how many integers there are, and each of them.
func (w *Writer) List(l []int) {
	w.Ints(len(l))
	w.Ints(l...)
}

// Bool writes 1 or 0.
func (w *Writer) Bool(b bool) {
	if b {
		w.Ints(1)
	} else {
		w.Ints(0)
	}
}

// String writes a string.
func (w *Writer) String(s string) {
	w.put(wire.PutString(s))
}

// Statement writes a statement.
func (w *Writer) Statement(s api.Statement) {
	w.Ints(s.Who, s.What, s.Whom, s.Count.Lo, s.Count.Hi, s.Count.Unit, s.From, s.To)
}

// Node writes a node from its number on.
func (w *Writer) Node(n api.Node) {
	w.Ints(n.ID, n.Parent, n.Kind, n.Fact, n.Version, n.Source)
	w.Bool(n.Not)
	w.Statement(n.Says)
	w.String(n.Text)
}
