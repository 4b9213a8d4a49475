package lineage

import (
	"iter"
	"slices"

	"newswire/api"
	"newswire/copies"
	"newswire/edit"
	"newswire/lists"
	"newswire/patch"
	"newswire/term"
)

// family is a family whose copies can be visited.
type family api.Family

// all yields the numbers of all copies, and the copies as they are then.
func (f family) all() iter.Seq2[int, api.Copy] {
	return func(yield func(int, api.Copy) bool) {
		for i := range f.Copies {
			if !yield(i, f.Copies[i]) {
				return
			}
		}
	}
}

// view returns the view that c, a copy of above, has of a term of above, and its conflicts.
func view(above api.Copy, c api.Copy, number int) (api.Term, []api.Conflict, api.Errno) {
	if number == c.Base {
		return copies.Term(c.Terms[0]), nil, api.OK
	}
	p, e := patch.Compile(above.Terms[c.Base], above.Terms[number])
	if e != api.OK {
		return api.Term{}, nil, e
	}
	q, conflicts, e := patch.Rebase(above.Terms[c.Base], p, c.Edits)
	if e != api.OK {
		return api.Term{}, nil, e
	}
	t, e := patch.Apply(c.Terms[0], q)
	return t, conflicts, e
}

// changer is a family that is being changed. Its terms and edits are its own.
type changer struct {
	family
}

// refused is the value of the panic with which a change ends that is refused.
type refused struct{}

// demand gives the change up unless ok is true.
func demand(ok bool) {
	if !ok {
		panic(refused{})
	}
}

// changing returns what change makes of f.
func changing(f api.Family, change func(c *changer)) (g api.Family, e api.Errno) {
	if !Valid(f) {
		return api.Family{}, api.ErrLineage
	}
	defer func() {
		if recover() != nil {
			g, e = api.Family{}, api.ErrLineage
		}
	}()
	c := &changer{family(copies.Family(f))}
	change(c)
	return api.Family(c.family), api.OK
}

// check gives the change up unless a copy that was changed is valid. (What a copy has seen of another one never changes, so all others still are.)
func (c *changer) check(i int) {
	demand(len(c.Copies) <= api.MaxCopies && valid(api.Family(c.family), i))
}

func (c *changer) derive(of int, l []api.Edit) {
	demand(0 <= of && of < len(c.Copies))
	last := len(c.Copies[of].Terms) - 1
	first, n, e := edit.Apply(c.Copies[of].Terms[last], l)
	demand(e == api.OK && n == len(l))
	c.Copies = append(c.Copies, api.Copy{Of: of, Edits: lists.Map(l, copies.Edit), Base: last, Got: last, Terms: []api.Term{first}})
	c.check(len(c.Copies) - 1)
}

// show puts t after the terms of a copy, if it is not the newest one already.
func (c *changer) show(i int, t api.Term) {
	k := &c.Copies[i]
	if !term.Same(newest(*k), t) {
		k.Terms = append(k.Terms, copies.Term(t))
	}
}

func (c *changer) correct(t api.Term) {
	c.show(0, t)
	c.check(0)
}

func (c *changer) deliver(i int, number int) {
	demand(0 < i && i < len(c.Copies))
	k := &c.Copies[i]
	above := c.Copies[k.Of]
	demand(0 <= number && number < len(above.Terms))
	if number <= k.Got {
		return
	}
	t, conflicts, e := view(above, *k, number)
	demand(e == api.OK)
	k.Got, k.Conflicts = number, conflicts
	c.show(i, t)
	c.check(i)
}

func (c *changer) receipt(i int) api.Receipt {
	k := c.Copies[i]
	d, e := term.Digest(newest(k))
	demand(e == api.OK)
	return api.Receipt{Copy: i, Got: k.Got, Number: len(k.Terms) - 1, Digest: d, Conflicts: slices.Clone(k.Conflicts)}
}
