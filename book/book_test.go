package book_test

import (
	"math/rand"
	"slices"
	"strings"
	"testing"

	"newswire/api"
	"newswire/book"
	"newswire/digest"
)

func posting(day, debtor, creditor, amount, subject int) api.Posting {
	return api.Posting{Kind: api.PFee, Day: day, Debtor: debtor, Creditor: creditor, Amount: amount, Subject: subject, Of: -1}
}

func example(t *testing.T) api.Book {
	t.Helper()
	b, i, e := book.Post(api.Book{Accounts: 3}, posting(5, 0, 1, 90, 7))
	if e != api.OK || i != 0 {
		t.Fatal(i, e)
	}
	return b
}

func must(t *testing.T, b api.Book, e api.Errno) api.Book {
	t.Helper()
	if e != api.OK || !book.Valid(b) {
		t.Fatal(b, e)
	}
	return b
}

// some is a book with random postings, disputes and closed months.
func some(t *testing.T, r *rand.Rand) api.Book {
	t.Helper()
	b := api.Book{Accounts: 2 + r.Intn(4)}
	day := 0
	for range r.Intn(25) {
		day += r.Intn(12)
		k, e := b, api.OK
		switch r.Intn(5) {
		case 0:
			k, e = book.Dispute(b, r.Intn(len(b.Postings)+1), day, r.Intn(3)*50)
		case 1:
			k, e = book.Close(b, r.Intn(3))
		default:
			k, _, e = book.Post(b, posting(day, r.Intn(b.Accounts), r.Intn(b.Accounts), 1+r.Intn(100), r.Intn(3)))
		}
		if e == api.OK {
			b = must(t, k, e)
		}
	}
	return b
}

func statement(t *testing.T, b api.Book, month int) []int {
	t.Helper()
	l, e := book.Statement(b, month)
	if e != api.OK || len(l) != b.Accounts {
		t.Fatal(l, e)
	}
	return l
}

func owed(t *testing.T, b api.Book, subject int) []int {
	t.Helper()
	l, e := book.Owed(b, subject)
	if e != api.OK || len(l) != b.Accounts {
		t.Fatal(l, e)
	}
	return l
}

func sum(l []int) int {
	n := 0
	for _, x := range l {
		n += x
	}
	return n
}

func TestP31_1Examples(t *testing.T) {
	b := example(t)
	if !slices.Equal(statement(t, b, 0), []int{-90, 90, 0}) || !slices.Equal(owed(t, b, 7), []int{-90, 90, 0}) {
		t.Error(b)
	}
	c, e := book.Dispute(b, 0, 40, 60)
	c = must(t, c, e)
	if len(c.Postings) != 3 || c.Postings[1] != (api.Posting{Kind: api.PReverse, Day: 40, Debtor: 1, Amount: 90, Subject: 7}) || c.Postings[2] != posting(40, 0, 1, 60, 7) {
		t.Error(c)
	}
	if !slices.Equal(statement(t, c, 0), []int{-90, 90, 0}) || !slices.Equal(statement(t, c, 1), []int{30, -30, 0}) || !slices.Equal(owed(t, c, 7), []int{-60, 60, 0}) {
		t.Error(c)
	}
	if n, e := book.Balance(c, 1, 1); n != -30 || e != api.OK {
		t.Error(n, e)
	}
	if k, e := book.Dispute(c, 0, 40, 60); k.Accounts != 0 || e != api.ErrBook {
		t.Error("once more", e)
	}
	if k, _, e := book.Post(c, posting(39, 0, 1, 1, 1)); k.Accounts != 0 || e != api.ErrBook {
		t.Error("an earlier day", e)
	}
	d, e := book.Close(c, 0)
	d = must(t, d, e)
	if _, _, e := book.Post(api.Book{Accounts: 3, Closed: 1}, posting(29, 0, 1, 1, 1)); e != api.ErrBook {
		t.Error("a closed month", e)
	}
	if k, i, e := book.Post(d, posting(40, 0, 1, 1, 1)); must(t, k, e).Closed != 1 || i != 3 {
		t.Error(k, i)
	}
}

func TestP31_1Errors(t *testing.T) {
	ok := example(t)
	back := api.Posting{Kind: api.PReverse, Day: 5, Debtor: 1, Creditor: 0, Amount: 90, Subject: 7}
	for i, change := range []func(p *api.Posting){
		func(p *api.Posting) { p.Kind = 0 }, func(p *api.Posting) { p.Kind = 3 }, func(p *api.Posting) { p.Day = -1 }, func(p *api.Posting) { p.Day = 360 }, func(p *api.Posting) { p.Debtor = 3 }, func(p *api.Posting) { p.Debtor = -1 }, func(p *api.Posting) { p.Creditor = 3 }, func(p *api.Posting) { p.Creditor = p.Debtor },
		func(p *api.Posting) { p.Amount = 0 }, func(p *api.Posting) { p.Amount = 1000000001 }, func(p *api.Posting) { p.Subject = -1 }, func(p *api.Posting) { p.Subject = 1000 }, func(p *api.Posting) { p.Of = 0 }, func(p *api.Posting) { p.Day = 4 },
		func(p *api.Posting) { *p = back; p.Of = -1 }, func(p *api.Posting) { *p = back; p.Of = 1 }, func(p *api.Posting) { *p = back; p.Of = 200 }, func(p *api.Posting) { *p = back; p.Amount = 89 }, func(p *api.Posting) { *p = back; p.Subject = 8 }, func(p *api.Posting) { *p = back; p.Debtor = 2 }, func(p *api.Posting) { *p = back; p.Debtor, p.Creditor = 0, 1 },
	} {
		p := posting(5, 0, 1, 90, 7)
		change(&p)
		if b, n, e := book.Post(ok, p); b.Accounts != 0 || n != 0 || e != api.ErrBook {
			t.Error(i, e)
		}
	}
	once, _, e := book.Post(ok, back)
	once = must(t, once, e)
	if _, _, e := book.Post(once, back); e != api.ErrBook {
		t.Error("taken back twice", e)
	}
	back.Of, back.Debtor, back.Creditor = 1, 0, 1
	if _, _, e := book.Post(once, back); e != api.ErrBook {
		t.Error("a reversal is taken back", e)
	}
	for i, b := range []api.Book{{}, {Accounts: 1}, {Accounts: 13}, {Accounts: 3, Closed: -1}, {Accounts: 3, Closed: 13}, {Accounts: 3, Postings: slices.Repeat(ok.Postings, 201)}, {Accounts: 2, Postings: []api.Posting{posting(0, 2, 1, 1, 1)}}} {
		_, _, c := book.Post(b, posting(5, 0, 1, 1, 1))
		_, d := book.Dispute(b, 0, 5, 1)
		_, f := book.Close(b, b.Closed)
		n, g := book.Balance(b, 0, 0)
		l, h := book.Statement(b, 0)
		m, j := book.Owed(b, 0)
		s, k := book.Head(b)
		if book.Valid(b) || n != 0 || l != nil || m != nil || s != "" || c != api.ErrBook || d != api.ErrBook || f != api.ErrBook || g != api.ErrBook || h != api.ErrBook || j != api.ErrBook || k != api.ErrBook {
			t.Error(i, c, d, f, g, h, j, k)
		}
	}
	full := api.Book{Accounts: 3, Postings: slices.Repeat(ok.Postings, 200)}
	if _, _, e := book.Post(full, posting(5, 0, 1, 1, 1)); !book.Valid(full) || e != api.ErrBook {
		t.Error("201 postings", e)
	}
	for _, a := range [][3]int{{-1, 5, 1}, {1, 5, 1}, {0, 4, 1}, {0, 360, 1}, {0, 5, -1}, {0, 5, 1000000001}} {
		if b, e := book.Dispute(ok, a[0], a[1], a[2]); b.Accounts != 0 || e != api.ErrBook {
			t.Error(a, e)
		}
	}
	for _, month := range []int{-1, 1, 12} {
		if b, e := book.Close(ok, month); b.Accounts != 0 || e != api.ErrBook {
			t.Error(month, e)
		}
	}
	if _, e := book.Close(api.Book{Accounts: 2, Closed: 12}, 12); e != api.ErrBook {
		t.Error("the month 12", e)
	}
	for _, a := range [][2]int{{-1, 0}, {3, 0}, {0, -1}, {0, 12}} {
		if n, e := book.Balance(ok, a[0], a[1]); n != 0 || e != api.ErrBook {
			t.Error(a, e)
		}
	}
	_, c := book.Statement(ok, 12)
	_, d := book.Owed(ok, 1000)
	s, f := book.Encode(api.Posting{Amount: api.MaxInt + 1})
	if c != api.ErrBook || d != api.ErrBook || s != "" || f != api.ErrBook {
		t.Error(c, d, f)
	}
}

func TestP31_2Sums(t *testing.T) {
	r := rand.New(rand.NewSource(1))
	for range 200 {
		b := some(t, r)
		all := make([]int, b.Accounts)
		for month := range 12 {
			l := statement(t, b, month)
			if sum(l) != 0 {
				t.Fatal(b, month)
			}
			for i, n := range l {
				all[i] += n
				if m, _ := book.Balance(b, i, month); m != n {
					t.Fatal(b, i, month)
				}
			}
		}
		for _, p := range b.Postings {
			all[p.Creditor] -= p.Amount
			all[p.Debtor] += p.Amount
		}
		if slices.Max(all) != 0 || slices.Min(all) != 0 || sum(owed(t, b, 1)) != 0 {
			t.Fatal(b)
		}
	}
}

func TestP31_3History(t *testing.T) {
	r := rand.New(rand.NewSource(2))
	for range 300 {
		b := some(t, r)
		day := 100 + r.Intn(100)
		c, e := book.Dispute(b, r.Intn(25), day, r.Intn(50))
		if r.Intn(2) == 0 {
			c, _, e = book.Post(b, posting(r.Intn(360), 0, 1, 1, 1))
		}
		if e != api.OK {
			continue
		}
		if !book.Valid(c) || !slices.Equal(c.Postings[:len(b.Postings)], b.Postings) || c.Closed != b.Closed {
			t.Fatal(b, c)
		}
		for month := range b.Closed {
			if !slices.Equal(statement(t, b, month), statement(t, c, month)) {
				t.Fatal("a closed month changes", month)
			}
		}
		c.Postings[0].Amount = 7777
		if len(b.Postings) > 0 && b.Postings[0].Amount == 7777 {
			t.Fatal("a result shares memory with an argument")
		}
	}
}

func TestP31_4Disputes(t *testing.T) {
	r := rand.New(rand.NewSource(3))
	for range 300 {
		b := some(t, r)
		if len(b.Postings) == 0 {
			continue
		}
		i, day, amount := r.Intn(len(b.Postings)), 320, r.Intn(100)
		c, e := book.Dispute(b, i, day, amount)
		if e != api.OK {
			continue
		}
		old := b.Postings[i]
		for subject := range 3 {
			want := owed(t, b, subject)
			if subject == old.Subject {
				want[old.Creditor] += amount - old.Amount
				want[old.Debtor] -= amount - old.Amount
			}
			if !slices.Equal(owed(t, c, subject), want) {
				t.Fatal(b, i, amount)
			}
		}
		for month := range 12 {
			want := statement(t, b, month)
			if month == day/30 {
				want[old.Creditor] += amount - old.Amount
				want[old.Debtor] -= amount - old.Amount
			}
			if !slices.Equal(statement(t, c, month), want) {
				t.Fatal(b, month)
			}
		}
	}
}

func TestP31_5Once(t *testing.T) {
	b := example(t)
	c, e := book.Dispute(b, 0, 10, 90)
	c = must(t, c, e)
	for month := range 12 {
		if !slices.Equal(statement(t, b, month), statement(t, c, month)) {
			t.Error(month)
		}
	}
	d, e := book.Dispute(b, 0, 10, 0)
	if d = must(t, d, e); len(d.Postings) != 2 || sum(owed(t, d, 7)) != 0 || owed(t, d, 7)[0] != 0 {
		t.Error(d)
	}
	for _, i := range []int{0, 1} {
		if _, e := book.Dispute(c, i, 10, 90); e != api.ErrBook {
			t.Error(i, e)
		}
	}
	if _, e := book.Dispute(c, 2, 10, 90); e != api.OK {
		t.Error(e)
	}
}

func TestP31_6Heads(t *testing.T) {
	r := rand.New(rand.NewSource(4))
	seen := map[string][]api.Posting{}
	for range 200 {
		b := some(t, r)
		head := strings.Repeat("\x00", 32)
		for _, p := range b.Postings {
			s, e := book.Encode(p)
			if e != api.OK {
				t.Fatal(e)
			}
			head = digest.Chain(head, s)
		}
		h, e := book.Head(b)
		if h != head || e != api.OK {
			t.Fatal(e)
		}
		if old, ok := seen[h]; ok && !slices.Equal(old, b.Postings) {
			t.Fatal("two books with the same head")
		}
		seen[h] = b.Postings
	}
}

func TestP31_1Limits(t *testing.T) {
	b := api.Book{Accounts: 12, Closed: 12, Postings: []api.Posting{posting(0, 11, 0, 1, 0), posting(359, 0, 11, 1000000000, 999)}}
	if !book.Valid(b) || !book.Valid(api.Book{Accounts: 2}) {
		t.Error("the greatest numbers")
	}
	b.Closed = 0
	c, e := book.Dispute(b, 1, 359, 1000000000)
	if c = must(t, c, e); len(c.Postings) != 4 {
		t.Error(c)
	}
	if l := owed(t, c, 999); l[11] != 1000000000 {
		t.Error(l)
	}
	if n, e := book.Balance(b, 11, 11); n != 1000000000 || e != api.OK {
		t.Error(n, e)
	}
	if n, e := book.Balance(b, 11, 10); n != 0 || e != api.OK {
		t.Error(n, e)
	}
	for month := range 12 {
		if b, e = book.Close(b, month); e != api.OK || b.Closed != month+1 {
			t.Error(month, e)
		}
	}
}
