package fee_test

import (
	"math/big"
	"math/rand"
	"slices"
	"testing"

	"newswire/api"
	"newswire/book"
	"newswire/fee"
)

func none(n int) []int { return slices.Repeat([]int{-1}, n) }

func example() api.Tariff {
	t := api.Tariff{Bureaus: none(16), Translators: none(4), Sources: none(12), Parts: [3]int{60, 20, 20}}
	t.Bureaus[2], t.Translators[api.LGerman], t.Sources[5] = 1, 2, 3
	return t
}

func use(fact, source, count int) api.Use {
	return api.Use{Fact: fact, Source: source, Count: count}
}

func bill(price, language int, uses ...api.Use) api.Bill {
	return api.Bill{ID: 7, Payer: 11, Price: price, Language: language, Uses: uses}
}

func some(r *rand.Rand) (api.Tariff, api.Bill) {
	t := example()
	a := r.Intn(101)
	b := r.Intn(101 - a)
	t.Parts = [3]int{a, b, 100 - a - b}
	for i := range t.Bureaus {
		t.Bureaus[i] = r.Intn(9) - 1
	}
	for i := range t.Sources {
		t.Sources[i] = r.Intn(9) - 1
	}
	k := bill(r.Intn(2000), 1+r.Intn(3))
	for range r.Intn(6) {
		k.Uses = append(k.Uses, use(r.Intn(4), []int{-1, 99, r.Intn(12)}[r.Intn(3)], 1+r.Intn(20)))
	}
	return t, k
}

func divide(t *testing.T, x api.Tariff, b api.Bill) []api.Share {
	t.Helper()
	l, e := fee.Divide(x, b)
	if e != api.OK {
		t.Fatal(e)
	}
	return l
}

func balances(t *testing.T, k api.Book) []int {
	t.Helper()
	l := make([]int, k.Accounts)
	for month := range 12 {
		s, e := book.Statement(k, month)
		if e != api.OK {
			t.Fatal(e)
		}
		for i, n := range s {
			l[i] += n
		}
	}
	return l
}

func charge(t *testing.T, x api.Tariff, k api.Book, b api.Bill) api.Book {
	t.Helper()
	k, e := fee.Charge(x, k, b, 3)
	if e != api.OK {
		t.Fatal(e)
	}
	return k
}

func adjust(t *testing.T, x api.Tariff, k api.Book, b api.Bill, fact int) api.Book {
	t.Helper()
	k, e := fee.Adjust(x, k, b, fact, 40)
	if e != api.OK {
		t.Fatal(e)
	}
	return k
}

var empty = api.Book{Accounts: 12}

func TestP32_1Examples(t *testing.T) {
	if l, e := fee.Split(100, []int{1, 1, 1}); !slices.Equal(l, []int{34, 33, 33}) || e != api.OK {
		t.Error(l, e)
	}
	x := example()
	if l := divide(t, x, bill(100, api.LGerman, use(2, 5, 1))); !slices.Equal(l, []api.Share{{Account: 1, Amount: 60}, {Account: 2, Amount: 20}, {Account: 3, Amount: 20}}) {
		t.Error(l)
	}
	b := bill(100, api.LEnglish, use(2, 5, 2), use(4, -1, 1))
	want := []api.Share{{Account: 1, Amount: 40}, {Account: 1, Amount: 14}, {Account: 3, Amount: 13}, {Use: 1, Amount: 20}, {Use: 1, Amount: 7}, {Use: 1, Amount: 6}}
	if l := divide(t, x, b); !slices.Equal(l, want) {
		t.Error(l)
	}
	if l, n, e := fee.Refund(x, b, 4); !slices.Equal(l, want[3:]) || n != 33 || e != api.OK {
		t.Error(l, n, e)
	}
	if l := divide(t, x, bill(5, 1)); !slices.Equal(l, []api.Share{{Use: -1, Amount: 5}}) {
		t.Error(l)
	}
	if l := divide(t, x, bill(0, 1)); len(l) != 0 {
		t.Error(l)
	}
	if l := divide(t, x, bill(0, 1, use(2, 5, 1))); len(l) != 0 {
		t.Error(l)
	}
}

func TestP32_1NotValid(t *testing.T) {
	ok := bill(100, 1, use(2, 5, 1))
	for i, change := range []func(x *api.Tariff){
		func(x *api.Tariff) { x.Desk = -1 }, func(x *api.Tariff) { x.Desk = 12 }, func(x *api.Tariff) { x.Bureaus = none(15) }, func(x *api.Tariff) { x.Translators = none(3) }, func(x *api.Tariff) { x.Sources = none(13) },
		func(x *api.Tariff) { x.Bureaus[0] = -2 }, func(x *api.Tariff) { x.Translators[0] = 12 }, func(x *api.Tariff) { x.Sources[11] = 12 }, func(x *api.Tariff) { x.Parts = [3]int{60, 20, 21} }, func(x *api.Tariff) { x.Parts = [3]int{101, -1, 0} }, func(x *api.Tariff) { x.Parts = [3]int{120, -10, -10} },
	} {
		x := example()
		change(&x)
		if fee.ValidTariff(x) || fee.Valid(x, ok) {
			t.Error(i, "is valid")
		}
		if l, e := fee.Divide(x, ok); l != nil || e != api.ErrFee {
			t.Error(i, e)
		}
	}
	x := example()
	for i, change := range []func(b *api.Bill){
		func(b *api.Bill) { b.ID = -1 }, func(b *api.Bill) { b.ID = 1000 }, func(b *api.Bill) { b.Payer = 12 }, func(b *api.Bill) { b.Payer = -1 }, func(b *api.Bill) { b.Payer = 0 }, func(b *api.Bill) { b.Payer = 3 }, func(b *api.Bill) { b.Price = -1 }, func(b *api.Bill) { b.Price = 1000001 },
		func(b *api.Bill) { b.Language = 0 }, func(b *api.Bill) { b.Language = 4 }, func(b *api.Bill) { b.Uses = slices.Repeat(b.Uses, 13) }, func(b *api.Bill) { b.Uses = []api.Use{use(16, 0, 1)} }, func(b *api.Bill) { b.Uses = []api.Use{use(1, 12, 1)} }, func(b *api.Bill) { b.Uses = []api.Use{use(1, -2, 1)} }, func(b *api.Bill) { b.Uses = []api.Use{use(1, 0, 0)} }, func(b *api.Bill) { b.Uses = []api.Use{use(1, 0, 1001)} },
	} {
		b := ok
		change(&b)
		l, n, e := fee.Refund(x, b, 2)
		_, f := fee.Charge(x, empty, b, 3)
		_, g := fee.Adjust(x, empty, b, 2, 3)
		if fee.Valid(x, b) || l != nil || n != 0 || e != api.ErrFee || f != api.ErrFee || g != api.ErrFee {
			t.Error(i, e, f, g)
		}
	}
	for i, c := range []struct {
		amount  int
		weights []int
	}{{-1, []int{1}}, {1000001, []int{1}}, {5, nil}, {5, []int{0, 0}}, {5, []int{-1, 2}}, {5, []int{1001}}, {5, slices.Repeat([]int{1}, 41)}} {
		if l, e := fee.Split(c.amount, c.weights); l != nil || e != api.ErrFee {
			t.Error(i, e)
		}
	}
}

func TestP32_1Errors(t *testing.T) {
	x, b := example(), bill(100, 1, use(2, 5, 2), use(4, -1, 1))
	k := charge(t, x, empty, b)
	other := b
	other.ID = 8
	for i, f := range []func() (api.Book, api.Errno){
		func() (api.Book, api.Errno) { return fee.Charge(x, k, b, 3) },
		func() (api.Book, api.Errno) { return fee.Charge(x, k, other, 2) },
		func() (api.Book, api.Errno) { return fee.Charge(x, empty, b, 360) },
		func() (api.Book, api.Errno) { return fee.Charge(x, api.Book{Accounts: 11}, b, 3) },
		func() (api.Book, api.Errno) { return fee.Charge(x, api.Book{}, b, 3) },
		func() (api.Book, api.Errno) { return fee.Charge(x, api.Book{Accounts: 12, Closed: 1}, b, 3) },
		func() (api.Book, api.Errno) { return fee.Adjust(x, empty, b, 2, 3) },
		func() (api.Book, api.Errno) { return fee.Adjust(x, k, other, 2, 3) },
		func() (api.Book, api.Errno) { return fee.Adjust(x, k, b, 16, 3) },
		func() (api.Book, api.Errno) { return fee.Adjust(x, k, b, 2, 2) },
		func() (api.Book, api.Errno) { return fee.Adjust(x, api.Book{}, b, 2, 3) },
		func() (api.Book, api.Errno) {
			return fee.Adjust(x, k, bill(101, 1, use(2, 5, 2), use(4, -1, 1)), 2, 3)
		},
		func() (api.Book, api.Errno) {
			more, _, _ := book.Post(k, api.Posting{Kind: api.PFee, Day: 3, Debtor: 11, Amount: 1, Subject: 7, Of: -1})
			return fee.Adjust(x, more, b, 2, 3)
		},
	} {
		if k, e := f(); k.Accounts != 0 || e != api.ErrFee {
			t.Error(i, e)
		}
	}
	if more := charge(t, x, k, other); len(more.Postings) != 2*len(k.Postings) {
		t.Error(more)
	}
}

func TestP32_2EveryCent(t *testing.T) {
	r := rand.New(rand.NewSource(1))
	for range 2000 {
		amount := r.Intn(1000)
		weights := make([]int, 1+r.Intn(8))
		whole := 0
		for i := range weights {
			weights[i] = r.Intn(20)
			whole += weights[i]
		}
		l, e := fee.Split(amount, weights)
		if whole == 0 {
			if e != api.ErrFee {
				t.Fatal(e)
			}
			continue
		}
		sum := 0
		for i, n := range l {
			sum += n
			if d := n*whole - amount*weights[i]; d <= -whole || d >= whole {
				t.Fatal(amount, weights, l)
			}
			for j, m := range l {
				if weights[i] > weights[j] && n < m {
					t.Fatal(amount, weights, l)
				}
			}
		}
		if sum != amount || e != api.OK {
			t.Fatal(amount, weights, l)
		}
	}
	if l, e := fee.Split(1000000, slices.Repeat([]int{1000}, 40)); e != api.OK || new(big.Int).SetInt64(int64(l[0])).Int64() != 25000 {
		t.Error(l, e)
	}
}

func TestP32_3WhoGetsIt(t *testing.T) {
	r := rand.New(rand.NewSource(2))
	for range 500 {
		x, b := some(r)
		var weights []int
		for _, u := range b.Uses {
			weights = append(weights, u.Count)
		}
		costs, _ := fee.Split(b.Price, weights)
		sum := 0
		for _, s := range divide(t, x, b) {
			sum += s.Amount
			if s.Use >= 0 {
				costs[s.Use] -= s.Amount
			}
			named := slices.Contains(slices.Concat([]int{x.Desk}, x.Bureaus, x.Translators, x.Sources), s.Account)
			if s.Amount <= 0 || s.Account < 0 || !named {
				t.Fatal(s)
			}
		}
		if sum != b.Price || slices.ContainsFunc(costs, func(n int) bool { return n != 0 }) {
			t.Fatal(b, sum, costs)
		}
	}
}

func TestP32_4Kills(t *testing.T) {
	r := rand.New(rand.NewSource(3))
	for range 200 {
		x, b := some(r)
		k := charge(t, x, empty, b)
		before, fact := balances(t, k), r.Intn(4)
		less := adjust(t, x, k, b, fact)
		shares, sum, _ := fee.Refund(x, b, fact)
		before[b.Payer] += sum
		for _, s := range shares {
			before[s.Account] -= s.Amount
		}
		after := balances(t, less)
		total := 0
		for _, n := range after {
			total += n
		}
		again := adjust(t, x, less, b, fact)
		if !slices.Equal(before, after) || total != 0 || !slices.Equal(again.Postings, less.Postings) {
			t.Fatal(b, before, after)
		}
	}
}

func TestP32_5Several(t *testing.T) {
	r := rand.New(rand.NewSource(4))
	for range 100 {
		x, b := some(r)
		k, l := charge(t, x, empty, b), charge(t, x, empty, b)
		for _, fact := range r.Perm(4) {
			k = adjust(t, x, k, b, fact)
		}
		for fact := range 4 {
			l = adjust(t, x, l, b, fact)
		}
		m := balances(t, k)
		if !slices.Equal(m, balances(t, l)) {
			t.Fatal(b)
		}
		if len(b.Uses) == 0 {
			m[b.Payer] += b.Price
			m[x.Desk] -= b.Price
		}
		if slices.Max(m) != 0 || slices.Min(m) != 0 {
			t.Fatal(b, m)
		}
	}
}

func TestP32_6Counts(t *testing.T) {
	r := rand.New(rand.NewSource(5))
	for range 200 {
		x, b := some(r)
		more := b
		more.Uses = slices.Clone(b.Uses)
		n := 1 + r.Intn(50)
		for i := range more.Uses {
			more.Uses[i].Count *= n
		}
		if !slices.Equal(divide(t, x, b), divide(t, x, more)) {
			t.Fatal(b, n)
		}
		if len(b.Uses) == 0 {
			continue
		}
		b.Uses = b.Uses[:1]
		parts, _ := fee.Split(b.Price, x.Parts[:])
		parts = slices.DeleteFunc(parts, func(n int) bool { return n == 0 })
		for i, s := range divide(t, x, b) {
			if s.Amount != parts[i] {
				t.Fatal(b)
			}
		}
	}
}

func TestP32_7Refunds(t *testing.T) {
	r := rand.New(rand.NewSource(6))
	for range 200 {
		x, b := some(r)
		var all []api.Share
		for fact := range 16 {
			l, _, e := fee.Refund(x, b, fact)
			if e != api.OK {
				t.Fatal(e)
			}
			all = append(all, l...)
		}
		want := divide(t, x, b)
		if len(b.Uses) == 0 {
			want = nil
		}
		order := func(a, b api.Share) int { return a.Use - b.Use }
		slices.SortStableFunc(all, order)
		if !slices.Equal(all, want) {
			t.Fatal(all, want)
		}
	}
	for _, fact := range []int{-1, 16} {
		if l, n, e := fee.Refund(example(), bill(1, 1), fact); l != nil || n != 0 || e != api.ErrFee {
			t.Error(fact, e)
		}
	}
}

func TestP32_1Limits(t *testing.T) {
	x := example()
	x.Sources[0], x.Sources[11], x.Bureaus[0], x.Bureaus[15] = 4, 5, 6, 7
	b := bill(1000000, 3, use(0, 0, 1000), use(15, 11, 1000))
	b.ID = 999
	if l := divide(t, x, b); !slices.Equal(l, []api.Share{{Account: 6, Amount: 300000}, {Account: 6, Amount: 100000}, {Account: 4, Amount: 100000}, {Use: 1, Account: 7, Amount: 300000}, {Use: 1, Account: 7, Amount: 100000}, {Use: 1, Account: 5, Amount: 100000}}) {
		t.Error(l)
	}
	b = bill(1, 1, slices.Repeat([]api.Use{use(0, 99, 1)}, 12)...)
	b.ID = 0
	if l := divide(t, x, b); !slices.Equal(l, []api.Share{{Account: 6, Amount: 1}}) {
		t.Error(l)
	}
	if l := divide(t, x, bill(1, 1)); !slices.Equal(l, []api.Share{{Use: -1, Amount: 1}}) {
		t.Error(l)
	}
	for _, parts := range [][3]int{{100, 0, 0}, {0, 100, 0}, {0, 0, 100}} {
		x.Parts = parts
		if !fee.ValidTariff(x) {
			t.Error(parts)
		}
	}
	for _, fact := range []int{0, 15} {
		if _, _, e := fee.Refund(x, b, fact); e != api.OK {
			t.Error(fact, e)
		}
	}
}
