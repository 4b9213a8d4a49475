package unit_test

import (
	"math/big"
	"math/rand"
	"testing"

	"newswire/api"
	"newswire/unit"
)

var rates = api.Rates{Cents: 100, Euros: 92}

func some(r *rand.Rand, u int) api.Amount {
	lo := r.Intn(300000)
	return api.Amount{Lo: lo, Hi: lo + r.Intn(1000), Unit: u}
}

// wider is an amount that contains a.
func wider(r *rand.Rand, a api.Amount) api.Amount {
	return api.Amount{Lo: max(0, a.Lo-r.Intn(100)), Hi: a.Hi + r.Intn(100), Unit: a.Unit}
}

// factor is what one unit is worth in another one.
func factor(from, to int) *big.Rat {
	w := func(u int) *big.Rat {
		switch u {
		case api.UFoot:
			return big.NewRat(3048, 10000)
		case api.UPound:
			return big.NewRat(45359237, 100000000)
		case api.UEuro:
			return big.NewRat(100, 92)
		}
		return big.NewRat(1, 1)
	}
	return new(big.Rat).Quo(w(from), w(to))
}

func down(x *big.Rat) int { return int(new(big.Int).Div(x.Num(), x.Denom()).Int64()) }
func up(x *big.Rat) int   { return -down(new(big.Rat).Neg(x)) }

func times(n int, x *big.Rat) *big.Rat {
	return new(big.Rat).Mul(big.NewRat(int64(n), 1), x)
}

func TestP5_1Examples(t *testing.T) {
	amount := func(lo, hi, u int) api.Amount { return api.Amount{Lo: lo, Hi: hi, Unit: u} }
	check := func(got api.Amount, e api.Errno, want api.Amount) {
		t.Helper()
		if got != want || (e == api.OK) != (want.Unit != 0) || e != api.OK && e != api.ErrUnit {
			t.Errorf("%v, %d; want %v", got, e, want)
		}
	}
	a, e := unit.Convert(amount(100, 120, api.UFoot), api.UMetre, rates)
	check(a, e, amount(30, 37, api.UMetre))
	a, e = unit.Convert(amount(10, 10, api.UKilogram), api.UPound, rates)
	check(a, e, amount(22, 23, api.UPound))
	a, e = unit.Convert(amount(1000, 1000, api.UCent), api.UEuro, rates)
	check(a, e, amount(920, 920, api.UEuro))
	a, e = unit.Coarse(amount(1234, 1250, api.UPeople), 100)
	check(a, e, amount(1200, 1300, api.UPeople))
	a, e = unit.Share(amount(10, 11, api.UPeople), 1, 3)
	check(a, e, amount(3, 4, api.UPeople))
	a, e = unit.Meet(amount(3, 9, api.UMetre), amount(7, 12, api.UMetre))
	check(a, e, amount(7, 9, api.UMetre))
	a, e = unit.Meet(amount(3, 5, api.UMetre), amount(7, 12, api.UMetre))
	check(a, e, api.Amount{})
	a, e = unit.Add(amount(1, 2, api.UCent), amount(3, 4, api.UCent))
	check(a, e, amount(4, 6, api.UCent))
}

func TestP5_1Errors(t *testing.T) {
	a := api.Amount{Lo: 1, Hi: 999999, Unit: api.UMetre}
	none := api.Amount{}
	bad := []api.Amount{{Lo: 1}, {Lo: 2, Hi: 1, Unit: 1}, {Lo: -1, Hi: 1, Unit: 1}, {Hi: 1000000, Unit: 1}, {Unit: 8}, {Unit: -1}}
	for _, b := range append(bad, none) {
		if _, e := unit.Convert(b, api.UMetre, rates); e != api.ErrUnit {
			t.Error("Convert", b)
		}
		if _, e := unit.Coarse(b, 10); e != api.ErrUnit {
			t.Error("Coarse", b)
		}
		if _, e := unit.Share(b, 1, 2); e != api.ErrUnit {
			t.Error("Share", b)
		}
		if _, e := unit.Add(a, b); e != api.ErrUnit {
			t.Error("Add", b)
		}
		if _, e := unit.Meet(b, a); e != api.ErrUnit {
			t.Error("Meet", b)
		}
		if unit.Valid(b) != (b == none) || unit.Contains(a, b) || unit.Contains(b, a) {
			t.Error("Valid or Contains", b)
		}
	}
	if !unit.Contains(none, none) {
		t.Error("no quantity contains itself")
	}
	for _, u := range []int{api.UNone, api.UPeople, api.UPound, api.UEuro, 8, -1} {
		if b, e := unit.Convert(a, u, rates); b != none || e != api.ErrUnit {
			t.Error("Convert to", u, b, e)
		}
	}
	if _, e := unit.Convert(a, api.UFoot, rates); e != api.ErrUnit {
		t.Error("a result that is too great")
	}
	for _, r := range []api.Rates{{}, {Cents: 0, Euros: 1}, {Cents: 1, Euros: 100001}, {Cents: -1, Euros: 5}} {
		if _, e := unit.Convert(a, api.UMetre, r); e != api.ErrUnit || unit.ValidRates(r) {
			t.Error("rates", r)
		}
	}
	for _, step := range []int{0, -1, 2, 100000} {
		if _, e := unit.Coarse(a, step); e != api.ErrUnit {
			t.Error("step", step)
		}
	}
	if _, e := unit.Coarse(a, 10); e != api.ErrUnit {
		t.Error("a coarse bound that is too great")
	}
	for _, s := range [][2]int{{-1, 1}, {1, 0}, {1000001, 1}, {1, 1000001}, {2, 1}} {
		if _, e := unit.Share(a, s[0], s[1]); e != api.ErrUnit {
			t.Error("share", s)
		}
	}
	for u, kind := range []int{0, 1, 2, 2, 3, 3, 4, 4, 0} {
		if unit.Kind(u) != kind {
			t.Error("Kind", u)
		}
	}
}

func TestP5_2Outward(t *testing.T) {
	r := rand.New(rand.NewSource(1))
	for range 3000 {
		u := 2 + r.Intn(6)
		a, to := some(r, u), u^1
		if b, e := unit.Convert(a, to, rates); e != api.OK || b.Lo != down(times(a.Lo, factor(u, to))) || b.Hi != up(times(a.Hi, factor(u, to))) || b.Unit != to {
			t.Fatal(a, b, e)
		}
		num, den := r.Intn(1000), 1+r.Intn(1000)
		q := big.NewRat(int64(num), int64(den))
		if b, e := unit.Share(a, num, den); e == api.OK && (b.Lo != down(times(a.Lo, q)) || b.Hi != up(times(a.Hi, q)) || b.Unit != u) {
			t.Fatal(a, num, den, b)
		}
	}
}

func TestP5_3ThereAndBack(t *testing.T) {
	r := rand.New(rand.NewSource(2))
	for range 2000 {
		u := 2 + r.Intn(6)
		a := some(r, u)
		b, _ := unit.Convert(a, u^1, rates)
		c, e := unit.Convert(b, u, rates)
		most := 1 + up(factor(u^1, u))
		if e != api.OK || !unit.Contains(c, a) || a.Lo-c.Lo > most || c.Hi-a.Hi > most {
			t.Fatal(a, b, c, e)
		}
	}
}

func TestP5_4Monotone(t *testing.T) {
	r := rand.New(rand.NewSource(3))
	for range 1000 {
		u := 2 + r.Intn(6)
		b := some(r, u)
		a, c := wider(r, b), some(r, u)
		x, _ := unit.Convert(a, u^1, rates)
		y, _ := unit.Convert(b, u^1, rates)
		s, _ := unit.Share(a, 2, 7)
		v, _ := unit.Share(b, 2, 7)
		k, _ := unit.Coarse(a, 100)
		l, _ := unit.Coarse(b, 100)
		m, _ := unit.Add(a, c)
		n, _ := unit.Add(b, c)
		if !unit.Contains(a, b) || !unit.Contains(x, y) || !unit.Contains(s, v) || !unit.Contains(k, l) || !unit.Contains(m, n) {
			t.Fatal(a, b, c)
		}
		if a != b && unit.Contains(b, a) {
			t.Fatal("the narrower one contains the wider one", a, b)
		}
	}
}

func TestP5_5AddMeet(t *testing.T) {
	r := rand.New(rand.NewSource(4))
	for range 1000 {
		u := 2 + r.Intn(6)
		a, b, c := some(r, u), some(r, u), some(r, u)
		ab, _ := unit.Add(a, b)
		ba, _ := unit.Add(b, a)
		bc, _ := unit.Add(b, c)
		x, _ := unit.Add(ab, c)
		y, _ := unit.Add(a, bc)
		if ab != ba || x != y {
			t.Fatal(a, b, c)
		}
		whole, e := unit.Convert(ab, u^1, rates)
		p, _ := unit.Convert(a, u^1, rates)
		q, _ := unit.Convert(b, u^1, rates)
		if sum, f := unit.Add(p, q); e == api.OK && f == api.OK && !unit.Contains(sum, whole) {
			t.Fatal(a, b, sum, whole)
		}
		d := wider(r, a)
		m, _ := unit.Meet(a, d)
		n, _ := unit.Meet(d, a)
		if m != a || n != a {
			t.Fatal(a, d, m, n)
		}
		if same, _ := unit.Meet(a, a); same != a {
			t.Fatal(a)
		}
	}
}

func TestP5_6Coarser(t *testing.T) {
	r := rand.New(rand.NewSource(5))
	for range 1000 {
		a := some(r, 1+r.Intn(7))
		last := a
		for step := 1; step <= 10000; step *= 10 {
			c, e := unit.Coarse(a, step)
			again, _ := unit.Coarse(c, step)
			if e != api.OK || !unit.Contains(c, last) || again != c || c.Lo%step != 0 || c.Hi%step != 0 || a.Lo-c.Lo >= step || c.Hi-a.Hi >= step {
				t.Fatal(a, step, c, e)
			}
			last = c
		}
		den := 1 + r.Intn(1000)
		num := r.Intn(den + 1)
		p, _ := unit.Share(a, num, den)
		q, _ := unit.Share(a, den-num, den)
		if sum, e := unit.Add(p, q); e != api.OK || !unit.Contains(sum, a) {
			t.Fatal(a, num, den, sum)
		}
	}
}

func TestP5_1Limits(t *testing.T) {
	for _, a := range []api.Amount{{Unit: 1}, {Lo: 999999, Hi: 999999, Unit: 7}, {Hi: 999999, Unit: 2}} {
		if !unit.Valid(a) || !unit.Contains(a, a) {
			t.Error(a)
		}
	}
	for _, r := range []api.Rates{{Cents: 1, Euros: 1}, {Cents: 100000, Euros: 100000}, {Cents: 1, Euros: 100000}} {
		a := api.Amount{Lo: 1, Hi: 1, Unit: api.UCent}
		if b, e := unit.Convert(a, api.UEuro, r); !unit.ValidRates(r) || b.Lo != r.Euros/r.Cents || e != api.OK {
			t.Error(r, b, e)
		}
	}
	a := api.Amount{Lo: 10, Hi: 10, Unit: api.UMetre}
	for _, c := range [][3]int{{0, 1, 0}, {0, 1000000, 0}, {1000000, 1000000, 10}, {1, 1, 10}, {1000000, 1000, 10000}} {
		if b, e := unit.Share(a, c[0], c[1]); b.Lo != c[2] || e != api.OK {
			t.Error(c, b, e)
		}
	}
	if b, e := unit.Convert(a, api.UMetre, rates); b != a || e != api.OK {
		t.Error(b, e)
	}
	if _, e := unit.Add(a, api.Amount{Lo: 10, Hi: 10, Unit: api.UFoot}); e != api.ErrUnit {
		t.Error("different units", e)
	}
	if unit.Contains(a, api.Amount{Lo: 10, Hi: 10, Unit: api.UFoot}) {
		t.Error("another unit is contained")
	}
}
