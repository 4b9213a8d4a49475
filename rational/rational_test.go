package rational_test

import (
	"math/big"
	"math/rand"
	"strings"
	"testing"

	"newswire/api"
	"newswire/rational"
)

func of(t *testing.T, s string) api.Ratio {
	t.Helper()
	r, e := rational.Parse(s)
	if e != api.OK {
		t.Fatalf("Parse(%q): %d", s, e)
	}
	return r
}

func some(r *rand.Rand, digits int) api.Ratio {
	text := func() string {
		b := make([]byte, 1+r.Intn(digits))
		for i := range b {
			b[i] = byte('0' + r.Intn(10))
		}
		b[0] = byte('1' + r.Intn(9))
		return string(b)
	}
	n := text()
	switch r.Intn(5) {
	case 0:
		n = "0"
	case 1, 2:
		n = "-" + n
	}
	x, _ := rational.Make(n, text())
	return x
}

func rat(r api.Ratio) *big.Rat {
	x, _ := new(big.Rat).SetString(r.Num + "/" + r.Den)
	return x
}

func TestP4_1Examples(t *testing.T) {
	for _, c := range []struct {
		f       func(a, b api.Ratio) (api.Ratio, api.Errno)
		a, b, s string
	}{{rational.Add, "1/2", "1/3", "5/6"}, {rational.Sub, "1/2", "1/2", "0"}, {rational.Mul, "-2/3", "3/4", "-1/2"}, {rational.Div, "1/2", "-1/4", "-2"}, {rational.Div, "1", "0", ""}, {rational.Div, "0", "-7", "0"}} {
		if r, e := c.f(of(t, c.a), of(t, c.b)); rational.Print(r) != c.s || (e == api.OK) != (c.s != "") {
			t.Errorf("of %s and %s: %v, %d", c.a, c.b, r, e)
		}
	}
	for _, c := range []struct {
		n, d int
		s    string
	}{{6, -4, "-3/2"}, {0, -5, "0"}, {1, 0, ""}, {-1 << 63, -1 << 63, "1"}} {
		if r, e := rational.Of(c.n, c.d); rational.Print(r) != c.s || (e == api.ErrRational) != (c.s == "") {
			t.Errorf("Of(%d, %d) = %v, %d", c.n, c.d, r, e)
		}
	}
}

func TestP4_1Errors(t *testing.T) {
	bad := []api.Ratio{{}, {Num: "1", Den: "0"}, {Num: "2", Den: "4"}, {Num: "1", Den: "-2"}, {Num: "0", Den: "2"}, {Num: "01", Den: "2"}, {Num: "x", Den: "1"}}
	one := of(t, "1")
	for _, x := range bad {
		if rational.Valid(x) || rational.Print(x) != "" || rational.Compare(x, one) != 0 {
			t.Errorf("%v is valid", x)
		}
		for _, f := range []func(a, b api.Ratio) (api.Ratio, api.Errno){rational.Add, rational.Sub, rational.Mul, rational.Div} {
			if r, e := f(x, one); r != (api.Ratio{}) || e != api.ErrRational {
				t.Errorf("of %v: %v, %d", x, r, e)
			}
			if r, e := f(one, x); r != (api.Ratio{}) || e != api.ErrRational {
				t.Errorf("of %v: %v, %d", x, r, e)
			}
		}
		if _, e := rational.Down(x, 2); e != api.ErrRational {
			t.Error("Down of", x)
		}
	}
	huge := of(t, "1"+strings.Repeat("0", 150))
	if r, e := rational.Mul(huge, huge); r != (api.Ratio{}) || e != api.ErrRational {
		t.Error("too large", e)
	}
	for _, places := range []int{-1, 31} {
		if _, e := rational.Up(one, places); e != api.ErrRational {
			t.Error("places", places)
		}
	}
	if _, e := rational.Make("1", "x"); e != api.ErrRational {
		t.Error("Make", e)
	}
}

func TestP4_2Valid(t *testing.T) {
	r := rand.New(rand.NewSource(1))
	for range 300 {
		a, b := some(r, 12), some(r, 12)
		for i, f := range []func(a, b api.Ratio) (api.Ratio, api.Errno){rational.Add, rational.Sub, rational.Mul, rational.Div} {
			if i == 3 && b.Num == "0" {
				continue
			}
			x, e := f(a, b)
			want := []func(x, y *big.Rat) *big.Rat{new(big.Rat).Add, new(big.Rat).Sub, new(big.Rat).Mul, new(big.Rat).Quo}[i](rat(a), rat(b))
			if e != api.OK || !rational.Valid(x) || x.Num != want.Num().String() || x.Den != want.Denom().String() {
				t.Fatal(a, b, i, x, e)
			}
		}
		if (rat(a).Cmp(rat(b)) == 0) != (a == b) || (a == b) != (rational.Print(a) == rational.Print(b)) {
			t.Fatal(a, b)
		}
	}
}

func TestP4_3Field(t *testing.T) {
	r := rand.New(rand.NewSource(2))
	for range 200 {
		a, b, c := some(r, 20), some(r, 20), some(r, 20)
		ab, _ := rational.Add(a, b)
		bc, _ := rational.Add(b, c)
		left, _ := rational.Add(ab, c)
		right, _ := rational.Add(a, bc)
		product, _ := rational.Mul(a, bc)
		x, _ := rational.Mul(a, b)
		y, _ := rational.Mul(a, c)
		sum, _ := rational.Add(x, y)
		back, _ := rational.Sub(ab, b)
		if left != right || product != sum || back != a {
			t.Fatal(a, b, c)
		}
		if q, e := rational.Div(x, b); b.Num != "0" && (q != a || e != api.OK) {
			t.Fatal(a, b, q, e)
		}
	}
}

func TestP4_4Order(t *testing.T) {
	if rational.Compare(of(t, "1/3"), of(t, "33333/100000")) != 1 || rational.Compare(of(t, "-1/2"), of(t, "-1/3")) != -1 {
		t.Error("examples")
	}
	r := rand.New(rand.NewSource(3))
	for i := range 400 {
		a, b := some(r, 1+i%200), some(r, 1+i%200)
		if n := rational.Compare(a, b); n != rat(a).Cmp(rat(b)) {
			t.Fatal(a, b, n)
		}
		if rational.Compare(a, a) != 0 {
			t.Fatal(a)
		}
	}
	nines := strings.Repeat("9", 199)
	if rational.Compare(of(t, nines+"8/"+nines+"9"), of(t, nines+"7/"+nines+"8")) != 1 {
		t.Error("fractions that differ by little")
	}
}

func TestP4_5Rounding(t *testing.T) {
	for _, c := range []struct {
		s        string
		places   int
		down, up string
	}{{"1/3", 2, "33/100", "17/50"}, {"-1/3", 2, "-17/50", "-33/100"}, {"7", 3, "7", "7"}, {"1/8", 3, "1/8", "1/8"}, {"1/8", 0, "0", "1"}} {
		d, e := rational.Down(of(t, c.s), c.places)
		u, f := rational.Up(of(t, c.s), c.places)
		if rational.Print(d) != c.down || rational.Print(u) != c.up || e != api.OK || f != api.OK {
			t.Errorf("%s to %d places: %v, %v", c.s, c.places, d, u)
		}
	}
	r := rand.New(rand.NewSource(4))
	for range 200 {
		a, places := some(r, 30), r.Intn(31)
		d, _ := rational.Down(a, places)
		u, _ := rational.Up(a, places)
		again, _ := rational.Up(d, places)
		gap, _ := rational.Sub(u, d)
		if rational.Compare(d, a) > 0 || rational.Compare(u, a) < 0 || again != d || (d == u) != (d == a) || d != u && rational.Print(gap) != "1/1"+strings.Repeat("0", places) && places > 0 {
			t.Fatal(a, places, d, u)
		}
		minus, _ := rational.Sub(of(t, "0"), a)
		m, _ := rational.Down(minus, places)
		if s, _ := rational.Add(m, u); s.Num != "0" {
			t.Fatal(a, places)
		}
	}
	if _, e := rational.Down(of(t, strings.Repeat("9", 200)), 1); e != api.ErrRational {
		t.Error("too large to be rounded", e)
	}
}

func TestP4_6PrintParse(t *testing.T) {
	r := rand.New(rand.NewSource(5))
	for range 200 {
		a := some(r, 50)
		if b, e := rational.Parse(rational.Print(a)); b != a || e != api.OK {
			t.Fatal(a, b, e)
		}
	}
	for _, s := range []string{"3/-2", "6/4", "3/1", "+3", "", "/", "1/", "/2", "1/2/3", "0/2", "-0", " 1"} {
		if x, e := rational.Parse(s); x != (api.Ratio{}) || e != api.ErrRational {
			t.Errorf("Parse(%q) = %v, %d", s, x, e)
		}
	}
}
