package integer_test

import (
	"math/big"
	"math/rand"
	"strings"
	"testing"

	"newswire/api"
	"newswire/integer"
)

// some returns an integer of up to that many digits.
func some(r *rand.Rand, digits int) string {
	b := make([]byte, 1+r.Intn(digits))
	for i := range b {
		b[i] = "0019"[r.Intn(4)]
		if r.Intn(3) == 0 {
			b[i] = byte('0' + r.Intn(10))
		}
	}
	s := strings.TrimLeft(string(b), "0")
	if s == "" {
		return "0"
	}
	if r.Intn(2) == 0 {
		return "-" + s
	}
	return s
}

func number(s string) *big.Int {
	n, _ := new(big.Int).SetString(s, 10)
	return n
}

// want is the integer of n, or the error if it has too many digits.
func want(n *big.Int) (string, api.Errno) {
	if len(new(big.Int).Abs(n).String()) > api.MaxDigits {
		return "", api.ErrInteger
	}
	return n.String(), api.OK
}

func TestP3_1Valid(t *testing.T) {
	for s, ok := range map[string]bool{"0": true, "-7": true, "10": true, "007": false, "-0": false, "+1": false, "": false, "-": false, "1a": false, "--1": false, strings.Repeat("9", 200): true, "-" + strings.Repeat("9", 200): true, strings.Repeat("9", 201): false} {
		if integer.Valid(s) != ok {
			t.Errorf("Valid(%q) = %v", s, !ok)
		}
	}
}

func TestP3_1Ints(t *testing.T) {
	for _, n := range []int{0, 1, -1, 1<<63 - 1, -1 << 63, 12345} {
		if m, e := integer.ToInt(integer.FromInt(n)); m != n || e != api.OK {
			t.Errorf("ToInt of FromInt of %d = %d, %d", n, m, e)
		}
	}
	for _, s := range []string{"9223372036854775808", "-9223372036854775809", "", "01", "-0"} {
		if n, e := integer.ToInt(s); n != 0 || e != api.ErrInteger {
			t.Errorf("ToInt(%q) = %d, %d", s, n, e)
		}
	}
}

func TestP3_1Examples(t *testing.T) {
	for _, c := range []struct {
		f       func(a, b string) (string, api.Errno)
		a, b, s string
		e       api.Errno
	}{
		{integer.Add, "999", "1", "1000", 0}, {integer.Sub, "1", "1000", "-999", 0}, {integer.Mul, "-12", "12", "-144", 0},
		{integer.Gcd, "12", "-18", "6", 0}, {integer.Gcd, "0", "0", "0", 0}, {integer.Gcd, "0", "-5", "5", 0},
		{integer.Add, "x", "1", "", api.ErrInteger}, {integer.Sub, "1", "-0", "", api.ErrInteger}, {integer.Mul, "", "1", "", api.ErrInteger}, {integer.Gcd, "1", "", "", api.ErrInteger},
		{integer.Mul, "1" + strings.Repeat("0", 100), "1" + strings.Repeat("0", 100), "", api.ErrInteger},
		{integer.Add, strings.Repeat("9", 200), "1", "", api.ErrInteger},
		{integer.Mul, "-" + strings.Repeat("9", 200), "0", "0", 0},
	} {
		if s, e := c.f(c.a, c.b); s != c.s || e != c.e {
			t.Errorf("of %q and %q: %q, %d; want %q, %d", c.a, c.b, s, e, c.s, c.e)
		}
	}
}

func TestP3_2OneString(t *testing.T) {
	r := rand.New(rand.NewSource(1))
	for range 3000 {
		a, b := some(r, 210), some(r, 210)
		ok := integer.Valid(a) && integer.Valid(b)
		for i, f := range []func(a, b string) (string, api.Errno){integer.Add, integer.Sub, integer.Mul, integer.Gcd} {
			n := []*big.Int{new(big.Int).Add(number(a), number(b)), new(big.Int).Sub(number(a), number(b)), new(big.Int).Mul(number(a), number(b)), new(big.Int).GCD(nil, nil, new(big.Int).Abs(number(a)), new(big.Int).Abs(number(b)))}[i]
			s, e := want(n)
			if !ok {
				s, e = "", api.ErrInteger
			}
			if got, f := f(a, b); got != s || f != e {
				t.Fatalf("%d of %s and %s: %s, %d; want %s, %d", i, a, b, got, f, s, e)
			}
		}
	}
}

func TestP3_3Laws(t *testing.T) {
	r := rand.New(rand.NewSource(2))
	for range 500 {
		a, b, c := some(r, 60), some(r, 60), some(r, 60)
		ab, _ := integer.Add(a, b)
		ba, _ := integer.Add(b, a)
		bc, _ := integer.Add(b, c)
		left, _ := integer.Add(ab, c)
		right, _ := integer.Add(a, bc)
		product, _ := integer.Mul(a, bc)
		x, _ := integer.Mul(a, b)
		y, _ := integer.Mul(a, c)
		sum, _ := integer.Add(x, y)
		d, _ := integer.Sub(ab, b)
		if ab != ba || left != right || product != sum || d != a {
			t.Fatal(a, b, c)
		}
	}
}

func TestP3_4Div(t *testing.T) {
	for _, c := range [][4]string{{"7", "2", "3", "1"}, {"-7", "2", "-4", "1"}, {"7", "-2", "-3", "1"}, {"-7", "-2", "4", "1"}, {"-6", "3", "-2", "0"}, {"0", "-5", "0", "0"}} {
		if q, r, e := integer.Div(c[0], c[1]); q != c[2] || r != c[3] || e != api.OK {
			t.Errorf("Div(%s, %s) = %s, %s, %d", c[0], c[1], q, r, e)
		}
	}
	for _, c := range [][2]string{{"1", "0"}, {"x", "1"}, {"1", ""}} {
		if q, r, e := integer.Div(c[0], c[1]); q != "" || r != "" || e != api.ErrInteger {
			t.Error(c, q, r, e)
		}
	}
	r := rand.New(rand.NewSource(3))
	for range 3000 {
		a, b := some(r, 200), some(r, 1+r.Intn(200))
		if b == "0" {
			continue
		}
		q, m := new(big.Int).DivMod(number(a), number(b), new(big.Int))
		if x, y, e := integer.Div(a, b); x != q.String() || y != m.String() || e != api.OK {
			t.Fatalf("Div(%s, %s) = %s, %s, %d", a, b, x, y, e)
		}
	}
}

func TestP3_5Gcd(t *testing.T) {
	r := rand.New(rand.NewSource(4))
	for range 200 {
		a, b, c := some(r, 60), some(r, 60), some(r, 60)
		a, _ = integer.Mul(a, c)
		b, _ = integer.Mul(b, c)
		g, e := integer.Gcd(a, b)
		if e != api.OK || g[0] == '-' {
			t.Fatal(a, b, g, e)
		}
		for _, n := range []string{a, b} {
			if _, m, _ := integer.Div(n, g); g != "0" && m != "0" {
				t.Fatal(a, b, g)
			}
		}
		if _, m, _ := integer.Div(g, c); c != "0" && m != "0" {
			t.Fatal("a common divisor does not divide", a, b, c)
		}
	}
}

func TestP3_6Root(t *testing.T) {
	r := rand.New(rand.NewSource(5))
	for range 500 {
		a := strings.TrimPrefix(some(r, 200), "-")
		if s, e := integer.Root(a); s != new(big.Int).Sqrt(number(a)).String() || e != api.OK {
			t.Fatalf("Root(%s) = %s, %d", a, s, e)
		}
	}
	for _, a := range []string{"-1", "", "01"} {
		if s, e := integer.Root(a); s != "" || e != api.ErrInteger {
			t.Error(a, s, e)
		}
	}
	if s, _ := integer.Root("99"); s != "9" {
		t.Error(s)
	}
}

func TestP3_7Compare(t *testing.T) {
	r := rand.New(rand.NewSource(6))
	for range 1000 {
		a, b, c := some(r, 3+r.Intn(150)), some(r, 3+r.Intn(150)), some(r, 150)
		if n := integer.Compare(a, b); n != number(a).Cmp(number(b)) {
			t.Fatal(a, b, n)
		}
		x, _ := integer.Add(a, c)
		y, _ := integer.Add(b, c)
		d, _ := integer.Sub(a, b)
		if integer.Compare(x, y) != integer.Compare(a, b) || integer.Compare(d, "0") != integer.Compare(a, b) {
			t.Fatal(a, b, c)
		}
	}
	if integer.Compare("2", "01") != 0 || integer.Compare("", "1") != 0 {
		t.Error("integers that are not valid")
	}
}
