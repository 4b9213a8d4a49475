package word_test

import (
	"math/rand"
	"slices"
	"strings"
	"testing"

	"newswire/api"
	"newswire/word"
)

func fields(s string) []string { return strings.Fields(s) }

func TestP11_1Examples(t *testing.T) {
	for n, l := range map[int][3]string{
		0:      {"zero", "null", "cero"},
		1:      {"one", "eins", "uno"},
		16:     {"sixteen", "sechzehn", "dieciseis"},
		21:     {"twenty-one", "einundzwanzig", "veintiuno"},
		22:     {"twenty-two", "zweiundzwanzig", "veintidos"},
		30:     {"thirty", "dreissig", "treinta"},
		99:     {"ninety-nine", "neunundneunzig", "noventa y nueve"},
		100:    {"one hundred", "einhundert", "cien"},
		101:    {"one hundred one", "einhunderteins", "ciento uno"},
		500:    {"five hundred", "fuenfhundert", "quinientos"},
		1000:   {"one thousand", "eintausend", "mil"},
		1001:   {"one thousand one", "eintausend eins", "mil uno"},
		1100:   {"one thousand one hundred", "eintausend einhundert", "mil cien"},
		21000:  {"twenty-one thousand", "einundzwanzigtausend", "veintiun mil"},
		31000:  {"thirty-one thousand", "einunddreissigtausend", "treinta y un mil"},
		100000: {"one hundred thousand", "einhunderttausend", "cien mil"},
		101000: {"one hundred one thousand", "einhunderteintausend", "ciento un mil"},
		999999: {"nine hundred ninety-nine thousand nine hundred ninety-nine", "neunhundertneunundneunzigtausend neunhundertneunundneunzig", "novecientos noventa y nueve mil novecientos noventa y nueve"},
	} {
		for i, s := range l {
			if w, e := word.Words(i+1, n); strings.Join(w, " ") != s || e != api.OK {
				t.Errorf("%d in %d: %q, %d", n, i+1, w, e)
			}
		}
	}
}

func TestP11_1Errors(t *testing.T) {
	for _, a := range [][2]int{{0, 1}, {4, 1}, {-1, 1}, {1, -1}, {1, 1000000}} {
		if l, e := word.Words(a[0], a[1]); l != nil || e != api.ErrWord {
			t.Error(a, l, e)
		}
	}
	for _, s := range []string{"", "hundred", "one one", "twenty one", "twenty-ten", "zero one", "one hundred zero", "thousand", "one thousand zero", "zero thousand", "zero hundred", "ten hundred", "one thousand thousand", "ten-one", "one hundred one hundred", "-", "twenty-", "twenty-one-one"} {
		if n, e := word.Number(api.LEnglish, fields(s)); n != 0 || e != api.ErrWord {
			t.Errorf("%q = %d, %d", s, n, e)
		}
	}
	for _, s := range []string{"ein", "hundert", "tausend", "einstausend", "einsundzwanzig", "nullhundert", "einhundertnull", "zehnundzwanzig", "nulltausend", "eintausend null", "eintausend eintausend", "und", "zwanzigundein", "einhunderteinhundert"} {
		if n, e := word.Number(api.LGerman, fields(s)); n != 0 || e != api.ErrWord {
			t.Errorf("%q = %d, %d", s, n, e)
		}
	}
	for _, s := range []string{"un", "ciento", "y", "veinti", "un mil", "uno mil", "ciento mil", "cien uno", "mil mil", "mil cero", "cero mil", "veinte y uno", "treinta uno", "treinta y un", "diez y uno", "veintidiez", "veintiun", "mil un"} {
		if n, e := word.Number(api.LSpanish, fields(s)); n != 0 || e != api.ErrWord {
			t.Errorf("%q = %d, %d", s, n, e)
		}
	}
	if _, e := word.Number(0, fields("one")); e != api.ErrWord {
		t.Error("no language", e)
	}
}

func TestP11_2ThereAndBack(t *testing.T) {
	step := 7
	if testing.Short() {
		step = 77
	}
	for language := 1; language <= 3; language++ {
		for n := 0; n <= api.MaxNumber; n++ {
			if n > 3000 && n%1000 > 2 && n%step != 0 {
				continue
			}
			l, e := word.Words(language, n)
			m, f := word.Number(language, l)
			if m != n || e != api.OK || f != api.OK || len(l) > api.MaxWords {
				t.Fatal(language, n, l, m)
			}
		}
	}
}

func TestP11_3Prefix(t *testing.T) {
	l := fields("two hundred people")
	for at, want := range [][2]int{{200, 2}, {0, 0}, {0, 0}} {
		if n, count, ok := word.Prefix(api.LEnglish, l, at); n != want[0] || count != want[1] || ok != (want[1] > 0) {
			t.Error(at, n, count, ok)
		}
	}
	for _, c := range []struct {
		language int
		s        string
		n, count int
	}{{3, "mil ciento", 1000, 1}, {3, "mil ciento y uno", 1000, 1}, {3, "treinta y mil", 30, 1}, {3, "ciento mil", 0, 0}, {3, "treinta y un mil dos", 31002, 5}, {3, "un mil", 0, 0}, {1, "one hundred hundred", 100, 2}, {2, "eintausend null", 1000, 1}, {0, "one", 0, 0}} {
		if n, count, ok := word.Prefix(c.language, fields(c.s), 0); n != c.n || count != c.count || ok != (c.count > 0) {
			t.Error(c, n, count, ok)
		}
	}
	for _, at := range []int{-1, 3} {
		if _, _, ok := word.Prefix(1, l, at); ok {
			t.Error("no index", at)
		}
	}
	r := rand.New(rand.NewSource(1))
	for range 3000 {
		language, n := 1+r.Intn(3), r.Intn(api.MaxNumber+1)>>r.Intn(18)
		l, _ := word.Words(language, n)
		if m, count, ok := word.Prefix(language, append(append([]string{"x"}, l...), "people", "one"), 1); m != n || count != len(l) || !ok {
			t.Fatal(language, n, m, count)
		}
		k, _ := word.Words(language, r.Intn(3000))
		m, count, ok := word.Prefix(language, append(slices.Clone(l), k...), 0)
		if w, _ := word.Words(language, m); !ok || count < len(l) || !slices.Equal(w, append(slices.Clone(l), k...)[:count]) {
			t.Fatal(l, k, m, count)
		}
	}
}

func TestP11_4Is(t *testing.T) {
	for language := 1; language <= 3; language++ {
		for n := 0; n <= api.MaxNumber; n += 1 + n/1000*37 {
			l, _ := word.Words(language, n)
			for _, s := range l {
				if !word.Is(language, s) || strings.Trim(s, "abcdefghijklmnopqrstuvwxyz-") != "" {
					t.Fatal(language, n, s)
				}
			}
		}
	}
	for _, s := range []string{"hundred", "thousand", "seventy-one"} {
		if !word.Is(1, s) || word.Is(2, s) || word.Is(3, s) || word.Is(0, s) {
			t.Error(s)
		}
	}
	for _, s := range []string{"mil", "y", "un", "veintiun", "ciento", "doscientos", "cien"} {
		if !word.Is(3, s) || word.Is(1, s) {
			t.Error(s)
		}
	}
	for _, s := range []string{"zweihunderteinundzwanzigtausend", "einhundert"} {
		if !word.Is(2, s) {
			t.Error(s)
		}
	}
	for _, s := range []string{"", "hundert", "tausend", "ein", "und", "veinti", "people", "-", "seventy-", "twenty-eleven", "einstausend"} {
		for language := range 5 {
			if word.Is(language, s) {
				t.Error(language, s)
			}
		}
	}
}

func TestP11_5Names(t *testing.T) {
	for language := 1; language <= 3; language++ {
		seen := map[string]bool{}
		for n := 1; n <= 12; n++ {
			s, e := word.Month(language, n)
			m, f := word.MonthOf(language, s)
			if e != api.OK || f != api.OK || m != n || seen[s] || word.Is(language, s) {
				t.Error(language, n, s)
			}
			seen[s] = true
		}
		for n := range 7 {
			s, e := word.Weekday(language, n)
			m, f := word.WeekdayOf(language, s)
			if e != api.OK || f != api.OK || m != n || seen[s] || word.Is(language, s) {
				t.Error(language, n, s)
			}
			seen[s] = true
		}
	}
	if s, _ := word.Month(3, 9); s != "septiembre" {
		t.Error(s)
	}
	if s, _ := word.Weekday(2, 5); s != "samstag" {
		t.Error(s)
	}
	for _, a := range [][2]int{{0, 1}, {4, 1}, {1, -1}, {1, 13}} {
		s, e := word.Month(a[0], a[1])
		u, f := word.Weekday(a[0], a[1])
		if s != "" || e != api.ErrWord || u != "" || f != api.ErrWord {
			t.Error(a, s, u)
		}
	}
	if _, e := word.Month(1, 0); e != api.ErrWord {
		t.Error("the month 0")
	}
	if n, e := word.MonthOf(1, "januar"); n != 0 || e != api.ErrWord {
		t.Error(n, e)
	}
	if n, e := word.WeekdayOf(0, "monday"); n != 0 || e != api.ErrWord {
		t.Error(n, e)
	}
}

func TestP11_6Thousands(t *testing.T) {
	seen := map[string]bool{}
	for language := 1; language <= 3; language++ {
		for q := 1; q < 1000; q += 11 {
			a, _ := word.Words(language, 1000*q)
			for r := 1; r < 1000; r += 7 {
				b, _ := word.Words(language, r)
				c, _ := word.Words(language, 1000*q+r)
				s := strings.Join(c, " ")
				if s != strings.Join(append(slices.Clone(a), b...), " ") || seen[s] {
					t.Fatal(language, q, r, c)
				}
				seen[s] = true
			}
		}
	}
}
