package word

import (
	"slices"
	"strings"

	"newswire/api"
)

// The words for greater numbers.
const (
	hundred  = "hundred"
	thousand = "thousand"
	hundert  = "hundert"
	tausend  = "tausend"
	cien     = "cien"
	ciento   = "ciento"
	mil      = "mil"
)

// hundreds has the Spanish words for 100 (where more follows), 200 and so on.
var hundreds = [9]string{ciento, "doscientos", "trescientos", "cuatrocientos", "quinientos", "seiscientos", "setecientos", "ochocientos", "novecientos"}

// simple returns the number from 0 to 19, or the multiple of ten up to 90, with the word s, or -1.
func simple(language int, s string) int {
	for n, word := range ones[language-1] {
		if word == s {
			return n
		}
	}
	for i, word := range tens[language-1] {
		if word == s {
			return 20 + 10*i
		}
	}
	return -1
}

// word returns the word for a number from 0 to 19, or a multiple of ten up to 90.
func word(language int, n int) string {
	if n < 20 {
		return ones[language-1][n]
	}
	return tens[language-1][n/10-2]
}

// tensAndOnes returns the sum of both, or -1 if they are not those of a number from 21 to 99.
func tensAndOnes(t int, o int) int {
	if t < 20 || t%10 != 0 || o < 1 || o > 9 {
		return -1
	}
	return t + o
}

func englishWords(n int) []string {
	var l []string
	if q := n / 1000; q > 0 {
		l = append(englishWords(q), thousand)
		if n %= 1000; n == 0 {
			return l
		}
	}
	if h := n / 100; h > 0 {
		l = append(l, word(api.LEnglish, h), hundred)
		if n %= 100; n == 0 {
			return l
		}
	}
	if n < 20 || n%10 == 0 {
		return append(l, word(api.LEnglish, n))
	}
	return append(l, word(api.LEnglish, n-n%10)+"-"+word(api.LEnglish, n%10))
}

// guess returns the number that words around a word for a thousand may stand for: none before it stand for alone.
func guess(l []string, thousand string, alone int, small func(l []string) int) int {
	i := slices.Index(l, thousand)
	if i < 0 {
		return small(l)
	}
	q, r := alone, 0
	if i > 0 {
		q = small(l[:i])
	}
	if i+1 < len(l) {
		r = small(l[i+1:])
	}
	if q < 0 || r < 0 {
		return -1
	}
	return 1000*q + r
}

func englishGuess(l []string) int {
	return guess(l, thousand, -1, englishSmall)
}

// englishSmall returns the number less than 1000 with these words, or -1.
func englishSmall(l []string) int {
	n := 0
	if len(l) > 1 && l[1] == hundred {
		n, l = 100*simple(api.LEnglish, l[0]), l[2:]
		if len(l) == 0 {
			return n
		}
	}
	if len(l) != 1 {
		return -1
	}
	small := simple(api.LEnglish, l[0])
	if t, o, joined := strings.Cut(l[0], "-"); joined {
		small = tensAndOnes(simple(api.LEnglish, t), simple(api.LEnglish, o))
	}
	if n < 0 || small < 0 {
		return -1
	}
	return n + small
}

func germanWords(n int) []string {
	if n < 1000 {
		return []string{germanSmallWord(n)}
	}
	q := germanSmallWord(n / 1000)
	if strings.HasSuffix(q, "eins") {
		q = strings.TrimSuffix(q, "s")
	}
	l := []string{q + tausend}
	if r := n % 1000; r > 0 {
		l = append(l, germanSmallWord(r))
	}
	return l
}

// joined returns the word for a number from 1 to 9 where more is joined to it.
func joined(n int) string {
	return strings.TrimSuffix(word(api.LGerman, n), when(n == 1, "s"))
}

// when returns s if is is true, and an empty string otherwise.
func when(is bool, s string) string {
	if is {
		return s
	}
	return ""
}

// germanSmallWord returns the word of a number less than 1000.
func germanSmallWord(n int) string {
	s := ""
	if h := n / 100; h > 0 {
		s = joined(h) + hundert
		if n %= 100; n == 0 {
			return s
		}
	}
	if n < 20 || n%10 == 0 {
		return s + word(api.LGerman, n)
	}
	return s + joined(n%10) + "und" + word(api.LGerman, n-n%10)
}

func germanGuess(l []string) int {
	q, isThousand := strings.CutSuffix(l[0], tausend)
	if !isThousand {
		return germanSmall(l)
	}
	n := germanSmall([]string{q})
	if strings.HasSuffix(q, "ein") {
		n = germanSmall([]string{q + "s"})
	}
	r := 0
	if len(l) > 1 {
		r = germanSmall(l[1:])
	}
	if n < 0 || r < 0 {
		return -1
	}
	return 1000*n + r
}

// germanOne returns the number from 1 to 9 with a word to which more is joined, or -1.
func germanOne(s string) int {
	if s == "ein" {
		return 1
	}
	return simple(api.LGerman, s)
}

// germanSmall returns the number less than 1000 with this word alone, or -1.
func germanSmall(l []string) int {
	if len(l) != 1 {
		return -1
	}
	n, s := 0, l[0]
	if h, rest, found := strings.Cut(s, hundert); found {
		n, s = 100*germanOne(h), rest
		if s == "" {
			return n
		}
	}
	small := simple(api.LGerman, s)
	if o, t, found := strings.Cut(s, "und"); found {
		small = tensAndOnes(simple(api.LGerman, t), germanOne(o))
	}
	if n < 0 || small < 0 {
		return -1
	}
	return n + small
}

func spanishWords(n int) []string {
	var l []string
	if q := n / 1000; q > 0 {
		if q > 1 {
			l = spanishWords(q)
			if last := &l[len(l)-1]; strings.HasSuffix(*last, "uno") {
				*last = strings.TrimSuffix(*last, "o")
			}
		}
		l = append(l, mil)
		if n %= 1000; n == 0 {
			return l
		}
	}
	if n == 100 {
		return append(l, cien)
	}
	if h := n / 100; h > 0 {
		l = append(l, hundreds[h-1])
		if n %= 100; n == 0 {
			return l
		}
	}
	t, o := n-n%10, n%10
	switch {
	case n < 20 || o == 0:
		return append(l, word(api.LSpanish, n))
	case t == 20:
		return append(l, "veinti"+word(api.LSpanish, o))
	}
	return append(l, word(api.LSpanish, t), "y", word(api.LSpanish, o))
}

func isSpanishPart(s string) bool {
	switch s {
	case "y", "un", "veintiun", ciento, mil:
		return true
	}
	return false
}

func spanishGuess(l []string) int {
	return guess(l, mil, 1, spanishSmall)
}

// spanishOne returns the number with a simple word, also if more follows it, or -1.
func spanishOne(s string) int {
	if s == "un" {
		return 1
	}
	return simple(api.LSpanish, s)
}

// spanishSmall returns the number less than 1000 with these words, or -1.
func spanishSmall(l []string) int {
	n := 0
	if l[0] == cien {
		n, l = 100, l[1:]
	} else if i := slices.Index(hundreds[:], l[0]); i >= 0 {
		n, l = 100*(i+1), l[1:]
	}
	small := -1
	switch {
	case len(l) == 0:
		return n
	case len(l) == 1:
		small = spanishOne(l[0])
		if o, found := strings.CutPrefix(l[0], "veinti"); found {
			small = tensAndOnes(20, spanishOne(o))
		}
	case len(l) == 3 && l[1] == "y":
		small = tensAndOnes(simple(api.LSpanish, l[0]), spanishOne(l[2]))
	}
	if small < 0 {
		return -1
	}
	return n + small
}
