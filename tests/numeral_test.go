package tests

import (
	"math/big"
	"strconv"
	"strings"
	"testing"

	"loop.example/typesetting/impl"
)

// wantRoman writes a numeral digit by digit, without a list of parts.
func wantRoman(n int) string {
	digit := func(d int, one, five, ten string) string {
		switch {
		case d == 9:
			return one + ten
		case d >= 5:
			return five + strings.Repeat(one, d-5)
		case d == 4:
			return one + five
		}
		return strings.Repeat(one, d)
	}
	return strings.Repeat("m", n/1000) + digit(n/100%10, "c", "d", "m") + digit(n/10%10, "x", "l", "c") + digit(n%10, "i", "v", "x")
}

// allRoman returns the numbers of all Roman numerals.
func allRoman() map[string]int {
	list := map[string]int{}
	for n := 1; n <= 3999; n++ {
		list[wantRoman(n)] = n
	}
	return list
}

// wantAlphabetic counts through all texts of letters up to a number, and returns them from the number 1 on.
func wantAlphabetic(n int) []string {
	var list []string
	text := []byte{}
	for range n {
		i := len(text) - 1
		for i >= 0 && text[i] == 'z' {
			text[i] = 'a'
			i--
		}
		if i >= 0 {
			text[i]++
		} else {
			text = append(text, 'a')
		}
		list = append(list, string(text))
	}
	return list
}

// allTexts goes over all texts of at most n characters of an alphabet.
func allTexts(alphabet string, n int, visit func(s string)) {
	var extend func(s string)
	extend = func(s string) {
		visit(s)
		for i := range alphabet {
			if len(s) < n {
				extend(s + alphabet[i:i+1])
			}
		}
	}
	extend("")
}

// changedTexts goes over texts that differ from a text by one character.
func changedTexts(s, alphabet string, visit func(s string)) {
	for i := range len(s) + 1 {
		for j := range alphabet {
			c := alphabet[j : j+1]
			visit(s[:i] + c + s[i:])
			if i < len(s) {
				visit(s[:i] + c + s[i+1:])
			}
		}
		if i < len(s) {
			visit(s[:i] + s[i+1:])
		}
	}
}

// noNumerals are texts that are no numbers in letters of any kind.
var noNumerals = []string{
	"", " ", "I", "XLIX", "A", "Z", "aA", "i i", " i", "i ", "i\n", "i\x00", "\x00", "1", "12", "a1", "-i", "i.", "{", "`", "a{", "`a", "\u00e9", "\u2170", "\xff",
}

// notInLetters returns numbers that have no numeral.
func notInLetters() []int {
	list := []int{4000, 4001, -3999}
	for _, n := range extremes {
		if n < 1 || n > 3999 {
			list = append(list, n)
		}
	}
	return list
}

func TestNumbersInLettersHaveLimits(t *testing.T) {
	for _, n := range notInLetters() {
		if s := impl.Roman(n); s != "" {
			t.Errorf("Roman(%d) = %q", n, s)
		}
		if s := impl.Alphabetic(n); s != "" {
			t.Errorf("Alphabetic(%d) = %q", n, s)
		}
	}
	for _, s := range noNumerals {
		if n, ok := impl.FromRoman(s); ok || n != 0 {
			t.Errorf("FromRoman(%q) = %d, %v", s, n, ok)
		}
		if n, ok := impl.FromAlphabetic(s); ok || n != 0 {
			t.Errorf("FromAlphabetic(%q) = %d, %v", s, n, ok)
		}
	}
}

// Promise 74.
func TestP74RomanNumeralsCanBeRead(t *testing.T) {
	for n := 1; n <= 3999; n++ {
		s := impl.Roman(n)
		if want := wantRoman(n); s != want {
			t.Errorf("Roman(%d) = %q, want %q", n, s, want)
		}
		if got, ok := impl.FromRoman(s); got != n || !ok {
			t.Errorf("FromRoman(%q) = %d, %v, want %d", s, got, ok, n)
		}
	}
	for n, want := range map[int]string{
		1: "i", 3: "iii", 4: "iv", 5: "v", 8: "viii", 9: "ix", 14: "xiv", 40: "xl", 44: "xliv", 90: "xc", 99: "xcix",
		400: "cd", 499: "cdxcix", 900: "cm", 999: "cmxcix", 1000: "m", 1666: "mdclxvi", 3888: "mmmdccclxxxviii", 3999: "mmmcmxcix",
	} {
		if s := impl.Roman(n); s != want {
			t.Errorf("Roman(%d) = %q, want %q", n, s, want)
		}
	}
}

// Promise 75.
func TestP75RomanNumeralsAreCanonical(t *testing.T) {
	numerals := allRoman()
	read := 0
	check := func(s string) {
		want, is := numerals[s]
		n, ok := impl.FromRoman(s)
		if n != want || ok != is {
			t.Errorf("FromRoman(%q) = %d, %v, want %d, %v", s, n, ok, want, is)
		}
		if ok {
			read++
			if back := impl.Roman(n); back != s {
				t.Errorf("FromRoman(%q) = %d, but Roman of it is %q", s, n, back)
			}
		}
	}
	allTexts("ivxlcdm", 6, check)
	if read < 1000 {
		t.Errorf("only %d texts could be read", read)
	}
	for n := 7; n <= 3999; n += 13 {
		changedTexts(wantRoman(n), "ivxlcdma", check)
	}
	for _, s := range []string{"iiii", "vv", "ll", "dd", "viv", "ixi", "ivi", "ixix", "xcxc", "xcx", "cmc", "cdc", "cdcd", "cmcd", "vx", "ic", "im", "lc", "xm", "iix", "xxc", "ivix", "mmmm", "mmmmi", "mmmcmxcixi", "mix1", "Mi", "mI", "x x"} {
		check(s)
	}
	for _, c := range "ivxlcdm" {
		check(strings.Repeat(string(c), 100000))
	}
}

// Promise 76.
func TestP76ThousandsAreWrittenAsM(t *testing.T) {
	for n := 1; n+1000 <= 3999; n++ {
		if s, want := impl.Roman(n+1000), "m"+impl.Roman(n); s != want {
			t.Errorf("Roman(%d) = %q, want %q", n+1000, s, want)
		}
	}
	if a, b, c := impl.Roman(1000), impl.Roman(2000), impl.Roman(3000); a != "m" || b != "mm" || c != "mmm" {
		t.Errorf("the thousands are %q, %q, %q", a, b, c)
	}
}

// Promise 77.
func TestP77LettersCanBeRead(t *testing.T) {
	for i, want := range wantAlphabetic(3999) {
		s := impl.Alphabetic(i + 1)
		if s != want {
			t.Errorf("Alphabetic(%d) = %q, want %q", i+1, s, want)
		}
		if n, ok := impl.FromAlphabetic(s); n != i+1 || !ok {
			t.Errorf("FromAlphabetic(%q) = %d, %v, want %d", s, n, ok, i+1)
		}
	}
	for n, want := range map[int]string{1: "a", 25: "y", 26: "z", 27: "aa", 51: "ay", 52: "az", 53: "ba", 701: "zy", 702: "zz", 703: "aaa", 728: "aaz", 729: "aba", 1378: "azz", 1379: "baa", 3999: "ewu"} {
		if s := impl.Alphabetic(n); s != want {
			t.Errorf("Alphabetic(%d) = %q, want %q", n, s, want)
		}
	}
}

// inLetters returns a number of any size in letters.
func inLetters(n *big.Int) string {
	one, all, s := big.NewInt(1), big.NewInt(26), ""
	n = new(big.Int).Set(n)
	for n.Sign() > 0 {
		letter := new(big.Int)
		n.Sub(n, one).DivMod(n, all, letter)
		s = string(rune('a'+letter.Int64())) + s
	}
	return s
}

// Promise 78.
func TestP78LettersAreCanonical(t *testing.T) {
	numbers := map[string]int{}
	for i, s := range wantAlphabetic(3999) {
		numbers[s] = i + 1
	}
	check := func(s string) {
		want, is := numbers[s]
		n, ok := impl.FromAlphabetic(s)
		if n != want || ok != is {
			t.Errorf("FromAlphabetic(%q) = %d, %v, want %d, %v", s, n, ok, want, is)
		}
		if back := impl.Alphabetic(n); ok && back != s {
			t.Errorf("FromAlphabetic(%q) = %d, but Alphabetic of it is %q", s, n, back)
		}
	}
	allTexts("abcdefghijklmnopqrstuvwxyz", 3, check)
	allTexts("az", 14, check)
	for _, s := range []string{"ewu", "ewv", "ewz", "exa", "zzz", "aaaa", "zzzz", "aB", "Ab", "a b", "ab "} {
		check(s)
		changedTexts(s, "az{`A ", check)
	}
	// Numbers that are small again after they have wrapped around.
	for _, bits := range []uint{31, 32, 62, 63, 64, 65, 128} {
		for n := int64(-1); n <= 60; n++ {
			check(inLetters(new(big.Int).Add(new(big.Int).Lsh(big.NewInt(1), bits), big.NewInt(n))))
		}
	}
	if s := inLetters(big.NewInt(3999)); s != "ewu" {
		t.Errorf("3999 in letters is %q", s)
	}
	for n := range 70 {
		for _, c := range "abmyz" {
			check(strings.Repeat(string(c), n))
		}
	}
	check(strings.Repeat("a", 100000))
}

// Promise 79.
func TestP79LettersAreOrderedByLengthThenByAlphabet(t *testing.T) {
	longer := 0
	for n := 1; n < 3999; n++ {
		s, next := impl.Alphabetic(n), impl.Alphabetic(n+1)
		if len(next) < len(s) || len(next) == len(s) && next <= s {
			t.Errorf("Alphabetic(%d) = %q, and the next one %q", n, s, next)
		}
		if len(next) > len(s) {
			longer++
		}
	}
	if longer != 2 {
		t.Errorf("Alphabetic becomes longer %d times", longer)
	}
}

// Promise 80.
func TestP80StylesAreThoseOfTheirFunctions(t *testing.T) {
	if impl.Arabic != 1 || impl.RomanStyle != 2 || impl.LetterStyle != 3 {
		t.Fatal("the styles have other values")
	}
	for n := 1; n <= 3999; n++ {
		if s := impl.FormatNumber(n, impl.Arabic); s != strconv.Itoa(n) || strings.Trim(s, "0123456789") != "" {
			t.Errorf("FormatNumber(%d, Arabic) = %q", n, s)
		}
		if s := impl.FormatNumber(n, impl.RomanStyle); s != impl.Roman(n) || s != wantRoman(n) {
			t.Errorf("FormatNumber(%d, RomanStyle) = %q", n, s)
		}
		if s := impl.FormatNumber(n, impl.LetterStyle); s == "" || s != impl.Alphabetic(n) {
			t.Errorf("FormatNumber(%d, LetterStyle) = %q", n, s)
		}
	}
}

func TestP80FormatNumberFailsForInvalidArguments(t *testing.T) {
	for _, n := range notInLetters() {
		for style := -1; style <= 5; style++ {
			if s := impl.FormatNumber(n, style); s != "" {
				t.Errorf("FormatNumber(%d, %d) = %q", n, style, s)
			}
		}
	}
	for _, style := range append([]int{3, 4, 5}, extremes...) {
		if style >= 1 && style <= 3 {
			continue
		}
		for _, n := range []int{1, 26, 3999} {
			if s := impl.FormatNumber(n, style); s != "" {
				t.Errorf("FormatNumber(%d, %d) = %q", n, style, s)
			}
		}
	}
}
