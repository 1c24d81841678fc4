package lex_test

import (
	"strings"
	"testing"
	"unsafe"

	"solder/api"
	"solder/helps"
	"solder/lex"
)

// ownTexts are texts by what is answered of them.
func ownTexts() map[string]string {
	return map[string]string{
		"empty":     "",
		"remarks":   " // a\n/* b */",
		"one":       "name",
		"function":  "int main() { return 1.5e3 + 2 << x_1; } // end",
		"names":     "a a a aa a",
		"words":     "if if else int double",
		"many":      strings.Repeat("a 1;", 800),
		"the most":  strings.Repeat("; ", 2500),
		"no token":  "int a = 1.;",
		"too many":  strings.Repeat("; ", 2501),
		"too long":  strings.Repeat(" ", 8193),
		"no end":    "a /* b",
		"all kinds": "int a 1 1.5 ; <<",
	}
}

// What is answered may be changed and lengthened, and nothing else changes with it.
func TestAnswersAreNewMemory(t *testing.T) {
	for what, s := range ownTexts() {
		want := ask(s)
		a, _, _ := lex.Lex(s)
		b, _, _ := lex.Lex(s)
		helps.Fill(a[:cap(a)], api.Token{Kind: 7, Text: "spoilt", At: -1})
		_ = append(a, api.Token{Text: "more"})
		if told(b) != want.tokens {
			t.Errorf("P10.3: %s: an answer shares its memory with another", what)
		}
		is(t, "P10.3", s, want)
	}
}

// The text's bytes change behind the call: so it is seen whether an answer has some of them.
func TestTextsAreNoPiecesOfTheText(t *testing.T) {
	for what, s := range ownTexts() {
		if s == "" {
			continue
		}
		want := ask(s)
		b := []byte(s)
		l, at, e := lex.Lex(unsafe.String(&b[0], len(b)))
		if string(b) != s {
			t.Errorf("P10.3: %s: what was handed in is now another", what)
		}
		helps.Fill(b, '~')
		if got := (answer{told(l), at, e}); got != want {
			t.Errorf("P10.3: %s: an answer has the text's own bytes: %s, want %s", what, short(got.tokens), short(want.tokens))
		}
	}
}

// A text that stands within more bytes: what is around it is neither read nor changed.
func TestTextWithinMore(t *testing.T) {
	for what, s := range ownTexts() {
		want := ask(s)
		for _, around := range []string{"a", "1", ".5", "/*", "*/", "//", "=", "@", "\n"} {
			b := []byte(around + s + around)
			kept := string(b)
			whole := unsafe.String(&b[0], len(b))
			is(t, "P10.3", whole[len(around):len(around)+len(s)], want)
			if string(b) != kept {
				t.Errorf("P10.3: %s: what was handed in is now another", what)
			}
		}
	}
}

// An answer hangs on nothing that was asked ahead of it.
func TestAskedAgain(t *testing.T) {
	first := map[string]answer{}
	seen := map[api.Errno]int{}
	for range 3 {
		for what, s := range ownTexts() {
			got := ask(s)
			if want, asked := first[what]; asked && got != want {
				t.Errorf("P10.3: %s: asked again it is %v, not %v", what, got, want)
			}
			first[what] = got
			seen[got.e]++
			holds(t, s, model(s))
		}
	}
	if len(seen) != 4 {
		t.Errorf("the test's texts lead to the errors %v alone", seen)
	}
}
