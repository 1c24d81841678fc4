package lex_test

import (
	"regexp"
	"slices"
	"strconv"
	"strings"
	"testing"

	"solder/api"
	"solder/lex"
)

// answer is what Lex answers, its tokens told.
type answer struct {
	tokens string
	at     int
	e      api.Errno
}

// fine is what is answered where nothing is wrong: tokens as told tells them.
func fine(tokens string) answer {
	return answer{tokens: tokens}
}

// wrong is what is answered where no token begins.
func wrong(at int) answer {
	return answer{at: at, e: api.ErrLex}
}

// full is what is answered where one token too many begins.
func full(at int) answer {
	return answer{at: at, e: api.ErrFull}
}

// tooLong is what is answered of texts that have too many bytes.
func tooLong() answer {
	return answer{e: api.ErrLong}
}

// token tells one by its Kind, Text and At.
func token(kind int, text string, at int) string {
	return strconv.Itoa(kind) + ":" + text + "@" + strconv.Itoa(at)
}

// told tells tokens, with a blank between.
func told(tokens []api.Token) string {
	var l []string
	for _, x := range tokens {
		l = append(l, token(x.Kind, x.Text, x.At))
	}
	return strings.Join(l, " ")
}

// bare tells tokens without their places.
func bare(tokens []api.Token) string {
	l := slices.Clone(tokens)
	for n := range l {
		l[n].At = 0
	}
	return told(l)
}

func ask(text string) answer {
	l, at, e := lex.Lex(text)
	return answer{told(l), at, e}
}

// tokensOf are those of a text in which nothing may be wrong.
func tokensOf(t *testing.T, text string) []api.Token {
	t.Helper()
	l, at, e := lex.Lex(text)
	if e != api.OK || at != 0 || len(l) == 0 {
		t.Fatalf("P10.1: Lex(%s): %d tokens, at %d, error %d", short(text), len(l), at, e)
	}
	return l
}

// short is enough of a text to know it again.
func short(s string) string {
	if len(s) > 80 {
		return strconv.Quote(s[:60]) + " .. " + strconv.Quote(s[len(s)-15:])
	}
	return strconv.Quote(s)
}

// is says whether Lex answers of a text what is wanted.
func is(t *testing.T, promise, text string, want answer) {
	t.Helper()
	if got := ask(text); got != want {
		t.Errorf("%s: Lex(%s) = %s, %d, %d, want %s, %d, %d", promise, short(text), short(got.tokens), got.at, got.e, short(want.tokens), want.at, want.e)
	}
}

// holds says that too, whether the model answers the same, and whether tokens stand where they are told.
func holds(t *testing.T, text string, want answer) {
	t.Helper()
	is(t, "P10.1", text, want)
	if m := model(text); m != want {
		t.Errorf("of %s the model and the test say %v, and %v", short(text), m, want)
	}
	stand(t, text)
}

// What may stand ahead of a token, and behind the last one.
var (
	ahead  = regexp.MustCompile(`^(?:[\t\n\r ]|//[^\n]*\n|/\*(?:[^*]|\*+[^*/])*\*+/)*$`)
	behind = regexp.MustCompile(`^(?:[\t\n\r ]|//[^\n]*\n|/\*(?:[^*]|\*+[^*/])*\*+/)*(?://[^\n]*)?$`)
)

// stand says whether the tokens of a text stand in it at their places, in order, with nothing else between.
func stand(t *testing.T, text string) {
	t.Helper()
	l, _, e := lex.Lex(text)
	if e != api.OK {
		if len(l) > 0 {
			t.Errorf("P10.2: Lex(%s): %d tokens beside an error", short(text), len(l))
		}
		return
	}
	from := 0
	for n, x := range l {
		gap := ahead
		if n == len(l)-1 {
			gap = behind
		}
		if x.At < from || x.At > len(text) || !gap.MatchString(text[from:x.At]) || !strings.HasPrefix(text[x.At:], x.Text) {
			t.Errorf("P10.2: Lex(%s): token %d, %s, doesn't stand there", short(text), n, token(x.Kind, x.Text, x.At))
			return
		}
		if end := x.Kind == api.TEnd; end != (n == len(l)-1) || end != (x.Text == "") || end && x.At != len(text) {
			t.Errorf("P10.2: Lex(%s): token %d of %d is %s", short(text), n, len(l), token(x.Kind, x.Text, x.At))
			return
		}
		from = x.At + len(x.Text)
	}
}
