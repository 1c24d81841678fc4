package lex_test

import (
	"math/big"
	"regexp"
	"slices"
	"strings"

	"solder/api"
)

// The chapter once more, told in another way: by regular expressions, and without package real.

var (
	gaps  = regexp.MustCompile(`^(?:[\t\n\r ]|//[^\n]*(?:\n|$)|/\*(?:[^*]|\*+[^*/])*\*+/)*`)
	after = regexp.MustCompile(`^[0-9A-Za-z_.]`)
)

// form is what the tokens of a Kind look like.
type form struct {
	kind int
	is   *regexp.Regexp
}

// forms stand in the order in which they are tried: what may begin with another one is ahead of it.
var forms = []form{
	{api.TWord, regexp.MustCompile(`^(?:int|double|void|static|extern|if|else|while|return|break|continue)\b`)},
	{api.TName, regexp.MustCompile(`^[A-Za-z_][A-Za-z_0-9]*`)},
	{api.TReal, regexp.MustCompile(`^[0-9]+\.[0-9]+(?:e[+-]?[0-9]+)?`)},
	{api.TInt, regexp.MustCompile(`^[0-9]+`)},
	{api.TSign, regexp.MustCompile(`^(?:<<|>>|<=|>=|==|!=|&&|\|\||[-+*/%&^~!<>=(){}[\];,|])`)},
}

func model(text string) answer {
	if len(text) > 8192 {
		return tooLong()
	}
	var l []api.Token
	at := 0
	for {
		at += len(gaps.FindString(text[at:]))
		if at == len(text) {
			return fine(told(append(l, api.Token{At: at})))
		}
		x, holds := modelToken(text[at:])
		if !holds {
			return wrong(at)
		}
		if len(l) == 2500 {
			return full(at)
		}
		x.At = at
		l = append(l, x)
		at += len(x.Text)
	}
}

// modelToken is the token with which a text begins, if it does with one.
func modelToken(s string) (api.Token, bool) {
	n := slices.IndexFunc(forms, func(f form) bool { return f.is.MatchString(s) })
	if n < 0 || strings.HasPrefix(s, "/*") {
		return api.Token{}, false
	}
	x := api.Token{Kind: forms[n].kind, Text: forms[n].is.FindString(s)}
	number := x.Kind == api.TInt || x.Kind == api.TReal
	return x, modelMay(x) && !(number && after.MatchString(s[len(x.Text):]))
}

// modelMay tells whether a token is no greater than one may be.
func modelMay(x api.Token) bool {
	switch x.Kind {
	case api.TName, api.TReal:
		return len(x.Text) <= 40
	case api.TInt:
		n, _ := new(big.Int).SetString(x.Text, 10)
		return len(x.Text) <= 10 && n.Cmp(big.NewInt(4294967295)) <= 0
	}
	return true
}
