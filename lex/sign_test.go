package lex_test

import (
	"slices"
	"strconv"
	"strings"
	"testing"

	"solder/api"
)

// signs are all of them, those of two bytes first.
func signs() []string {
	l := []string{"<<", ">>", "<=", ">=", "==", "!=", "&&", "\x7c\x7c"}
	return append(l, strings.Split("+-*/%&^~!<>=(){}[];,\x7c", "")...)
}

func TestSigns(t *testing.T) {
	if n := len(signs()); n != 29 {
		t.Fatalf("the test has %d signs", n)
	}
	for _, s := range signs() {
		n := len(s)
		holds(t, s, one(4, s))
		holds(t, "a"+s+"b", fine("1:a@0 4:"+s+"@1 "+token(1, "b", n+1)+" "+token(0, "", n+2)))
		holds(t, "1"+s+"2", fine("2:1@0 4:"+s+"@1 "+token(2, "2", n+1)+" "+token(0, "", n+2)))
		holds(t, "1.5"+s+"2.5", fine("3:1.5@0 4:"+s+"@3 "+token(3, "2.5", n+3)+" "+token(0, "", n+6)))
		holds(t, "if "+s+" if", fine("5:if@0 4:"+s+"@3 "+token(5, "if", n+4)+" "+token(0, "", n+6)))
		holds(t, s+"@", wrong(n))
	}
}

// longest are the signs that a text of signs alone has, the longest that fits first; not those of texts with remarks.
func longest(s string) string {
	var l []api.Token
	for at := 0; at < len(s); {
		n := min(2, len(s)-at)
		if !slices.Contains(signs(), s[at:at+n]) {
			n = 1
		}
		l = append(l, api.Token{Kind: api.TSign, Text: s[at : at+n], At: at})
		at += n
	}
	return told(append(l, api.Token{At: len(s)}))
}

// All pairs, with nothing between and with a blank.
func TestPairsOfSigns(t *testing.T) {
	for _, a := range signs() {
		for _, b := range signs() {
			switch s := a + b; s {
			case "//":
				holds(t, s, fine("0:@2"))
			case "/*":
				holds(t, s, wrong(0))
			default:
				holds(t, s, fine(longest(s)))
			}
			holds(t, a+" "+b, fine("4:"+a+"@0 4:"+b+"@"+strconv.Itoa(len(a)+1)+" 0:@"+strconv.Itoa(len(a+b)+1)))
		}
	}
}

// All texts of three bytes that are signs.
func TestThreeSigns(t *testing.T) {
	single := signs()[8:]
	for _, a := range single {
		for _, b := range single {
			for _, c := range single {
				if s := a + b + c; !strings.Contains(s, "//") && !strings.Contains(s, "/*") {
					holds(t, s, fine(longest(s)))
				}
			}
		}
	}
}

func TestHandToldSigns(t *testing.T) {
	for _, c := range []struct{ s, want string }{
		{"<<<", "4:<<@0 4:<@2 0:@3"}, {"<<<<", "4:<<@0 4:<<@2 0:@4"}, {"<<=", "4:<<@0 4:=@2 0:@3"}, {"<==", "4:<=@0 4:=@2 0:@3"}, {"<===", "4:<=@0 4:==@2 0:@4"}, {"===", "4:==@0 4:=@2 0:@3"}, {"!==", "4:!=@0 4:=@2 0:@3"}, {"!!=", "4:!@0 4:!=@1 0:@3"}, {"=!=", "4:=@0 4:!=@1 0:@3"}, {"=<", "4:=@0 4:<@1 0:@2"}, {"=>", "4:=@0 4:>@1 0:@2"}, {"=<<", "4:=@0 4:<<@1 0:@3"}, {"<>", "4:<@0 4:>@1 0:@2"}, {"><", "4:>@0 4:<@1 0:@2"}, {">>>=", "4:>>@0 4:>=@2 0:@4"},
		{"&", "4:&@0 0:@1"}, {"&&&", "4:&&@0 4:&@2 0:@3"}, {"& &", "4:&@0 4:&@2 0:@3"}, {"&a", "4:&@0 1:a@1 0:@2"}, {"&=", "4:&@0 4:=@1 0:@2"}, {"&|", "4:&@0 4:|@1 0:@2"},
		{"\x7c", "4:|@0 0:@1"}, {"\x7c\x7c\x7c", "4:||@0 4:|@2 0:@3"}, {"\x7c \x7c", "4:|@0 4:|@2 0:@3"}, {"\x7c&", "4:|@0 4:&@1 0:@2"},
		{"++", "4:+@0 4:+@1 0:@2"}, {"--", "4:-@0 4:-@1 0:@2"}, {"+=", "4:+@0 4:=@1 0:@2"}, {"-=", "4:-@0 4:=@1 0:@2"}, {"->", "4:-@0 4:>@1 0:@2"}, {"*=", "4:*@0 4:=@1 0:@2"}, {"/=", "4:/@0 4:=@1 0:@2"}, {"%=", "4:%@0 4:=@1 0:@2"}, {"^=", "4:^@0 4:=@1 0:@2"}, {"~=", "4:~@0 4:=@1 0:@2"}, {"**", "4:*@0 4:*@1 0:@2"}, {"^^", "4:^@0 4:^@1 0:@2"}, {"~~", "4:~@0 4:~@1 0:@2"}, {"!!", "4:!@0 4:!@1 0:@2"}, {";;", "4:;@0 4:;@1 0:@2"}, {"[]", "4:[@0 4:]@1 0:@2"}, {"(){}", "4:(@0 4:)@1 4:{@2 4:}@3 0:@4"},
		{"< <", "4:<@0 4:<@2 0:@3"}, {"=\n=", "4:=@0 4:=@2 0:@3"}, {"!/**/=", "4:!@0 4:=@5 0:@6"}, {"<//\n=", "4:<@0 4:=@4 0:@5"},
		{"1+-2", "2:1@0 4:+@1 4:-@2 2:2@3 0:@4"}, {"a=-1;", "1:a@0 4:=@1 4:-@2 2:1@3 4:;@4 0:@5"}, {"*&a", "4:*@0 4:&@1 1:a@2 0:@3"}, {"a<<=b>>c<=d&&e", "1:a@0 4:<<@1 4:=@3 1:b@4 4:>>@5 1:c@7 4:<=@8 1:d@10 4:&&@11 1:e@13 0:@14"},
	} {
		holds(t, c.s, fine(c.want))
	}
}

// A sign of two bytes whose second is any byte that isn't its: the first is a sign, and what follows is what it is.
func TestHalfSigns(t *testing.T) {
	for _, s := range signs()[:8] {
		for n := range 256 {
			half := s[:1] + string([]byte{byte(n)})
			if slices.Contains(signs(), half) {
				continue
			}
			want := ask(string([]byte{byte(n)}))
			if want.e != api.OK {
				holds(t, half, wrong(1))
				continue
			}
			rest := strings.ReplaceAll(strings.ReplaceAll(want.tokens, "@1", "@2"), "@0", "@1")
			holds(t, half, fine("4:"+s[:1]+"@0 "+rest))
		}
	}
}
