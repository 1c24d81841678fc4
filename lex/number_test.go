package lex_test

import (
	"strings"
	"testing"

	"solder/api"
	"solder/lex"
)

func TestInts(t *testing.T) {
	for _, s := range []string{"0", "1", "9", "10", "00", "01", "007", "000", "0000000000", "0000000001", "0000000009", "0123456789", "1234567890", "2147483647", "2147483648", "4294967294", "4294967295", "4000000000", "999999999", "0999999999"} {
		holds(t, s, one(2, s))
		holds(t, "("+s+")", fine("4:(@0 2:"+s+"@1 "+token(4, ")", len(s)+1)+" "+token(0, "", len(s)+2)))
	}
	for _, s := range []string{"4294967296", "4294967297", "4294967300", "4300000000", "5000000000", "9999999999", "00000000000", "00000000001", "04294967295", "10000000000", "42949672950", "12345678901", strings.Repeat("0", 11), strings.Repeat("0", 40), strings.Repeat("0", 41), strings.Repeat("9", 1000), "18446744073709551616", "18446744073709551617", "340282366920938463463374607431768211457"} {
		holds(t, s, wrong(0))
		holds(t, "a+"+s, wrong(2))
		holds(t, s+" @", wrong(0))
	}
	holds(t, "-1", fine("4:-@0 2:1@1 0:@2"))
	holds(t, "+1", fine("4:+@0 2:1@1 0:@2"))
	holds(t, "-2147483648", fine("4:-@0 2:2147483648@1 0:@11"))
	holds(t, "1 000", fine("2:1@0 2:000@2 0:@5"))
	holds(t, "1,000", fine("2:1@0 4:,@1 2:000@2 0:@5"))
}

// reals are texts of reals, also ones that mean an infinity, or 0, and ones of 40 bytes.
func reals() []string {
	return []string{
		"0.0", "1.5", "00.00", "007.10", "12.34", "3.14159", "0.1e1", "1.5e3", "1.5e+3", "1.5e-3", "12.34e56", "12.34e+56", "12.34e-56", "1.0e0", "1.0e-0", "1.0e00000", "1.0e+007", "0.0e99", "4294967296.0", "00000000001.5", "99999999999999999999.5", "1.99999999999999999999", "1.0e4294967296",
		"1.7976931348623157e308", "1.7976931348623159e308", "1.8e308", "1.0e309", "1.0e999", "1.0e+99999999999999999999", "4.9406564584124654e-324", "1.0e-324", "1.0e-999", "1.0e-99999999999999999999",
		"1." + strings.Repeat("0", 38), strings.Repeat("9", 38) + ".9", "1.5e" + strings.Repeat("0", 35) + "1", "1.5e+" + strings.Repeat("9", 35), "1.5e-" + strings.Repeat("9", 35), strings.Repeat("1", 19) + "." + strings.Repeat("2", 20),
	}
}

func TestReals(t *testing.T) {
	for _, s := range reals() {
		n := len(s)
		holds(t, s, one(3, s))
		holds(t, "-"+s+"+", fine("4:-@0 3:"+s+"@1 "+token(4, "+", n+1)+" "+token(0, "", n+2)))
		holds(t, s+" "+s, fine("3:"+s+"@0 "+token(3, s, n+1)+" "+token(0, "", 2*n+1)))
	}
	for _, c := range []struct{ s, want string }{
		{"1.5+3", "3:1.5@0 4:+@3 2:3@4 0:@5"}, {"1.5-3", "3:1.5@0 4:-@3 2:3@4 0:@5"}, {"1.5e3+3", "3:1.5e3@0 4:+@5 2:3@6 0:@7"}, {"1.5e3-e", "3:1.5e3@0 4:-@5 1:e@6 0:@7"}, {"1.5 e3", "3:1.5@0 1:e3@4 0:@6"}, {"1.5e+3-3", "3:1.5e+3@0 4:-@6 2:3@7 0:@8"}, {"1.5e-3+e", "3:1.5e-3@0 4:+@6 1:e@7 0:@8"},
		{"-1.5e-3", "4:-@0 3:1.5e-3@1 0:@7"}, {"1.5/**/e3", "3:1.5@0 1:e3@7 0:@9"}, {"1.5,2.5", "3:1.5@0 4:,@3 3:2.5@4 0:@7"}, {"1.5*2", "3:1.5@0 4:*@3 2:2@4 0:@5"}, {"a[1.5]", "1:a@0 4:[@1 3:1.5@2 4:]@5 0:@6"}, {"1.5/2.5", "3:1.5@0 4:/@3 3:2.5@4 0:@7"},
	} {
		holds(t, c.s, fine(c.want))
	}
}

// Numbers of 41 bytes and more aren't reals, nor is what they begin with a token.
func TestLongReals(t *testing.T) {
	for _, s := range reals() {
		if len(s) != 40 {
			continue
		}
		for _, more := range []string{s + "0", s[:1] + "0" + s[1:], "0" + s, s + strings.Repeat("0", 1000)} {
			holds(t, more, wrong(0))
			holds(t, "a "+more+" @", wrong(2))
		}
	}
	for _, c := range []struct{ head, tail string }{{"1.", ""}, {"", ".5"}, {"1.5e", ""}, {"1.5e+", ""}, {"1.5e-", "1"}, {"", "1.0e0"}, {"1.", "e5"}} {
		for n := 38; n <= 43; n++ {
			s := c.head + strings.Repeat("0", n-len(c.head)-len(c.tail)) + c.tail
			if n <= 40 {
				holds(t, s, one(3, s))
			} else {
				holds(t, s, wrong(0))
			}
		}
	}
}

// With something missing at each place.
func TestHalfReals(t *testing.T) {
	for _, s := range []string{"1.", "12.", "0000000000.", "4294967296.", "1.e5", "1.e+5", "1.e", "1.+5", "1.-", "1.5e", "1.5e+", "1.5e-", "1.5e++5", "1.5e+-5", "1.5e--5", "1.5e 5", "1.5e+ 5", "1.5e+a", "1.5ea", "1.5e.", "1.5e.5", "1.5e+.5", "1e5", "1e+5", "1e", "1..5", "1.;", "1. 5", "1.\n5", "1./5", "1./**/5", "1.5e/**/5", "1.5e;", "1.5E5", "1.5E", "1.a", "1._", "1.\xff", "1.\x00", "1.5e\xff", "1.5e+\xff", "1.@"} {
		holds(t, s, wrong(0))
		holds(t, "a\n"+s, wrong(2))
		holds(t, "1.5 "+s, wrong(4))
	}
	for s, at := range map[string]int{".": 0, ".5": 0, ".5e3": 0, ".e3": 0, "a.5": 1, "+.5": 1, "1 .5": 2, "1+.5": 2, "-.5": 1, "1.5+.": 4, "/**/.5": 4, "e.5": 1} {
		holds(t, s, wrong(at))
	}
	// All of a real's parts, and each set of them.
	parts := []string{"12", ".", "34", "e", "+", "56"}
	right := map[string]bool{}
	for set := range 1 << len(parts) {
		s := ""
		for n, part := range parts {
			if set>>n&1 == 1 {
				s += part
			}
		}
		holds(t, s, model(s))
		if l, _, e := lex.Lex(s); e == api.OK && len(l) == 2 && l[0].Kind == api.TReal {
			right[s] = true
		}
	}
	for _, s := range []string{"12.34", "12.34e+56", "12.34e56", "12.3456", "12.56"} {
		if !right[s] {
			t.Errorf("P10.1: %q is no real", s)
		}
		delete(right, s)
	}
	for s := range right {
		t.Errorf("P10.1: %q is a real", s)
	}
}

// Each byte behind each number: where a digit, a letter, _ or . is left over, the number is wrong; else it stands, and
// what follows is what it is by itself.
func TestBehindNumbers(t *testing.T) {
	type number struct {
		kind  int
		text  string
		digit bool // may one more stand there?
	}
	l := []number{{2, "1", true}, {2, "0", true}, {2, "000000001", true}, {2, "0000000001", false}, {2, "429496728", true}, {2, "4294967295", false}}
	for _, s := range reals() {
		l = append(l, number{3, s, len(s) < 40})
	}
	for _, x := range l {
		for n := range 256 {
			b := string([]byte{byte(n)})
			s := x.text + b
			switch {
			case '0' <= n && n <= '9' && x.digit:
				holds(t, s, one(x.kind, s))
			case strings.Contains("0123456789abcdefghijklmnopqrstuvwxyzABCDEFGHIJKLMNOPQRSTUVWXYZ_.", b):
				holds(t, s, wrong(0))
			case strings.Contains("\t\n\r ", b):
				holds(t, s, fine(token(x.kind, x.text, 0)+" "+token(0, "", len(s))))
			case strings.Contains("+-*/%&^~!<>=(){}[];,\x7c", b):
				holds(t, s, fine(token(x.kind, x.text, 0)+" "+token(4, b, len(x.text))+" "+token(0, "", len(s))))
			default:
				holds(t, s, wrong(len(x.text)))
			}
		}
	}
	for _, s := range []string{"1.5.2", "1.5..2", "1.2.3.4", "1.5e3.2", "1.5e3e3", "1.5e3a", "1.5a", "1.5_", "1.5f", "1.5e+3.", "1.5e+3_", "1..", "1..2", "1._5", "1_5", "1_000", "0.0.0", "1.5e5e", "1.5e5E5"} {
		holds(t, s, wrong(0))
	}
}
