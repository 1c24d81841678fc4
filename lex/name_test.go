package lex_test

import (
	"strconv"
	"strings"
	"testing"
)

// words are the reserved ones.
func words() []string {
	return []string{"int", "double", "void", "static", "extern", "if", "else", "while", "return", "break", "continue"}
}

// one is what is answered of a text that is a single token.
func one(kind int, text string) answer {
	return fine(token(kind, text, 0) + " " + token(0, "", len(text)))
}

func TestReservedWords(t *testing.T) {
	for _, w := range words() {
		holds(t, w, one(5, w))
		holds(t, ";"+w+"*", fine("4:;@0 5:"+w+"@1 4:*@"+strconv.Itoa(1+len(w))+" 0:@"+strconv.Itoa(2+len(w))))
		for _, s := range []string{w + "a", w + "s", w + "Z", w + "_", w + "0", w + "9", "a" + w, "z" + w, "_" + w, w[1:], w[:len(w)-1], w + w, strings.ToUpper(w), strings.ToUpper(w[:1]) + w[1:], w[:1] + strings.ToUpper(w[1:])} {
			holds(t, s, one(1, s))
		}
		holds(t, "0"+w, wrong(0))
		holds(t, w+" "+w, fine("5:"+w+"@0 5:"+w+"@"+strconv.Itoa(len(w)+1)+" 0:@"+strconv.Itoa(2*len(w)+1)))
		for _, s := range []string{w[:1] + " " + w[1:], w[:1] + "/**/" + w[1:], w[:1] + "//\n" + w[1:]} {
			at := len(s) - len(w) + 1
			holds(t, s, fine("1:"+w[:1]+"@0 1:"+w[1:]+"@"+strconv.Itoa(at)+" 0:@"+strconv.Itoa(len(s))))
		}
	}
	for _, s := range []string{"for", "do", "float", "char", "long", "unsigned", "switch", "goto", "sizeof", "const", "struct", "main", "f", "el", "integer", "elseif", "ifelse", "in", "doubl"} {
		holds(t, s, one(1, s))
	}
}

func TestNames(t *testing.T) {
	for _, s := range []string{"a", "z", "A", "Z", "_", "__", "_1", "a1", "a_", "a_1_b", "_a", "azAZ09_", "x0000000000000", "e", "e5", "E5", "_0x1f", "aA", "Aa", "l1234567890"} {
		holds(t, s, one(1, s))
	}
	for _, c := range []struct{ s, want string }{
		{"a b", "1:a@0 1:b@2 0:@3"}, {"a,b", "1:a@0 4:,@1 1:b@2 0:@3"}, {"a1 1", "1:a1@0 2:1@3 0:@4"}, {"e+5", "1:e@0 4:+@1 2:5@2 0:@3"}, {"-e5", "4:-@0 1:e5@1 0:@3"}, {"a(b)[c]", "1:a@0 4:(@1 1:b@2 4:)@3 4:[@4 1:c@5 4:]@6 0:@7"}, {"a\tb\rc\nd", "1:a@0 1:b@2 1:c@4 1:d@6 0:@7"},
	} {
		holds(t, c.s, fine(c.want))
	}
	for _, s := range []string{"1a", "1Z", "1_", "0x1f", "0b1", "1e5", "1e", "1e+5", "1E5", "1L", "1u", "12345678901a", "9_9", "007a"} {
		holds(t, s, wrong(0))
		holds(t, "a "+s, wrong(2))
	}
	for c, at := range map[string]int{"a.b": 1, "a.5": 1, "a1.5": 2, "a$": 1, "a\\b": 1, "a'b": 1, "a..": 1} {
		holds(t, c, wrong(at))
	}
}

// Names of 40 bytes are names, longer ones aren't: nor are they two names.
func TestLongNames(t *testing.T) {
	for _, unit := range []string{"a", "Z", "_", "a1", "_9z", "continue"} {
		for _, n := range []int{1, 2, 39, 40} {
			s := strings.Repeat(unit, n)[:n]
			holds(t, s, one(1, s))
			holds(t, ";"+s+";", fine("4:;@0 1:"+s+"@1 4:;@"+strconv.Itoa(n+1)+" 0:@"+strconv.Itoa(n+2)))
		}
		for _, n := range []int{41, 42, 79, 80, 81, 1000, 8190} {
			s := strings.Repeat(unit, n)[:n]
			holds(t, s, wrong(0))
			holds(t, ";"+s, wrong(1))
			holds(t, s+" @", wrong(0))
		}
	}
	many := strings.Repeat("a", 40)
	holds(t, many+" "+many, fine("1:"+many+"@0 1:"+many+"@41 0:@81"))
	holds(t, many+" "+many+"a", wrong(41))
	holds(t, many[1:]+"\xff", wrong(39))
	holds(t, many+"\xff", wrong(40))
	holds(t, many+"a\xff", wrong(0))
}
