package lex_test

import (
	"slices"
	"strings"
	"testing"

	"solder/api"
)

// Wrong pieces, each of which goes wrong at its first byte whatever follows behind a blank.
func wrongs() []string {
	return []string{"@", "\x00", "\xff", "\"", "$", ".", ".5", "1.", "1a", "1_", "1e5", "1.5e", "1.5e+", "1.5.2", "4294967296", "00000000001", strings.Repeat("a", 41), "1." + strings.Repeat("0", 39), "/*", "/*/", "/* *", "\v", "\f", "\x7f", "\x80"}
}

// What goes wrong behind good tokens, and two things that go wrong: the first is told, at its first byte.
func TestTheFirstWrong(t *testing.T) {
	for _, first := range wrongs() {
		for _, ahead := range []string{"", " ", "a ", "a;", "int ", "1 ", "1.5\n", "int main() { return 1.5e3; }\n", "//@\n", "/*@*/", "a<<=", "a+b-", "))", "a // 1.\n", strings.Repeat("; ", 2500), strings.Repeat(" ", 5000)} {
			is(t, "P10.1", ahead+first, wrong(len(ahead)))
			for _, second := range wrongs() {
				if strings.HasPrefix(first, "/*") && strings.HasSuffix(second, "*/") {
					continue // the second ends the first
				}
				is(t, "P10.1", ahead+first+" "+second, wrong(len(ahead)))
			}
			is(t, "P10.1", ahead+first+"\nint a;", wrong(len(ahead)))
		}
	}
}

// longTexts are texts of so many bytes, by what is answered of them, if that many are allowed.
func longTexts(n int) map[string]answer {
	pad := func(head, between, tail string) string {
		return head + strings.Repeat(between, (n-len(head)-len(tail))/len(between)) + tail
	}
	all := map[string]answer{
		pad("", " ", ""):              fine(token(0, "", n)),
		pad("", "\n", ""):             fine(token(0, "", n)),
		pad("//", "x", ""):            fine(token(0, "", n)),
		pad("/*", "*", "*/"):          fine(token(0, "", n)),
		pad("a", " ", ""):             fine("1:a@0 " + token(0, "", n)),
		pad("a", " ", "b"):            fine("1:a@0 " + token(1, "b", n-1) + " " + token(0, "", n)),
		pad("", " ", "1.5e3"):         fine(token(3, "1.5e3", n-5) + " " + token(0, "", n)),
		pad("", " ", "4294967295"):    fine(token(2, "4294967295", n-10) + " " + token(0, "", n)),
		pad("", "\t", "<<"):           fine(token(4, "<<", n-2) + " " + token(0, "", n)),
		pad("", "\r", "//"):           fine(token(0, "", n)),
		pad("", " ", "return"):        fine(token(5, "return", n-6) + " " + token(0, "", n)),
		pad("/*", "\xff", "*/x"):      fine(token(1, "x", n-1) + " " + token(0, "", n)),
		pad("", " ", "@"):             wrong(n - 1),
		pad("@", " ", ""):             wrong(0),
		pad("", " ", "/*"):            wrong(n - 2),
		pad("/*", " ", "*"):           wrong(0),
		pad("", " ", "1."):            wrong(n - 2),
		pad("", " ", "1.5e"):          wrong(n - 4),
		pad("", "a", ""):              wrong(0),
		pad("", "0", ""):              wrong(0),
		pad("1.", "0", ""):            wrong(0),
		pad("", ";", ""):              full(2500),
		pad("", ";", "@"):             full(2500),
		pad("@", ";", ""):             wrong(0),
		pad("", ";", "/*"):            full(2500),
		pad(" ", ";", ""):             full(2501),
		pad("/*", ";", ""):            wrong(0),
		pad("a//", "b", "\nc;"):       fine("1:a@0 " + token(1, "c", n-2) + " " + token(4, ";", n-1) + " " + token(0, "", n)),
		pad("a/*", "/", "*/\x7c\x7c"): fine("1:a@0 " + token(4, "\x7c\x7c", n-2) + " " + token(0, "", n)),
	}
	return all
}

// Texts of just as many bytes as may be, and of more: these are refused ahead of all else.
func TestMaxText(t *testing.T) {
	if api.MaxText != 8192 || api.MaxTokens != 2500 || api.MaxName != 40 {
		t.Fatal("other limits than the document's")
	}
	for _, n := range []int{8191, 8192} {
		for s, want := range longTexts(n) {
			if len(s) != n {
				t.Fatalf("the text %s has %d bytes, not %d", short(s), len(s), n)
			}
			holds(t, s, want)
		}
	}
	for _, n := range []int{8193, 8194, 10000, 16384, 1 << 16, 1 << 20} {
		for s := range longTexts(n) {
			if len(s) != n {
				t.Fatalf("the text %s has %d bytes, not %d", short(s), len(s), n)
			}
			holds(t, s, tooLong())
		}
	}
}

// many are n times the same token, each with what stands behind it, and what is told of them.
func many(n, kind int, text, gap string) (string, string) {
	var l []string
	for i := range n {
		l = append(l, token(kind, text, i*len(text+gap)))
	}
	return strings.Repeat(text+gap, n), strings.Join(l, " ")
}

// Just as many tokens as may be, one fewer and more, of each Kind but reals, of which no text has as many: they stand
// among others in the next test.
func TestMaxTokens(t *testing.T) {
	quiet := []string{"", " ", "\n", " \t\r\n", "//", "//a\n", "/**/", " /* ; */ // ;", "\n//;\n/*;;*/"}
	for kind, x := range map[int][2]string{1: {"a", " "}, 2: {"1", "\n"}, 4: {";", ""}, 5: {"if", "\t"}} {
		for _, n := range []int{1, 2499, 2500} {
			s, tokens := many(n, kind, x[0], x[1])
			for _, gap := range quiet {
				holds(t, s+gap, fine(tokens+" "+token(0, "", len(s+gap))))
			}
		}
		for _, n := range []int{2501, 2502, 2700} {
			s, _ := many(n, kind, x[0], x[1])
			for _, gap := range quiet {
				holds(t, s+gap, full(2500*len(x[0]+x[1])))
			}
		}
	}
}

// Behind 2500 tokens: one more of each Kind, something wrong, or both, with and without blanks and remarks between.
func TestBehindMaxTokens(t *testing.T) {
	s := strings.Repeat("; ", 2500)
	for _, gap := range []string{"", " ", "//;\n", "/*;*/", " //\n /**/ "} {
		at := len(s + gap)
		for _, more := range []string{"a", "1", "4294967295", "1.5", "1.5e3", ";", "<<", "&", "if", "continue", strings.Repeat("a", 40), "/", "*", "1.0e999"} {
			holds(t, s+gap+more, full(at))
			holds(t, s+gap+more+" //", full(at))
			holds(t, s+gap+more+" a", full(at))
			for _, bad := range wrongs() {
				is(t, "P10.1", s+gap+more+" "+bad, full(at))
			}
		}
		for _, bad := range wrongs() {
			is(t, "P10.1", s+gap+bad, wrong(at))
			is(t, "P10.1", s+gap+bad+" ;", wrong(at))
			is(t, "P10.1", s[2:]+gap+bad, wrong(at-2))
			is(t, "P10.1", gap+bad+" "+s, wrong(len(gap)))
		}
	}
	// Tokens of all Kinds: what is counted is all of them.
	mixed := strings.Repeat("a 1 1.5<if;", 416)
	tokens := tokensOf(t, mixed)
	if len(tokens) != 416*6+1 {
		t.Fatalf("P10.1: %d tokens", len(tokens))
	}
	stand(t, mixed)
	for n := range 8 {
		more := mixed + strings.Repeat("\n1.5", n)
		if n <= 4 {
			holds(t, more, fine(told(append(slices.Clone(tokens[:416*6]), tail(len(mixed), n)...))))
		} else {
			holds(t, more, full(len(mixed)+4*4+1))
		}
	}
}

// tail are n reals, each behind a byte 10, and the end.
func tail(from, n int) []api.Token {
	var l []api.Token
	for i := range n {
		l = append(l, api.Token{Kind: api.TReal, Text: "1.5", At: from + 4*i + 1})
	}
	return append(l, api.Token{At: from + 4*n})
}
