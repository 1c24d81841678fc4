package parse_test

import (
	"strings"
	"testing"

	"solder/api"
	"solder/helps"
	"solder/lex"
)

// decls are declarations that have each form of each row.
func decls() []string {
	return []string{
		"static int a[3] = {1, -2, 3};",
		"extern double d;",
		"int *p = &a[1];",
		"double r = 1.5e3;",
		"int f(double x, int *q);",
		"void g(void x) { }",
		"static double *h() { return; }",
		`int main(void) {
	int i = 0;
	double y[2];
	int *z;
	double *w[7] = y;
	while (i < 3) {
		if (a[i] == 1 && !i) continue; // on
		else break;
		if (1) if (2) ; else { ; }
	}
	y[0] = (double) i * 2.5 - -d;
	(int *) (a)[1][2];
	f(y[0], a + 1, g());
	/* alone */ ;
	return f(~a % 4294967295, *p | 3 ^ 4 & 5) << 1 >> 2 <= 3 != 4 || 5 / 6 > 7 >= 8;
}`,
	}
}

// whole is a text of them.
func whole() string {
	return strings.Join(decls(), "\n")
}

// tokensOf are those of a text, without the end.
func tokensOf(t *testing.T, text string) []api.Token {
	t.Helper()
	l, _, e := lex.Lex(text)
	if e != api.OK {
		t.Fatalf("%s has tokens that are none", helps.Short(text))
	}
	return l[:len(l)-1]
}

// others are some of each kind of tokens.
func others() []string {
	return []string{"a", "1", "0", "1.5", "int", "double", "void", "static", "extern", "if", "else", "while", "return", "break", "continue", "+", "-", "*", "&", "&&", "!", "~", "<", "==", "=", "(", ")", "{", "}", "[", "]", ";", ",", "/", "%", "|", "||", "^", "<<"}
}

func TestWhole(t *testing.T) {
	right(t, whole())
	if l := tokensOf(t, whole()); len(l) < 200 {
		t.Errorf("the whole text has %d tokens", len(l))
	}
}

// The text's end at each place: it is told at the text's length, where no declaration begins.
func TestEnds(t *testing.T) {
	head := ""
	for _, d := range decls() {
		for _, gap := range []string{"", " ", "\n// end", "/* int a; */"} {
			right(t, head+gap)
			for _, x := range tokensOf(t, d)[1:] {
				refused(t, head+d[:x.At]+gap, "", api.ErrSyntax)
			}
		}
		head += d + "\n"
	}
}

// Words that declarations alone have, at each place: the first one is told where none begins, else the second one.
func TestWrongAtEachPlace(t *testing.T) {
	head := ""
	for n, d := range decls() {
		rest := strings.Join(decls()[n+1:], " ")
		refused(t, head+"static ", "extern "+d+rest, api.ErrSyntax)
		refused(t, head, "else "+d+rest, api.ErrSyntax)
		refused(t, head, "} "+d+rest, api.ErrSyntax)
		for _, x := range tokensOf(t, d)[1:] {
			refused(t, head+d[:x.At]+" ", "static static "+d[x.At:]+rest, api.ErrSyntax)
			refused(t, head+d[:x.At]+" ", "extern "+d[x.At:]+rest, api.ErrSyntax)
			refused(t, head+d[:x.At]+" ", "extern", api.ErrSyntax)
		}
		head += d + "\n"
	}
}

// Each token left out, told twice, changed with the next one, with another one ahead of it and in its place.
func TestChangedAtEachPlace(t *testing.T) {
	seen := map[api.Errno]int{}
	for _, d := range decls() {
		l := tokensOf(t, d)
		for n, x := range l {
			head, tail := "int b; "+d[:x.At]+" ", " "+d[x.At+len(x.Text):]
			seen[asModel(t, head+tail)]++
			seen[asModel(t, head+x.Text+" "+x.Text+tail)]++
			if n+1 < len(l) {
				y := l[n+1]
				seen[asModel(t, head+y.Text+" "+x.Text+" "+d[y.At+len(y.Text):])]++
			}
			for _, s := range others() {
				seen[asModel(t, head+s+tail)]++
				seen[asModel(t, head+s+" "+x.Text+tail)]++
			}
		}
	}
	if seen[api.OK] < 1000 || seen[api.ErrSyntax] < 5000 || seen[api.ErrRange] == 0 {
		t.Errorf("the changed texts are answered with the errors %v", seen)
	}
}

// wrongs are texts in which something is wrong, where, and how; nothing behind them makes them right.
var wrongs = []struct {
	text string
	at   int
	e    api.Errno
}{
	{"int a b", 6, api.ErrSyntax}, {"int a[0", 6, api.ErrRange}, {"int a[1001", 6, api.ErrRange}, {"int f(int)", 9, api.ErrSyntax}, {"int a = )", 8, api.ErrSyntax}, {"static static", 7, api.ErrSyntax},
	{"int a = f(1,2,3,4,5,6,7,8,9", 26, api.ErrFull}, {"int f(int a,int a,int a,int a,int a,int a,int a,int a,;", 54, api.ErrFull},
	{"int a = ---------------------------------------1", 47, api.ErrDeep}, {"void f() { {{{{{{{{{{{{{{{{{{{{{{{{{{{{{{{{{{{{{{{{ if", 52, api.ErrDeep}, {"void f() { int a[0", 17, api.ErrRange}, {"else", 0, api.ErrSyntax}, {"void f() { else", 11, api.ErrSyntax},
}

// Two things that go wrong: the first is told.
func TestTwoWrong(t *testing.T) {
	for _, first := range wrongs {
		want := wrong(first.at, first.e)
		holds(t, first.text, want)
		for _, second := range wrongs {
			holds(t, first.text+" "+second.text, want)
			holds(t, first.text+"; }\n"+second.text, want)
			holds(t, first.text+"]; "+second.text, want)
			holds(t, "int z; int y() { return 1; }\n"+first.text+") "+second.text, wrong(29+first.at, first.e))
		}
	}
}

// What is no token, or one too many, or too long a text, is told ahead of all else, wherever it stands.
func TestLexFirst(t *testing.T) {
	for _, x := range wrongs {
		for _, s := range []string{"@", "1.", "1a", "4294967296", "/*", "\"", "$0", strings.Repeat("a", 41), "00000000000", "\x00"} {
			for _, between := range []string{" ", "; ", "\n} ", "]; int b; ", " // ok\n"} {
				refused(t, x.text+between, s, api.ErrLex)
				refused(t, x.text+between, s+" ; int a[0];", api.ErrLex)
				refused(t, "int a;"+between, s, api.ErrLex)
			}
		}
		many := x.text + strings.Repeat(" ;", 2500-len(tokensOf(t, x.text)))
		holds(t, many, wrong(x.at, x.e))
		refused(t, many+" ", ";", api.ErrFull)
		refused(t, many+" ", "int a", api.ErrFull)
		refused(t, many+" ", "@", api.ErrLex)
		long := x.text + strings.Repeat(" ", 8192-len(x.text))
		holds(t, long, wrong(x.at, x.e))
		holds(t, long+" ", wrong(0, api.ErrLong))
		holds(t, long+"@", wrong(0, api.ErrLong))
		holds(t, "@"+long, wrong(0, api.ErrLong))
	}
	holds(t, strings.Repeat(" ", 8192), fine())
	holds(t, strings.Repeat(" ", 8193), wrong(0, api.ErrLong))
	refused(t, strings.Repeat("; ", 2500), ";", api.ErrFull)
	right(t, "int a;"+strings.Repeat("int a ;", 832)+"/**/")
	refused(t, strings.Repeat("int a;", 833)+"int ", "a;", api.ErrFull)
}
