package helps

import (
	"strings"

	"solder/api"
	"solder/lex"
)

// Whole is a module's text that has each kind of everything.
const Whole = `static int a[3] = {1, -2, 3};
extern double d;
int *p = &a[1];
double r = 1.5e3;
double s[4];
double *none = 0;
int f(double x, int *q, double *n);
void g(void) { putw(getw()); putd(r); }
static double *h() { return 0; }
int main(void) {
	int i = 0;
	double y[2];
	int *z;
	double *w = y;
	while (i < 3) {
		int j = a[i];
		if (j == 1 && !i) continue; // on
		else break;
		if (1) if (2) ; else { int j = i; ; }
	}
	y[0] = (double) i * 2.5 - -d;
	z = a;
	*(z + 1) = f(y[0], a + 1, 0);
	if (z == 0 || 0 != w) g();
	return f(*h(), z = p, w = s) << 1 >> 2 <= 3 != 4 || 5 / 6 > 7 >= ~8;
}
int f(double left, int *q, double *n) { double x = left; { int x = *q; q = 0; } return (int) x ^ a[0] & 5 | 1; }`

// Filled is a text with as many tokens as there may be, all but some of them in the middle: a piece, again and again. A
// mark, an @, is no token.
func Filled(head, piece, tail string) string {
	more := (api.MaxTokens - tokens(head) - tokens(tail)) / tokens(piece)
	return head + strings.Repeat(piece, more) + tail
}

// tokens is how many a text has, the end not counted.
func tokens(text string) int {
	l, _, _ := lex.Lex(strings.Replace(text, "@", "", 1))
	return len(l) - 1
}
