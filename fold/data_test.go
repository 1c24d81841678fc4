package fold_test

import (
	"fmt"
	"strconv"
	"strings"
	"testing"

	"solder/api"
	"solder/fold"
)

// eight are eight zeros.
const eight = "0000000000000000"

// The bytes of variables of each Type, told by hand.
func TestBytes(t *testing.T) {
	bytesAre(t, "", "")
	bytesAre(t, "int a;", "a "+eight)
	bytesAre(t, "double a;", "a "+eight)
	bytesAre(t, "int *a;", "a "+eight)
	bytesAre(t, "double *a;", "a "+eight)
	bytesAre(t, "static int a;", "static a "+eight)
	bytesAre(t, "int a[3] = {1, -1}; int *p = &a[1];", "a 01000000ffffffff0000000000000000; p 0000000000000000 0:a+4")
	bytesAre(t, "int x = 305419896;", "x 7856341200000000")
	bytesAre(t, "int x = -2;", "x feffffff00000000")
	bytesAre(t, "int x = 2147483648; int y = 4294967295;", "x 0000008000000000; y ffffffff00000000")
	bytesAre(t, "double x = 1.5; double y = -1.5;", "x 000000000000f83f; y 000000000000f8bf")
	bytesAre(t, "double x = 0.1;", "x 9a9999999999b93f")
	bytesAre(t, "double x = 0.0 / 0.0; double y = -(0.0 / 0.0); double z = -0.0;", "x 000000000000f87f; y 000000000000f87f; z 0000000000000080")
	bytesAre(t, "double x = 1.0 / 0.0; double y = -1.0 / 0.0;", "x 000000000000f07f; y 000000000000f0ff")
	bytesAre(t, "int x = 3 * 4 - 1; int y = !0 && 1; int z = (int) 2.5; double w = (double) -2;", "x 0b00000000000000; y 0100000000000000; z 0200000000000000; w 00000000000000c0")
	bytesAre(t, "int *p = 0; double *q = 0; int *r = (0);", "p "+eight+"; q "+eight+"; r "+eight)
	bytesAre(t, "int x; int *p = &x; double y; double *q = &y;", "x "+eight+"; p "+eight+" 0:x+0; y "+eight+"; q "+eight+" 0:y+0")
	bytesAre(t, "int x; int *p = &x + 1; double y; double *q = &y + 1;", "x "+eight+"; p "+eight+" 0:x+4; y "+eight+"; q "+eight+" 0:y+8")
	bytesAre(t, "double b[2]; double *q = b + 2; double *r = &b[1]; static double *s = b;", "b "+eight+eight+"; q "+eight+" 0:b+16; r "+eight+" 0:b+8; static s "+eight+" 0:b+0")
	bytesAre(t, "extern int e; extern double f[7]; int *p = &e; double *q = &f[7];", "p "+eight+" 0:e+0; q "+eight+" 0:f+56")
	bytesAre(t, "static int x = 1; static int *p = &x;", "static x 0100000000000000; static p "+eight+" 0:x+0")
}

// Of arrays: with fewer Inits than elements, with as many, with none; then zeros to the next multiple of 8.
func TestBytesOfArrays(t *testing.T) {
	bytesAre(t, "int a[1];", "a "+eight)
	bytesAre(t, "int a[2];", "a "+eight)
	bytesAre(t, "int a[3];", "a "+eight+eight)
	bytesAre(t, "int a[1] = {7};", "a 0700000000000000")
	bytesAre(t, "int a[2] = {7};", "a 0700000000000000")
	bytesAre(t, "int a[2] = {7, 8};", "a 0700000008000000")
	bytesAre(t, "int a[3] = {7, 8, 9};", "a 07000000080000000900000000000000")
	bytesAre(t, "int a[4] = {7, 8, 9};", "a 07000000080000000900000000000000")
	bytesAre(t, "int a[5] = {7, 8, 9};", "a 07000000080000000900000000000000"+eight)
	bytesAre(t, "double a[1] = {1.5};", "a 000000000000f83f")
	bytesAre(t, "double a[3] = {1.5, 2.0};", "a 000000000000f83f0000000000000040"+eight)
	for n := 1; n <= 40; n++ {
		for _, inits := range []int{0, 1, n / 2, n - 1, n} {
			var words, reals []string
			wordBytes, realBytes := "", ""
			for k := range inits {
				words = append(words, strconv.Itoa(-k-1))
				reals = append(reals, strconv.Itoa(k+1)+".0")
				wordBytes += fmt.Sprintf("%02xffffff", 255-k)
				bits := realOf(float64(k + 1)).Bits
				for range 8 {
					realBytes += fmt.Sprintf("%02x", byte(bits))
					bits >>= 8
				}
			}
			is := func(list []string) string {
				if len(list) == 0 {
					return ";"
				}
				return " = {" + strings.Join(list, ", ") + "};"
			}
			wordBytes += strings.Repeat("00000000", n+n%2-inits)
			realBytes += strings.Repeat(eight, n-inits)
			bytesAre(t, fmt.Sprintf("int a[%d]%s static double b[%d]%s", n, is(words), n, is(reals)), "a "+wordBytes+"; static b "+realBytes)
		}
	}
}

// Which variables: those that a module defines, in its order, whatever stands between.
func TestWhichVariables(t *testing.T) {
	bytesAre(t, "extern int a;", "")
	bytesAre(t, "extern int a[1000]; extern double *b; int f(); int g() { return 1; } static int h() { int a; return 2; } extern int k();", "")
	bytesAre(t, "extern int a; int a = 5; extern int a;", "a 0500000000000000")
	bytesAre(t, "int b = 2; int f() { int c; return c; } static int a = 1; extern int d; double c = 1.5; void g(int x); int d = 4; static int aa;", "b 0200000000000000; static a 0100000000000000; c 000000000000f83f; d 0400000000000000; static aa "+eight)
	// A place may be told ahead of its variable's own bytes.
	bytesAre(t, "extern int a[3]; int *p = &a[2]; int a[3] = {1};", "p "+eight+" 0:a+8; a 0100000000000000"+eight)
	bytesAre(t, "int *p; double *q; int *r = 0; int x; int *s = &x;", "p "+eight+"; q "+eight+"; r "+eight+"; x "+eight+"; s "+eight+" 0:x+0")
}

// The first Init that isn't constant is told, and its place; then there are no bytes.
func TestNoBytes(t *testing.T) {
	noBytes(t, "int x; int y = @x;")
	noBytes(t, "int x = @x;")
	noBytes(t, "int a[2]; int *p = @a + 3;")
	noBytes(t, "int a[2]; int *p = @&a[-1];")
	noBytes(t, "int a[2]; int *p = @&a[3];")
	noBytes(t, "int x; int *p = @&x - 1;")
	noBytes(t, "int y = 1 + @getw();")
	noBytes(t, "int y = @y = 2;")
	noBytes(t, "int a[2]; int y = @a[0];")
	noBytes(t, "int *p; int *q = @p;")
	noBytes(t, "int x; int y = 1 + (2 * @x);")
	noBytes(t, "int a[2] = {1, @getw()};")
	noBytes(t, "int a[3] = {1, @getw(), 2};")
	noBytes(t, "int a[3] = {@a[0], 1 + getw()};")
	noBytes(t, "int a[3] = {1, 2, 3 + @a[0]}; int b = getw();")
	noBytes(t, "int x = 1; double d = 1.5; int y = @x; int z = getw(); double e = d;")
	noBytes(t, "int f() { return getw(); } int y = @f(); int z = y;")
	noBytes(t, "static int y = 1; static int z = @y;")
	noBytes(t, "double d; int y = (int) @d;")
	noBytes(t, "int a[2]; int y = @a == a;")
	noBytes(t, "int a[2]; int y = @a == 0;")
	noBytes(t, "int a[2]; int *p = &@*a;")
	noBytes(t, "int a[2]; int y = @*a;")
	noBytes(t, "int *p = 0; int *q = &@p[0];")
	noBytes(t, "int *p = 0; int *q = @p + 0;")
	noBytes(t, "int x; int *p = &x; int *q = @p;")
	noBytes(t, "int *f(); int *p = @f();")
	// What stands in functions, or is Extern, is no Init.
	bytesAre(t, "extern int x; int f() { int y = x; return y = getw(); } int z = 3;", "z 0300000000000000")
}

// Each Init of an array is asked for, in order.
func TestEachInit(t *testing.T) {
	for n := range 30 {
		for _, second := range []int{n + 1, n + 5, 29} {
			inits := strings.Split(strings.TrimSuffix(strings.Repeat("1.5,", 30), ","), ",")
			inits[n] = "1.5 * @d"
			if second > n && second < 30 {
				inits[second] = "1.5 + d"
			}
			noBytes(t, "double d; int x = 1; static double a[31] = {"+strings.Join(inits, ", ")+"}; double e = d;")
		}
	}
}

// The longest arrays, the longest sum, and as much as a module may have.
func TestLongest(t *testing.T) {
	list := func(n int, with string) string { return strings.TrimSuffix(strings.Repeat(with+",", n), ",") }
	bytesAre(t, "int a[1000] = {-1, -2}; double b[1000];", "a fffffffffeffffff"+strings.Repeat(eight, 499)+"; b "+strings.Repeat(eight, 1000))
	bytesAre(t, "int a[1000] = {"+list(1000, "7")+"}; int *p = &a[1000];", "a "+strings.Repeat("07000000", 1000)+"; p "+eight+" 0:a+4000")
	bytesAre(t, "double a[999] = {"+list(999, "1.5")+"}; double *p = a + 999;", "a "+strings.Repeat("000000000000f83f", 999)+"; p "+eight+" 0:a+7992")
	bytesAre(t, "int x = "+strings.TrimSuffix(strings.Repeat("1+", 1200), "+")+";", "x b004000000000000")
	bytesAre(t, "int a[1000]; int *p = a"+strings.Repeat("+1", 1000)+strings.Repeat("-1", 200)+";", "a "+strings.Repeat("00000000", 1000)+"; p "+eight+" 0:a+3200")
	noBytes(t, "int a[1000]; int *p = @a"+strings.Repeat("+1", 1001)+strings.Repeat("-1", 200)+";")
	bytesAre(t, "int x = "+strings.Repeat("(", 19)+"1"+strings.Repeat(")", 19)+";", "x 0100000000000000")
	bytesAre(t, "int x = "+strings.Repeat("- ~", 19)+"1;", "x 1400000000000000")
	want := ""
	text := ""
	for n := range 600 {
		text += fmt.Sprintf("int a%d;", n)
		want += fmt.Sprintf("a%d %s; ", n, eight)
	}
	bytesAre(t, text, strings.TrimSuffix(want, "; "))
}

// Beside an error there is nothing; beside none the place is 0.
func TestOtherResults(t *testing.T) {
	m := checked(t, "int x = 5; int y = x;")
	if l, at, e := fold.Data(m); len(l) > 0 || at != 19 || e != api.ErrConst {
		t.Errorf("P13.1: Data: %v, %d, %d", l, at, e)
	}
	if c, at, e := fold.Eval(m, m.Decls[1].Inits[0]); c != (fold.Const{}) || at != 19 || e != api.ErrConst {
		t.Errorf("P13.1: Eval: %v, %d, %d", c, at, e)
	}
	if c, at, e := fold.Eval(m, m.Decls[0].Inits[0]); c != wordOf(5) || at != 0 || e != api.OK {
		t.Errorf("P13.1: Eval: %v, %d, %d", c, at, e)
	}
	if l, at, e := fold.Data(api.Module{}); len(l) != 0 || at != 0 || e != api.OK {
		t.Errorf("P13.1: Data of a module without Decls: %v, %d, %d", l, at, e)
	}
}
