package parse_test

import (
	"math/rand"
	"slices"
	"strings"
	"testing"

	"solder/api"
)

// Hand-told rows of one thing in itself: of most the text is right, of one more it is too deep, at the place where that
// begins.
func TestDeepRows(t *testing.T) {
	for _, c := range []struct {
		head, each, leaf, tail string
		most                   int
		at                     int // of what is too deep, behind the head and all but the last one
	}{
		{"int a = ", "-", "1", ";", 38, 1},
		{"int a = ", "~", "b", ";", 38, 1},
		{"int a = ", "& ", "b", ";", 38, 2},
		{"int a = ", "(int) ", "1", ";", 38, 6},
		{"int a = ", "(", "1", strings.Repeat(")", 19) + ";", 19, 1},
		{"int a = ", "b[", "1", strings.Repeat("]", 19) + ";", 19, 2},
		{"int a = ", "f(", "1", strings.Repeat(")", 19) + ";", 19, 2},
		{"int a = ", "f(1, 2, ", "3", strings.Repeat(")", 19) + ";", 19, 2},
		{"int a = ", "b = ", "1", ";", 38, 4},
		{"int a[1] = {", "-", "1", "};", 38, 1},
		{"int a[1] = {1, ", "-", "1", ", 1};", 38, 1},
		{"int a = 1 + ", "-", "1", " + 1;", 38, 1},
		{"int a = 1 - (2 * ", "-", "1", ");", 36, 1},
		{"int a = f(1, ", "-", "1", ", 2);", 36, 1},
		{"int a = b[", "-", "1", "];", 36, 1},
		{"int a = b = ", "-", "1", ";", 37, 1},
		{"int a = -(int) ", "-", "1", ";", 36, 1},
		{bodyHead + "return ", "-", "1", ";}", 37, 1},
		{bodyHead, "-", "1", ";}", 37, 1},
		{bodyHead + "int a = ", "-", "1", ";}", 37, 1},
		{bodyHead + "if (", "-", "1", ") ;}", 37, 1},
		{bodyHead + "while (", "-", "1", ") ;}", 37, 1},
		{bodyHead + "{", "-", "1", ";}}", 36, 1},
		{bodyHead + "if (1) ; else ", "-", "1", ";}", 36, 1},
		{bodyHead + "while (1) if (1) return ", "-", "1", ";}", 35, 1},
		{bodyHead, "if (1) ", ";", "}", 38, 4},
		{bodyHead, "while (1) ", ";", "}", 38, 7},
		{bodyHead, "if (1) ; else ", ";", "}", 38, 4},
		{bodyHead, "{", ";", strings.Repeat("}", 39) + "}", 39, 1},
		{bodyHead, "{ ; ", "return;", strings.Repeat("}", 39) + "}", 39, 2},
		{bodyHead, "while (1) ", "{ break; }", "}", 38, 7},
		{bodyHead, "if (1) ", "{ int a; }", "}", 38, 4},
		{bodyHead, "if (1) ", "{ int a[5]; }", "}", 38, 4},
		{bodyHead, "if (1) ", "{{}}", "}", 38, 4},
		{bodyHead + "if (1) ; else { ; ", "while (2) ", "continue;", "}}", 36, 7},
	} {
		// The texts' brackets that end are those of most: what is too deep stands ahead of all of them.
		right(t, c.head+strings.Repeat(c.each, c.most)+c.leaf+c.tail)
		ahead := c.head + strings.Repeat(c.each, c.most) + c.each[:c.at]
		for _, behind := range []string{c.leaf + c.tail, c.leaf, "", ")", "]", ",", "=", "if", "static", "1", "else", "}", "(", "-", ";"} {
			if isEnd(c.each, behind) {
				continue
			}
			refused(t, ahead, behind, api.ErrDeep)
			if behind != "" {
				refused(t, "int a; int g() { return 1; } "+ahead, behind+" int a[0];", api.ErrDeep)
			}
		}
	}
}

// isEnd tells whether what stands behind may end what each begins, or be something else than what is too deep.
func isEnd(each, behind string) bool {
	first, _, _ := strings.Cut(behind, " ")
	switch {
	case strings.HasPrefix(each, "f("):
		return first == ")"
	case each == "(":
		return slices.Contains([]string{"if", "static", "else"}, first)
	case strings.HasPrefix(each, "{"):
		return first == "}"
	}
	return false
}

// The function's block is no statement, and a statement's end isn't one deeper.
func TestJustDeep(t *testing.T) {
	blocks := bodyHead + strings.Repeat("{", 40)
	ends := strings.Repeat("}", 41)
	right(t, blocks+ends)
	right(t, blocks[:len(blocks)-1]+"{} ; {} return; break; continue; int a; int b[2]; {}"+ends[1:])
	refused(t, blocks, "{}"+ends, api.ErrDeep)
	refused(t, blocks, ";"+ends, api.ErrDeep)
	refused(t, blocks, "", api.ErrDeep)
	// Where a block goes on, a statement alone would begin, so an expr and a unary too, whatever stands there.
	for deep := range 40 {
		e := api.ErrSyntax
		if deep >= 38 {
			e = api.ErrDeep
		}
		refused(t, blocks[:len(bodyHead)+deep], "", e)
		refused(t, blocks[:len(bodyHead)+deep]+"; ", ")", e)
		refused(t, blocks[:len(bodyHead)+deep]+"{} ", "else ;", e)
	}
	for _, c := range []struct{ ahead, behind string }{
		{"return ", "1;"}, {"return ", ")"}, {"return ", "if"}, {"return ", "}"}, {"return ", ""}, {"return ", "= 1;"}, {"return ", "int"},
		{"", "1;"}, {"", "a;"}, {"", "f();"}, {"", "-1;"}, {"", ")"}, {"", "]"}, {"", "= 1;"}, {"", "(int) 1;"}, {"", "else"}, {"", "static"}, {"", "extern int a;"},
		{"int a = ", "1;"}, {"int a = ", ";"}, {"int a = ", "{1};"}, {"int a = ", ""}, {"int a[2] = ", "1;"},
		{"if (", "1) ;"}, {"if (", ") ;"}, {"if (", "int) ;"}, {"if (", ""}, {"while (", "1) ;"}, {"while (", ";"},
	} {
		refused(t, blocks[:len(blocks)-1]+c.ahead, c.behind+ends, api.ErrDeep)
	}
	for _, c := range []struct{ ahead, behind string }{
		{"if ", "1"}, {"if ", ""}, {"while ", "{"}, {"break ", "1;"}, {"int ", "1;"}, {"int a[", "];"}, {"int a ", "}"}, {"int a[1] ", "1"},
	} {
		refused(t, blocks[:len(blocks)-1]+c.ahead, c.behind+ends, api.ErrSyntax)
	}
	refused(t, blocks[:len(blocks)-1]+"return", "", api.ErrDeep)
	refused(t, blocks[:len(blocks)-1]+"int a[", "0];"+ends, api.ErrRange)
	refused(t, blocks[:len(blocks)-1]+"int a[", "1001];"+ends, api.ErrRange)
}

// Just as deep as may be stand also: calls and indices of nothing deeper, casts' types, operators.
func TestJustDeepExprs(t *testing.T) {
	signs := "int a = " + strings.Repeat("-", 38)
	for _, s := range []string{"1;", "1.5;", "b;", "f();", "1 + 2 * 3;", "b == c && d;", "1;"} {
		right(t, signs+s)
	}
	for _, c := range [][2]string{{"f(", "1);"}, {"f(", ";"}, {"f(", ""}, {"f(", "if"}, {"b[", "1];"}, {"b[", "];"}, {"b[", ""}, {"(", "1);"}, {"(", ");"}, {"(", ";"}, {"(", ""}, {"-", "1;"}, {"-", ";"}, {"-", "if"}, {"(int)", "1;"}, {"(int)", ";"}, {"(int)", ""}, {"f()[", "1];"}, {"f()[", ";"}} {
		refused(t, signs+c[0], c[1], api.ErrDeep)
	}
	for _, c := range [][2]string{{"(", "if"}, {"(", "static) 1;"}, {"(", "else"}, {"(int", ";"}, {"(int ", "1"}, {"(void", "*) 1;"}, {"f() ", "1;"}, {"", ")"}, {"", ";"}, {"", "if"}, {"", "= 1;"}, {"1 + ", ";"}, {"1", ")"}, {"f()", "("}, {"", "+ 1;"}} {
		refused(t, signs+c[0], c[1], api.ErrSyntax)
	}
	// An operand of an operator is no deeper than the other one; what is assigned is one deeper.
	right(t, signs+"1 + "+strings.Repeat("-", 38)+"1 * "+strings.Repeat("~", 38)+"1;")
	right(t, signs+"1 = "+strings.Repeat("-", 37)+"1;")
	refused(t, signs+"1 = "+strings.Repeat("-", 38), "1;", api.ErrDeep)
	right(t, "int a = 1"+strings.Repeat(" + 1", 1000)+";")
	right(t, "int a = b"+strings.Repeat("[1]", 800)+";")
	right(t, bodyHead+strings.Repeat("{} ; ", 700)+"}")
	right(t, bodyHead+strings.Repeat("if (1) ; else ", 38)+";}")
}

// wrap is something with a hole in it, one deeper: a stmt, an expr or a unary; and how much deeper than the hole is what
// stands ahead of it and behind it: -1, if that is nothing.
type wrap struct {
	head, tail, hole string
	ahead, behind    int
}

// wraps are what may stand in a hole.
func wraps(hole string) []wrap {
	switch hole {
	case "stmt":
		return []wrap{
			{"{ ", " }", "stmt", -1, -1}, {"{ ; int a; ", " ; }", "stmt", 0, 0},
			{"if (1) ", "", "stmt", 1, -1}, {"if (1) { } else ", "", "stmt", 1, -1}, {"while (a == 1) ", "", "stmt", 1, -1},
			{"if (", ") ;", "expr", -1, 0}, {"if (", ") ; else return;", "expr", -1, 0}, {"while (", ") { }", "expr", -1, 0},
			{"return ", ";", "expr", -1, -1}, {"", ";", "expr", -1, -1}, {"int x = ", ";", "expr", -1, -1}, {"double *x[2] = ", ";", "expr", -1, -1},
		}
	case "expr":
		return []wrap{
			{"", "", "unary", -1, -1}, {"1 + ", "", "unary", 0, -1}, {"", " * 2", "unary", -1, 0}, {"a < ", " == b[3]", "unary", 0, 2},
			{"", " = 1", "unary", -1, 1}, {"a = ", "", "expr", 0, -1}, {"a + -1 = ", "", "expr", 1, -1},
		}
	}
	return []wrap{
		{"- ", "", "unary", -1, -1}, {"! ", "", "unary", -1, -1}, {"& ", "", "unary", -1, -1}, {"* ", "", "unary", -1, -1},
		{"(int) ", "", "unary", -1, -1}, {"(double *)", "", "unary", -1, -1}, {"(", ")", "expr", -1, -1}, {"(", ")[1]", "expr", -1, 1},
		{"a[", "]", "expr", -1, -1}, {"a[1][", "][2]", "expr", 1, 1}, {"f(", ")", "expr", -1, -1}, {"f(1, 2, ", ", 3)", "expr", 1, 1},
	}
}

// nested is a text with a hole so deep, in which nothing ahead of that is too deep; behind it only if it is told so.
func nested(source *rand.Rand, deep int, behindToo bool) (head, tail, hole, last string) {
	head, tail, hole = "int a; int g = ", ";", "expr"
	if source.Intn(2) == 0 {
		head, tail, hole = "int f(int x) { int y; ", " }", "stmt"
	}
	// Few statements would be deep, if each way were taken as often.
	stmts := source.Intn(deep * 3 / 2)
	for at := 2; at <= deep; at++ {
		l := slices.DeleteFunc(wraps(hole), func(w wrap) bool {
			early := hole == "stmt" && w.hole != "stmt" && at <= stmts
			return early || w.ahead >= 0 && at+w.ahead > 40 || behindToo && w.behind >= 0 && at+w.behind > 40
		})
		w := l[source.Intn(len(l))]
		head, tail, hole, last = head+w.head, w.tail+tail, w.hole, w.head
	}
	return head, tail, hole, last
}

// Statements, expressions and unaries in each other, mixed: just MaxDeep, and one more, whatever stands there.
func TestDeepMixed(t *testing.T) {
	source := rand.New(rand.NewSource(20))
	leaves := map[string]string{"stmt": ";", "expr": "1", "unary": "1"}
	seen := map[string]int{}
	for n := range 1000 {
		deep := 39 + n%2
		head, tail, hole, _ := nested(source, deep, true)
		if deep == 40 && hole == "expr" {
			refused(t, head, leaves[hole]+tail, api.ErrDeep)
		} else {
			right(t, head+leaves[hole]+tail)
		}
		head, tail, hole, last := nested(source, 41, false)
		seen[hole]++
		others := []string{leaves[hole], ")", ";", "}", "", "if", "int", "(", "1.5", "{", "return;", "else", "-", "=", ",", "a[", "]", "static"}
		for _, s := range []string{leaves[hole], others[source.Intn(len(others))], others[source.Intn(len(others))]} {
			if mayStand(hole, last, s) {
				asModel(t, head+s+tail)
				continue
			}
			refused(t, head, s, api.ErrDeep)
			if s != "" {
				refused(t, head, s+" "+tail, api.ErrDeep)
			}
		}
	}
	for _, what := range []string{"stmt", "expr", "unary"} {
		if seen[what] < 100 {
			t.Errorf("of the test's texts %d alone have what is too deep in the place of a %s", seen[what], what)
		}
	}
}

// mayStand tells whether something else than what is too deep may begin with s where that would begin. Nothing that
// stands there is told by what follows it: so it is no end of what a text goes on with.
func mayStand(hole, last, s string) bool {
	switch {
	case hole == "stmt" && strings.HasPrefix(last, "{"):
		return s == "}" || s == ""
	case hole == "stmt":
		return false
	case last == "return ":
		return s == ";" || s == ""
	case last == "f(":
		return s == ")" || s == ""
	case last == "":
		return s != "1" // of a statement alone: each other statement, and nothing
	case last == "(":
		return slices.Contains([]string{"if", "int", "return;", "else", "static"}, s)
	}
	return false
}

// What is too deep is told ahead of all that is wrong in it, and behind all that is wrong ahead of it.
func TestDeepAndWrong(t *testing.T) {
	deep := strings.Repeat("-", 39)
	for _, inner := range []string{"1;", "f(1,,2);", "if;", "b[0;", "(int 1;", strings.Repeat("-", 50) + "1;", strings.Repeat("(", 50), "1; int c[0];", "1; } } }", "f(1,2,3,4,5,6,7,8,9);"} {
		refused(t, "int a = "+deep, inner, api.ErrDeep)
		refused(t, bodyHead+strings.Repeat("{", 40), inner, api.ErrDeep)
		refused(t, "int b[", "0]; int a = "+deep+inner, api.ErrRange)
		refused(t, "int f(int a,", "); int a = "+deep+inner, api.ErrSyntax)
		refused(t, "int c = f(1,2,3,4,5,6,7,8,", "9"+deep+inner, api.ErrFull)
	}
	refused(t, "int a = f("+deep[3:]+"1, "+deep[2:], "1);", api.ErrDeep)
	refused(t, "int f(", "-(1));", api.ErrSyntax)
	refused(t, "int f(int a", "[1]);", api.ErrSyntax)
}
