package parse_test

import (
	"testing"

	"solder/api"
)

// Where statements stand: behind what, ahead of what.
const (
	bodyHead = "void f() { "
	bodyTail = " }"
)

// bodyIs says whether statements, told as if their text began at 0, are what Parse answers of it in a function's block.
func bodyIs(t *testing.T, text string, want ...api.Stmt) {
	t.Helper()
	body := block(len(bodyHead)-2, movedStmts(want, by(len(bodyHead)))...)
	holds(t, bodyHead+text+bodyTail, fine(api.Decl{Func: true, Name: "f", Has: true, Body: body}))
}

// bodyWrong says whether what stands behind the first part of a function's block doesn't go on with it.
func bodyWrong(t *testing.T, ahead, behind string) {
	t.Helper()
	refused(t, bodyHead+ahead, behind+bodyTail, api.ErrSyntax)
	refused(t, bodyHead+"; { if (1) ; else { while (1) {"+ahead, behind+bodyTail, api.ErrSyntax)
}

// Each form of a statement.
func TestStmts(t *testing.T) {
	bodyIs(t, "")
	bodyIs(t, "{}", block(0))
	bodyIs(t, "{ }", block(0))
	bodyIs(t, "{;}", block(0, alone(1)))
	bodyIs(t, ";", alone(0))
	bodyIs(t, "; ;", alone(0), alone(2))
	bodyIs(t, "1;", alone(0, num(1, 0)))
	bodyIs(t, "f(1);", alone(0, call("f", 0, num(1, 2))))
	bodyIs(t, "a = 1;", alone(0, assign(name("a", 0), num(1, 4))))
	bodyIs(t, "a == 1;", alone(0, binary("==", name("a", 0), num(1, 5))))
	bodyIs(t, "*a = b;", alone(0, assign(unary("*", 0, name("a", 1)), name("b", 5))))
	bodyIs(t, "(a);", alone(0, name("a", 1)))
	bodyIs(t, "(int) a;", alone(0, cast(1, 0, name("a", 6))))
	bodyIs(t, "break;", leave(0))
	bodyIs(t, "continue;", again(0))
	bodyIs(t, "return;", back(0))
	bodyIs(t, "return 1;", back(0, num(1, 7)))
	bodyIs(t, "return(a);", back(0, name("a", 7)))
	bodyIs(t, "return a = b;", back(0, assign(name("a", 7), name("b", 11))))
	bodyIs(t, "return -1;", back(0, unary("-", 7, num(1, 8))))
	bodyIs(t, "while (1) ;", loop(0, num(1, 7), alone(10)))
	bodyIs(t, "while (a) { }", loop(0, name("a", 7), block(10)))
	bodyIs(t, "while (a = b) a;", loop(0, assign(name("a", 7), name("b", 11)), alone(14, name("a", 14))))
	bodyIs(t, "if (1) ;", choice(0, num(1, 4), alone(7)))
	bodyIs(t, "if (1) ; else ;", choice(0, num(1, 4), alone(7), alone(14)))
	bodyIs(t, "if (a) { } else { }", choice(0, name("a", 4), block(7), block(16)))
	bodyIs(t, "if ((a)) return; else break;", choice(0, name("a", 5), back(9), leave(22)))
	bodyIs(t, "if (a) int b; else double c;", choice(0, name("a", 4), local(7, 1, "b", 0), local(19, 2, "c", 0)))
	bodyIs(t, "int a; a; int b; ;", local(0, 1, "a", 0), alone(7, name("a", 7)), local(10, 1, "b", 0), alone(17))
}

// A declaration within a function, of each type, with a Len, with an init and with both.
func TestLocals(t *testing.T) {
	for _, x := range types {
		at := len(x.text)
		bodyIs(t, x.text+"a;", local(0, x.is, "a", 0))
		bodyIs(t, x.text+"a[7];", local(0, x.is, "a", 7))
		bodyIs(t, x.text+"a = 1;", local(0, x.is, "a", 0, num(1, at+4)))
		bodyIs(t, x.text+"a[7]=b;", local(0, x.is, "a", 7, name("b", at+5)))
		bodyIs(t, x.text+"a=b=c;", local(0, x.is, "a", 0, assign(name("b", at+2), name("c", at+4))))
	}
	for _, c := range [][2]string{
		{"int ", ";"}, {"int ", "}"}, {"int ", "1;"}, {"int ", "int a;"}, {"int ", "if"}, {"int *", "*a;"}, {"void ", "*a;"}, {"int ", "= 1;"}, {"int ", "(a);"}, {"int ", "[1];"}, {"int ", "{}"},
		{"int a ", "}"}, {"int a ", "b;"}, {"int a", ", b;"}, {"int a", "();"}, {"int a", "(int x);"}, {"int a", "{}"}, {"int a ", "+ 1;"}, {"int a ", "1;"}, {"int a ", "else"}, {"int a", ")"},
		{"int a[", "];"}, {"int a[", "b];"}, {"int a[1", ";"}, {"int a[1] ", "b;"}, {"int a[1]", "[2];"}, {"int a[1] ", "}"}, {"int a[1 ", "+ 1];"},
		{"int a = ", ";"}, {"int a = ", "}"}, {"int a = ", "{1};"}, {"int a = 1", ", 2;"}, {"int a = 1 ", "}"}, {"int a = 1 ", "2;"}, {"int a = 1 ", "int b;"}, {"int a = ", "int;"}, {"int a[1] = ", "{1};"}, {"int a[1] = ", ";"}, {"int a[1] = 1", ", 2;"},
		{"", "static int a;"}, {"", "extern int a;"}, {"", "static"},
	} {
		bodyWrong(t, c[0], c[1])
	}
}

// A block in a block: each statement stands in its own.
func TestBlocks(t *testing.T) {
	bodyIs(t, "{{}}", block(0, block(1)))
	bodyIs(t, "{}{}", block(0), block(2))
	bodyIs(t, "{ a; { b; } c; } d;", block(0, alone(2, name("a", 2)), block(5, alone(7, name("b", 7))), alone(12, name("c", 12))), alone(17, name("d", 17)))
	bodyIs(t, "{{};{;}}", block(0, block(1), alone(3), block(4, alone(5))))
	bodyIs(t, "{ return; ; return; }", block(0, back(2), alone(10), back(12)))
	refused(t, bodyHead, "", api.ErrSyntax)
	refused(t, bodyHead+"{", "", api.ErrSyntax)
	refused(t, bodyHead+"{}", "", api.ErrSyntax)
	refused(t, bodyHead+"{}}", "}", api.ErrSyntax)
	refused(t, bodyHead+"{ int a; ", "", api.ErrSyntax)
}

// An else belongs to the nearest if.
func TestElse(t *testing.T) {
	bodyIs(t, "if (1) if (2) ; else ;", choice(0, num(1, 4), choice(7, num(2, 11), alone(14), alone(21))))
	bodyIs(t, "if (1) if (2) ; else ; else ;", choice(0, num(1, 4), choice(7, num(2, 11), alone(14), alone(21)), alone(28)))
	bodyIs(t, "if (1) { if (2) ; } else ;", choice(0, num(1, 4), block(7, choice(9, num(2, 13), alone(16))), alone(25)))
	bodyIs(t, "if (1) ; else if (2) ; else ;", choice(0, num(1, 4), alone(7), choice(14, num(2, 18), alone(21), alone(28))))
	bodyIs(t, "if (1) ; else if (2) ;", choice(0, num(1, 4), alone(7), choice(14, num(2, 18), alone(21))))
	bodyIs(t, "if (1) while (2) if (3) ; else ;", choice(0, num(1, 4), loop(7, num(2, 14), choice(17, num(3, 21), alone(24), alone(31)))))
	bodyIs(t, "if (1) while (2) if (3) ; else ; else ;", choice(0, num(1, 4), loop(7, num(2, 14), choice(17, num(3, 21), alone(24), alone(31))), alone(38)))
	bodyIs(t, "while (1) if (2) ; else ;", loop(0, num(1, 7), choice(10, num(2, 14), alone(17), alone(24))))
	bodyIs(t, "if (1) ; if (2) ; else ;", choice(0, num(1, 4), alone(7)), choice(9, num(2, 13), alone(16), alone(23)))
	bodyIs(t, "if (1) if (2) if (3) ; else a; else b;",
		choice(0, num(1, 4), choice(7, num(2, 11), choice(14, num(3, 18), alone(21), alone(28, name("a", 28))), alone(36, name("b", 36)))))
	bodyWrong(t, "", "else ;")
	bodyWrong(t, "; ", "else ;")
	bodyWrong(t, "if (1) ; ; ", "else ;")
	bodyWrong(t, "if (1) ; else ; ", "else ;")
	bodyWrong(t, "if (1) { } else { } ", "else ;")
	bodyWrong(t, "if (1) if (2) ; else ; else ; ", "else ;")
	bodyWrong(t, "while (1) ; ", "else ;")
	bodyWrong(t, "if (1) ", "else ;")
	bodyWrong(t, "if (1) { ", "else ;")
	bodyWrong(t, "{ if (1) ; } ", "else ;")
	bodyWrong(t, "if (1) while (1) ; else ; ", "else ;")
}

// What doesn't go on with a statement, at each of its places.
func TestWrongStmts(t *testing.T) {
	for _, c := range [][2]string{
		{"", ")"}, {"", "]"}, {"", ","}, {"", "= 1;"}, {"", "+ 1;"}, {"", "/ 1;"}, {"", "=="}, {"", "["}, {"", "&& a;"}, {"", "< 1"}, {"1 ", "2;"}, {"1 ", "}"}, {"1", ")"}, {"1", ", 2;"}, {"1", "]"}, {"1 ", "int a;"}, {"1 ", "{"}, {"a ", "if"}, {"a ", "b;"}, {"f(1) ", "{}"}, {"(1", ";"}, {"(1)", ")"}, {"(", ";"}, {"(", ")"},
		{"if ", "1;"}, {"if ", "{}"}, {"if ", ";"}, {"if ", "if (1) ;"}, {"if ", "a"}, {"if (", ") ;"}, {"if (", ";"}, {"if (", "int) ;"}, {"if (", "int a) ;"}, {"if (", "{}"}, {"if (1", ";"}, {"if (1 ", "2) ;"}, {"if (1", ", 2) ;"}, {"if (1", "}"}, {"if (1", "]"}, {"if (1) ", "}"}, {"if (1)", ")"}, {"if (1) ", "= 1;"}, {"if (1) 1 ", "else ;"}, {"if (1) ; else ", "}"}, {"if (1) ; else ", ")"}, {"if (1) ; else ", "else"}, {"if (1) ; else ", "static"}, {"if (1) ", "extern"}, {"if (", "return) ;"},
		{"while ", "1;"}, {"while ", "{}"}, {"while ", ";"}, {"while (", ") ;"}, {"while (", "; 1; ) ;"}, {"while (1", ";"}, {"while (1 ", "2) ;"}, {"while (1", ", 2) ;"}, {"while (1) ", "}"}, {"while (1) ", ")"}, {"while (1) ", "else ;"}, {"while (1) ; ", "else ;"},
		{"return ", "}"}, {"return ", ")"}, {"return ", "int;"}, {"return ", "if"}, {"return ", "return;"}, {"return ", "{}"}, {"return ", ", 1;"}, {"return 1", ", 2;"}, {"return 1 ", "2;"}, {"return 1 ", "}"}, {"return 1", ")"}, {"return 1 ", "return;"}, {"return ", "= 1;"},
		{"break ", "1;"}, {"break ", "}"}, {"break ", "break;"}, {"break ", "(1);"}, {"break", ")"}, {"break ", "a;"}, {"continue ", "1;"}, {"continue ", "}"}, {"continue ", "continue;"}, {"continue", ","}, {"continue ", "{}"},
		{"", "static int a;"}, {"", "extern int a;"}, {"{ ", ")"}, {"{", "]"}, {"{ a", "}"}, {"{ ; ", ")"}, {"{ ; ", ", ;"},
	} {
		bodyWrong(t, c[0], c[1])
	}
	for _, s := range []string{"if", "if (", "if (1", "if (1)", "if (1) ;", "if (1) ; else", "while", "while (", "while (1", "while (1)", "return", "return 1", "break", "continue", "int", "int a", "int a[", "int a[1", "int a =", "int a = 1", "1", "a(", "a[", "{", ";", "1;"} {
		refused(t, bodyHead+s, "", api.ErrSyntax)
		refused(t, bodyHead+s+" // int", "", api.ErrSyntax)
	}
}
