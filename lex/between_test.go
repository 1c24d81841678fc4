package lex_test

import (
	"strings"
	"testing"

	"solder/api"
)

// The chapter's examples.
func TestExamples(t *testing.T) {
	holds(t, "a<<=1.5e3;", fine("1:a@0 4:<<@1 4:=@3 3:1.5e3@4 4:;@9 0:@10"))
	holds(t, "1.", wrong(0))
	holds(t, "4294967296", wrong(0))
}

func TestEmpty(t *testing.T) {
	holds(t, "", fine("0:@0"))
}

// end is what is answered of a text without tokens.
func end(text string) answer {
	return fine(token(api.TEnd, "", len(text)))
}

func TestBetweenAlone(t *testing.T) {
	for _, s := range []string{
		" ", "\t", "\n", "\r", "\r\n", "  ", " \t\n\r ", strings.Repeat(" \n", 500),
		"//", "//\n", "// a", "// a\n", "//a\n//b", "//a\n\n \t//b\n", "///", "////", "//\r", "//\ra", "//\x00\xff\n", "//\"\n", "// 1a 4294967296\n", "//\xe2\x80\xa9 a",
		"/**/", "/***/", "/****/", "/*****/", "/* */", "/* a */", "/*\n*/", "/*a*//*b*/", "/* * / */", "/*/*/", "/*//*/", "/*///*/", "/* \x00\xff\x80\" 1a 4294967296 */", "/**/ /**/\n/**/", "/*\n\n\n*/\r", "/* / * ** / */",
		"/* // */", "/* // a\n */", "/*//\n*/", "/* /* */", "/*/**/", "/* /* /* **/", "// /*", "// /*\n", "// /* */", "// */", "//*", "//*\n", "//*/", "//*/\n", "//*/ a\n//", "//\n/**/", "/**///", "/**///\n", "/**///*", "/* *///* */", "// //", "// // a",
	} {
		holds(t, s, end(s))
	}
}

// What stands between tokens ends where the chapter says, and neither ahead of it nor behind.
func TestRemarksEnd(t *testing.T) {
	for _, c := range []struct{ s, want string }{
		{"a//", "1:a@0 0:@3"}, {"a//\n", "1:a@0 0:@4"}, {"a//b", "1:a@0 0:@4"}, {"a//b\n", "1:a@0 0:@5"}, {"a//b\nc", "1:a@0 1:c@5 0:@6"}, {"//a\nb", "1:b@4 0:@5"}, {"//\nb", "1:b@3 0:@4"},
		{"//a\rb\nc", "1:c@6 0:@7"}, {"//a\\\nb", "1:b@5 0:@6"}, {"//a\vb\fc\nd", "1:d@8 0:@9"}, {"//\x85\xe2\x80\xa8a\nb", "1:b@8 0:@9"},
		{"/**/a", "1:a@4 0:@5"}, {"a/**/", "1:a@0 0:@5"}, {"a/**/b", "1:a@0 1:b@5 0:@6"}, {"/***/a", "1:a@5 0:@6"}, {"/****/a", "1:a@6 0:@7"}, {"/*/*/a", "1:a@5 0:@6"}, {"/*/**/a", "1:a@6 0:@7"},
		{"/*a*/b*/", "1:b@5 4:*@6 4:/@7 0:@8"}, {"/* /* */ a */", "1:a@9 4:*@11 4:/@12 0:@13"}, {"/**/*/", "4:*@4 4:/@5 0:@6"},
		{"/*//*/a", "1:a@6 0:@7"}, {"/*//\n*/a", "1:a@7 0:@8"}, {"/* // */ a", "1:a@9 0:@10"}, {"/*\n//*/ a", "1:a@8 0:@9"},
		{"// /*\na", "1:a@6 0:@7"}, {"//*\na", "1:a@4 0:@5"}, {"// /*\na*/", "1:a@6 4:*@7 4:/@8 0:@9"}, {"//*/\na", "1:a@5 0:@6"}, {"//\n//\na//\n", "1:a@6 0:@10"},
		{"a/ /b", "1:a@0 4:/@1 4:/@3 1:b@4 0:@5"}, {"a/\n/b", "1:a@0 4:/@1 4:/@3 1:b@4 0:@5"}, {"a/ *b", "1:a@0 4:/@1 4:*@3 1:b@4 0:@5"}, {"a* /b", "1:a@0 4:*@1 4:/@3 1:b@4 0:@5"}, {"a*/b", "1:a@0 4:*@1 4:/@2 1:b@3 0:@4"}, {"a/b", "1:a@0 4:/@1 1:b@2 0:@3"},
		{"a///**/b\nc", "1:a@0 1:c@9 0:@10"}, {"a*//b", "1:a@0 4:*@1 0:@5"}, {"a<//b\n<c", "1:a@0 4:<@1 4:<@6 1:c@7 0:@8"}, {"a</**/<c", "1:a@0 4:<@1 4:<@6 1:c@7 0:@8"},
		{"1/**/2", "2:1@0 2:2@5 0:@6"}, {"1.5//\n2", "3:1.5@0 2:2@6 0:@7"}, {"in/**/t", "1:in@0 1:t@6 0:@7"}, {"in//\nt", "1:in@0 1:t@5 0:@6"}, {"int/**/", "5:int@0 0:@7"},
	} {
		holds(t, c.s, fine(c.want))
	}
	// A remark parts a number from what may not stand behind it: that begins no token by itself.
	holds(t, "1.5/**/.5", wrong(7))
	holds(t, "1//\n.5", wrong(4))
}

// A long remark without its end, at the text's beginning, middle and end.
func TestRemarksWithoutEnd(t *testing.T) {
	for _, s := range []string{"/*", "/*/", "/* ", "/*a", "/**", "/***", "/* *", "/* * /", "/*\n", "/*\n/", "/*//", "/*// \n/", "/*/*", "/*/* /", "/* a b\nc;", "/* \\", "/*\x00\xff"} {
		for _, ahead := range []string{"", " ", "\n", "a", "a ", "a;\nb", "1", "1.5 ", "int ", "/**/", "//\n", "//*\n", "/* */ /*/*/", "<", "*", "<<", strings.Repeat(" ", 1000)} {
			for _, behind := range []string{"", " a", "\n//", "\n;;", strings.Repeat("; ", 3000)} {
				holds(t, ahead+s+behind, wrong(len(ahead)))
			}
		}
	}
}

// Each byte, alone and between: blanks part, names go on, and what begins no token is told at its place.
func TestEachByte(t *testing.T) {
	const blanks, signs, no = "\t\n\r ", "+-*/%&^~!<>=(){}[];,|", "\"#$'.:?@\\`"
	letters, digits, none := 0, 0, 0
	for n := range 256 {
		b := byte(n)
		s := string([]byte{b})
		switch {
		case strings.Contains(blanks, s):
			holds(t, s, fine("0:@1"))
			holds(t, "a"+s+"b", fine("1:a@0 1:b@2 0:@3"))
			holds(t, s+s+"1"+s+s+"2", fine("2:1@2 2:2@5 0:@6"))
		case strings.Contains(signs, s):
			holds(t, s, fine("4:"+s+"@0 0:@1"))
			holds(t, "a"+s+"b", fine("1:a@0 4:"+s+"@1 1:b@2 0:@3"))
			holds(t, "1"+s+"2", fine("2:1@0 4:"+s+"@1 2:2@2 0:@3"))
		case 'a' <= b && b <= 'z', 'A' <= b && b <= 'Z', b == '_':
			letters++
			holds(t, s, fine("1:"+s+"@0 0:@1"))
			holds(t, "a"+s+"b", fine("1:a"+s+"b@0 0:@3"))
			holds(t, ";"+s+"1", fine("4:;@0 1:"+s+"1@1 0:@3"))
		case '0' <= b && b <= '9':
			digits++
			holds(t, s, fine("2:"+s+"@0 0:@1"))
			holds(t, "a"+s+"b", fine("1:a"+s+"b@0 0:@3"))
			holds(t, ";"+s+"1", fine("4:;@0 2:"+s+"1@1 0:@3"))
		default:
			none++
			if n > 32 && n < 127 && !strings.Contains(no, s) {
				t.Errorf("the test knows nothing of byte %d", n)
			}
			holds(t, s, wrong(0))
			holds(t, "a"+s+"b", wrong(1))
			holds(t, "a "+s+" b", wrong(2))
			holds(t, "int x;\n"+s+s, wrong(7))
			holds(t, "//"+s+"\na", fine("1:a@4 0:@5"))
			holds(t, "/*"+s+"*/a", fine("1:a@5 0:@6"))
		}
	}
	if letters != 53 || digits != 10 || none != 256-53-10-4-21 {
		t.Errorf("the test has %d letters, %d digits and %d bytes that begin no token", letters, digits, none)
	}
}

// Blanks and letters that aren't of one byte, or not of these, are none.
func TestOtherBlanksAndLetters(t *testing.T) {
	for _, s := range []string{"\x00", "\v", "\f", "\x1c", "\x7f", "\x80", "\xff", "\x85", "\xa0", "\u00a0", "\u2028", "\u2029", "\u3000", "\ufeff", "\u00e9", "\u03b1", "\u0661", "\uff11", "\uff0b", "\u037e", "\xc3", "\xe2\x82"} {
		holds(t, s, wrong(0))
		holds(t, " "+s+"a", wrong(1))
		holds(t, "a"+s+"b", wrong(1))
		holds(t, "1"+s, wrong(1))
		holds(t, "1.5e3"+s+"2", wrong(5))
	}
}
