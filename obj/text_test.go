package obj_test

import (
	"bytes"
	"math/rand"
	"strconv"
	"strings"
	"testing"

	"solder/api"
	"solder/obj"
)

func TestExamples(t *testing.T) {
	if s, e := obj.Print(api.Object{}); s != nothing || e != api.OK {
		t.Errorf("P5.1: Print of nothing: %q, error %d", s, e)
	}
	if o, e := obj.Parse(nothing); !equal(o, api.Object{}) || e != api.OK {
		t.Errorf("P5.1: Parse of nothing: %v, error %d", o, e)
	}
	if s, e := obj.Print(good(t)); s != goodText || e != api.OK {
		t.Errorf("P5.1: Print: %q, error %d", s, e)
	}
	if o, e := obj.Parse(goodText); !equal(o, good(t)) || e != api.OK {
		t.Errorf("P5.1: Parse: %v, error %d", o, e)
	}
}

// isAsRead says whether s is parsed as it is read by the test's own tables.
func isAsRead(t testing.TB, what, s string) (is bool) {
	t.Helper()
	want, is := read(s)
	o, e := obj.Parse(s)
	if is != (e == api.OK) || !is && e != api.ErrForm || !equal(o, want) {
		t.Errorf("P5.1: %s: Parse: error %d, of\n%s\nanswered\n%s", what, e, brief(s), brief(tell(o)))
	}
	if e != api.OK {
		return is
	}
	if back, e := obj.Print(o); back != s || e != api.OK {
		t.Errorf("P5.2: %s: what is parsed is printed otherwise, error %d:\n%s, want\n%s", what, e, brief(back), brief(s))
	}
	return is
}

// Of each byte: it is missing, it is doubled, it is another one, another one is ahead of it.
func TestEachByte(t *testing.T) {
	for _, s := range []string{goodText, nothing} {
		for at := range s {
			isAsRead(t, "a byte less", s[:at]+s[at+1:])
			isAsRead(t, "a byte twice", s[:at+1]+s[at:])
			isNoText(t, "cut off", s[:at])
			for n := range 256 {
				b := string([]byte{byte(n)})
				isAsRead(t, "another byte", s[:at]+b+s[at+1:])
				isAsRead(t, "a byte more", s[:at]+b+s[at:])
			}
		}
	}
}

// Of each line: it is missing, empty, doubled, turned with the next, or another text's line.
func TestEachLine(t *testing.T) {
	l := strings.SplitAfter(goodText, "\n")
	l = l[:len(l)-1]
	others := append(strings.SplitAfter(nothing, "\n"), "\n", " \n", "text\n", "text 1\n", "data 8\n", "syms 1\n", "rels 1\n", "a 0 0 0 1\n", "00000000\n", "0000000000000000\n", "1 0 1 1\n", "1 0 1 1 0 0\n")
	for n, line := range l {
		ahead, behind := strings.Join(l[:n], ""), strings.Join(l[n+1:], "")
		isAsRead(t, "a line less", ahead+behind)
		isAsRead(t, "a line twice", ahead+line+line+behind)
		isNoText(t, "a line without its end", ahead+strings.TrimSuffix(line, "\n")+behind)
		isNoText(t, "a line with a byte 13", ahead+strings.TrimSuffix(line, "\n")+"\r\n"+behind)
		isNoText(t, "a line with a blank ahead", ahead+" "+line+behind)
		isNoText(t, "a line with a blank behind", ahead+strings.TrimSuffix(line, "\n")+" \n"+behind)
		if n > 0 {
			isAsRead(t, "two lines turned", strings.Join(l[:n-1], "")+line+l[n-1]+behind)
		}
		for _, other := range others {
			isAsRead(t, "another line", ahead+other+behind)
			isAsRead(t, "a line more", ahead+other+line+behind)
		}
	}
}

func TestEachBlank(t *testing.T) {
	for at := range goodText {
		if goodText[at] != ' ' {
			continue
		}
		for _, other := range []string{"", "  ", "\t", "\n", "\u00a0", " \t", ",", "   "} {
			isNoText(t, "a blank become "+strconv.Quote(other), goodText[:at]+other+goodText[at+1:])
		}
	}
}

// eachNumber does something with each number that stands in goodText in decimal: what is ahead, it, what is behind.
func eachNumber(do func(ahead, number, behind string)) {
	at := 0
	for _, line := range strings.SplitAfter(goodText, "\n") {
		from := at
		parts := strings.Split(strings.TrimSuffix(line, "\n"), " ")
		for n, p := range parts {
			// A line of one part is a word, data, or no number; what begins a line of two is no number.
			if _, err := strconv.Atoi(p); err == nil && len(parts) > 1 && (n > 0 || len(parts) == 5) {
				do(goodText[:from], p, goodText[from+len(p):])
			}
			from += len(p) + 1
		}
		at += len(line)
	}
}

func TestFormsOfNumbers(t *testing.T) {
	n := 0
	eachNumber(func(ahead, number, behind string) {
		n++
		isText(t, "the number "+number+" as it is", ahead+number+behind)
		sign := ""
		if number[0] == '-' {
			sign, number = "-", number[1:]
		}
		for _, s := range []string{
			"0" + number, "00" + number, "000000000000000000000000000000" + number, "+" + sign + number, sign + "+" + number, "--" + number, "-+" + number,
			"", "-", "+", number + ".", number + ".0", number + "e0", "0x" + number, number + "h", "0b1", "0o7", "1_0", "_" + number, number + "_",
			number + "0000000000000000000000", "9223372036854775807", "9223372036854775808", "18446744073709551616", "18446744073709551617", "-9223372036854775808", "-9223372036854775809",
			strings.Repeat("9", 400), "4294967296", "4294967297", "-4294967296", "99999999999",
			"-0", "+0", "00", "-00", "-01", "٣", "１", "0 ", " 0", "true", "a", "1a", "a1", "0\x00",
		} {
			isNoText(t, "the number "+number+" as "+strconv.Quote(s), ahead+sign+s+behind)
			isAsRead(t, "the number "+number+" as "+strconv.Quote(s), ahead+s+behind)
		}
	})
	if n != 4+4*5+5*7 {
		t.Errorf("%d numbers were tried: the test doesn't find them", n)
	}
}

// Each number is held against the test's own tables with many others in its place.
func TestOtherNumbers(t *testing.T) {
	eachNumber(func(ahead, number, behind string) {
		for n := -20; n < 60; n++ {
			isAsRead(t, "a number", ahead+strconv.Itoa(n)+behind)
		}
		for _, n := range []int{1 << 20, 1<<20 + 16, 1<<31 - 1, 1 << 31, -1 << 31, -1<<31 - 1, 1<<32 + 1, 65535, 65536, 65537, 600, 601} {
			isAsRead(t, "a number", ahead+strconv.Itoa(n)+behind)
		}
	})
}

func TestCounts(t *testing.T) {
	for _, c := range []struct{ count, other string }{
		{"text 7", "text 6"}, {"text 7", "text 8"}, {"text 7", "text 0"}, {"text 7", "text -7"}, {"text 7", "text -1"}, {"text 7", "text 65536"}, {"text 7", "text 65537"}, {"text 7", "text 9223372036854775807"}, {"text 7", "text"}, {"text 7", "text "}, {"text 7", "text 7 7"}, {"text 7", "Text 7"}, {"text 7", "data 7"}, {"text 7", "text7"}, {"text 7", "7"}, {"text 7", "7 text"}, {"text 7", " text 7"},
		{"data 16", "data 15"}, {"data 16", "data 9"}, {"data 16", "data 8"}, {"data 16", "data 24"}, {"data 16", "data 17"}, {"data 16", "data 2"}, {"data 16", "data 0"}, {"data 16", "data -16"}, {"data 16", "data -8"}, {"data 16", "data 65536"}, {"data 16", "data 65544"}, {"data 16", "data 9223372036854775800"}, {"data 16", "DATA 16"}, {"data 16", "syms 16"},
		{"syms 5", "syms 4"}, {"syms 5", "syms 6"}, {"syms 5", "syms 0"}, {"syms 5", "syms -5"}, {"syms 5", "syms 600"}, {"syms 5", "syms 601"}, {"syms 5", "syms 9223372036854775807"}, {"syms 5", "Syms 5"}, {"syms 5", "rels 5"},
		{"rels 7", "rels 6"}, {"rels 7", "rels 8"}, {"rels 7", "rels 0"}, {"rels 7", "rels -7"}, {"rels 7", "rels 65536"}, {"rels 7", "rels 65537"}, {"rels 7", "rels 9223372036854775807"}, {"rels 7", "rel 7"}, {"rels 7", "end 7"},
		{"object", ""}, {"object", "Object"}, {"object", "objects"}, {"object", "object 0"}, {"object", "object "}, {"object", "object\n"}, {"object", "\nobject"}, {"object", "object\nobject"}, {"object\n", ""},
	} {
		if strings.Count(goodText, c.count) != 1 {
			t.Fatalf("the test looks for %q", c.count)
		}
		isNoText(t, strconv.Quote(c.count)+" become "+strconv.Quote(c.other), strings.Replace(goodText, c.count, c.other, 1))
	}
	// Of no data, too, a number that isn't a multiple of 8 is none.
	for _, n := range []string{"-8", "-1", "1", "4", "7", "8"} {
		isNoText(t, "data "+n+" of none", strings.Replace(nothing, "data 0", "data "+n, 1))
	}
	for _, first := range []string{"text", "syms", "rels"} {
		for _, n := range []string{"-1", "1", "2", "-9223372036854775808"} {
			isNoText(t, first+" "+n+" of none", strings.Replace(nothing, first+" 0", first+" "+n, 1))
		}
	}
}

func TestEnds(t *testing.T) {
	for _, s := range []string{goodText, nothing} {
		isText(t, "as it is", s)
		body := strings.TrimSuffix(s, "end\n")
		for _, tail := range []string{"", "end", "END\n", "End\n", "en\n", "ends\n", "end \n", " end\n", "end\n\n", "end\n ", "end\n\x00", "\x00", "end\nend\n", "end\nobject\n", "end\r\n", "end\n" + s, "\n", "\nend\n", "end 0\n", "end\n\n\n", "rels 0\nend\n"} {
			isNoText(t, "with the end "+strconv.Quote(tail), body+tail)
		}
		for _, head := range []string{" ", "\n", "\ufeff", "\x00", "object\n", "text 0\n", s} {
			isNoText(t, "with "+strconv.Quote(brief(head))+" ahead", head+s)
		}
	}
	for _, s := range []string{"", "\n", " ", "\n\n\n\n\n\n", "object", "object\n", "end\n", "\x00", "object\nend\n", strings.Repeat(" ", 1000), strings.Repeat("object\n", 1000), strings.ReplaceAll(nothing, "\n", "\r\n"), strings.ReplaceAll(nothing, "\n", "\r"), strings.ReplaceAll(nothing, "\n", " "), strings.ToUpper(nothing)} {
		isNoText(t, "no text "+strconv.Quote(brief(s)), s)
	}
}

// Digits of words and of data: all that there are, and what isn't one, at each place.
func TestDigits(t *testing.T) {
	const word, data = "fedcba98", "00000000abcdef10"
	for _, row := range []string{word, data} {
		for at := range row {
			for n := range 256 {
				b := string([]byte{byte(n)})
				s := strings.Replace(goodText, row, row[:at]+b+row[at+1:], 1)
				if strings.Contains("0123456789abcdef", b) {
					isText(t, "the digit "+b, s)
				} else {
					isNoText(t, "the digit "+strconv.Quote(b), s)
				}
			}
		}
	}
	for _, c := range []struct{ row, other string }{
		{word, "FEDCBA98"}, {word, "fedcba9"}, {word, "fedcba980"}, {word, "0fedcba98"}, {word, "edcba98"}, {word, "0xdcba98"}, {word, "+edcba98"}, {word, "-edcba98"}, {word, "fe dcba98"}, {word, "fedcba98fedcba98"}, {word, "fedc\nba98"}, {word, ""}, {word, "0"}, {word, "fedcba98 "}, {word, "fedc_a98"},
		{data, "00000000ABCDEF10"}, {data, "00000000abcdef1"}, {data, "abcdef10"}, {data, "00000000abcdef1000"}, {data, "000000000abcdef10"}, {data, "0x000000abcdef10"}, {data, "+0000000abcdef10"}, {data, "-0000000abcdef10"}, {data, "00000000 abcdef10"}, {data, "00000000\nabcdef10"}, {data, ""}, {data, "00 00 00 00 ab cd ef 10"}, {data, data + data},
	} {
		isNoText(t, "the row "+c.row+" as "+strconv.Quote(c.other), strings.Replace(goodText, c.row, c.other, 1))
	}
}

// Words stand with their highest digit first, bytes in their order.
func TestOrderOfDigits(t *testing.T) {
	for n := range 8 {
		o := api.Object{Text: []uint32{0xf << (4 * n)}, Data: make([]byte, 16)}
		o.Data[n], o.Data[8+n] = 0x12, 0x9a
		row, data := []byte("00000000"), [2][]byte{[]byte("0000000000000000"), []byte("0000000000000000")}
		row[7-n] = 'f'
		copy(data[0][2*n:], "12")
		copy(data[1][2*n:], "9a")
		want := "object\ntext 1\n" + string(row) + "\ndata 16\n" + string(data[0]) + "\n" + string(data[1]) + "\nsyms 0\nrels 0\nend\n"
		if s, e := obj.Print(o); s != want || e != api.OK {
			t.Errorf("P5.1: Print: %q, error %d, want %q", s, e, want)
		}
		if back, e := obj.Parse(want); !equal(back, o) || e != api.OK {
			t.Errorf("P5.1: Parse(%q): %v, error %d", want, back, e)
		}
	}
}

func TestSymbolsAndRelocationsOfTexts(t *testing.T) {
	for _, c := range []struct{ line, other string }{
		{"main 1 1 32 1", "main 1 1 32"}, {"main 1 1 32 1", "main 1 1 32 1 1"}, {"main 1 1 32 1", "main 1 1 32 2"}, {"main 1 1 32 1", "main 1 1 32 -1"}, {"main 1 1 32 1", "main 1 1 32 true"}, {"main 1 1 32 1", "main 1 1 32 01"}, {"main 1 1 32 1", "main 1 1 32 "}, {"main 1 1 32 1", " 1 1 32 1"}, {"main 1 1 32 1", "1 1 32 1"}, {"main 1 1 32 1", "1main 1 1 32 1"}, {"main 1 1 32 1", "ma-in 1 1 32 1"}, {"main 1 1 32 1", "ma in 1 1 32 1"}, {"main 1 1 32 1", "putw 1 1 32 1"}, {"main 1 1 32 1", "main 1 8 32 1"}, {"main 1 1 32 1", "main 1 1 33 1"}, {"main 1 1 32 1", "main 2 1 32 1"}, {"main 1 1 32 1", "main 3 1 0 1"},
		{"putw 0 0 0 1", "putw 0 0 0 0"}, {"putw 0 0 0 1", "putw 0 1 0 1"}, {"putw 0 0 0 1", "putw -0 0 0 1"},
		{"1 0 1 1 -4", "1 0 1 1"}, {"1 0 1 1 -4", "1 0 1 1 -4 0"}, {"1 0 1 1 -4", "1 0 1 5 -4"}, {"1 0 1 1 -4", "1 0 1 -1 -4"}, {"1 0 1 1 -4", "1 0 2 1 -4"}, {"1 0 1 1 -4", "1 0 1 1 - 4"}, {"1 0 1 1 -4", "a 0 1 1 -4"}, {"1 0 1 1 -4", "1 0 1 1 2147483648"}, {"1 0 1 1 -4", "1 0 1 1 -2147483649"}, {"1 0 1 1 -4", "1 1 2 1 -4"},
	} {
		if strings.Count(goodText, c.line+"\n") != 1 {
			t.Fatalf("the test looks for %q", c.line)
		}
		isNoText(t, strconv.Quote(c.line)+" become "+strconv.Quote(c.other), strings.Replace(goodText, c.line+"\n", c.other+"\n", 1))
	}
}

// Long texts end soon, whatever they promise.
func TestLongTexts(t *testing.T) {
	for _, s := range []string{
		"object\ntext 65536\n" + strings.Repeat("00000000\n", 65537) + "data 0\nsyms 0\nrels 0\nend\n",
		"object\ntext 0\ndata 65536\n" + strings.Repeat("0000000000000000\n", 8193) + "syms 0\nrels 0\nend\n",
		"object\ntext 0\ndata 0\nsyms 1\n" + strings.Repeat(" ", 1<<22) + "\nrels 0\nend\n",
		"object\ntext " + strings.Repeat("9", 1<<22) + "\n",
		"object\ntext " + strings.Repeat("0", 1<<22) + "\n",
		"object\ntext 0\ndata 0\nsyms 1\n" + strings.Repeat("a", 1<<22) + " 0 0 0 1\nrels 0\nend\n",
		strings.Repeat("object", 1<<20), strings.Repeat("\n", 1<<22), strings.Repeat("\x00", 1<<22),
		nothing + strings.Repeat("\n", 1<<22),
	} {
		isNoText(t, "a long text", s)
	}
}

// Texts with many things changed are held against the chapter told in another way.
func TestManyTexts(t *testing.T) {
	source := rand.New(rand.NewSource(55))
	pieces := strings.SplitAfter(goodText, "\n")
	const signs = "0123456789abcdef -+\nABmain.L_"
	ones := 0
	for range 40000 {
		b := []byte(goodText)
		for n := source.Intn(3); n >= 0; n-- {
			at := source.Intn(len(b))
			switch source.Intn(5) {
			case 0:
				b = append(b[:at], b[at+1:]...)
			case 1:
				b = append(b[:at], append([]byte(pieces[source.Intn(len(pieces))]), b[at:]...)...)
			case 2:
				b = append(b[:at], append([]byte{signs[source.Intn(len(signs))]}, b[at:]...)...)
			default:
				b[at] = signs[source.Intn(len(signs))]
			}
		}
		if isAsRead(t, "a changed text", string(b)) {
			ones++
		}
	}
	if ones < 1000 {
		t.Errorf("%d of 40000 are texts of objects: the test is too much of one kind", ones)
	}
}

func FuzzParse(f *testing.F) {
	for _, s := range []string{goodText, nothing, "", "object\ntext 0\ndata 8\n0123456789abcdef\nsyms 1\na 2 8 0 0\nrels 1\n2 4 6 0 -1\nend\n"} {
		f.Add([]byte(s))
	}
	f.Fuzz(func(t *testing.T, b []byte) {
		kept := bytes.Clone(b)
		isAsRead(t, "some text", string(b))
		if !bytes.Equal(b, kept) {
			t.Error("P5.3: the text has changed")
		}
	})
}
