package lex_test

import (
	"math/rand"
	"strconv"
	"strings"
	"testing"

	"solder/api"
	"solder/lex"
)

// everyText calls with all texts of at most n of the pieces.
func everyText(n int, pieces []string, with func(string)) {
	with("")
	var longer func(string, int)
	longer = func(s string, n int) {
		for _, p := range pieces {
			with(s + p)
			if n > 1 {
				longer(s+p, n-1)
			}
		}
	}
	longer("", n)
}

// All short texts of a few bytes, as the model has them.
func TestAllShortTexts(t *testing.T) {
	for _, c := range []struct {
		n      int
		pieces string
	}{{5, "1.e+a/*\n "}, {6, "09.e-"}, {6, "/*\na"}, {5, "<>=!&\x7c"}, {4, "i n t f _ 1 ; \n"}, {3, "\x00\t\n\v\f\r aZ_0.+(\x7f\x80\xff"}} {
		everyText(c.n, strings.Split(c.pieces, ""), func(s string) {
			is(t, "P10.1", s, model(s))
		})
	}
	everyText(2, everyByte(), func(s string) {
		holds(t, s, model(s))
	})
}

func everyByte() []string {
	var l []string
	for n := range 256 {
		l = append(l, string([]byte{byte(n)}))
	}
	return l
}

func some[E any](source *rand.Rand, l ...E) E {
	return l[source.Intn(len(l))]
}

// bytesOf is so many bytes of some.
func bytesOf(source *rand.Rand, of string, n int) string {
	var b strings.Builder
	for range n {
		b.WriteByte(of[source.Intn(len(of))])
	}
	return b.String()
}

const (
	letters = "abcdefghijklmnopqrstuvwxyzABCDEFGHIJKLMNOPQRSTUVWXYZ_"
	digits  = "0123456789"
)

// someToken is a token by its Kind and Text, made as the chapter tells.
func someToken(source *rand.Rand) (int, string) {
	switch kind := 1 + source.Intn(5); kind {
	case api.TName:
		for {
			s := bytesOf(source, letters, 1) + bytesOf(source, letters+digits, some(source, 0, 1, 2, 5, 38, 39))
			if len(s) > 8 || !strings.Contains(" "+strings.Join(words(), " ")+" ", " "+s+" ") {
				return kind, s
			}
		}
	case api.TInt:
		s := strconv.FormatUint(uint64(source.Uint32()>>source.Intn(32)), 10)
		return kind, strings.Repeat("0", source.Intn(11-len(s))) + s
	case api.TReal:
		s := bytesOf(source, digits, 1+source.Intn(12)) + "." + bytesOf(source, digits, 1+source.Intn(12))
		if source.Intn(2) == 0 {
			s += "e" + some(source, "", "+", "-") + bytesOf(source, digits, 1+source.Intn(14))
		}
		return kind, s
	case api.TSign:
		return kind, some(source, signs()...)
	default:
		return kind, some(source, words()...)
	}
}

// someGap is something that may stand between tokens, one byte at least, behind this one.
func someGap(source *rand.Rand, behind string) string {
	s := ""
	for range 1 + source.Intn(4) {
		s += some(source, " ", "\n", "\t", "\r", "\r\n", "  ", "/**/", "/* a 1.5 ; */", "/* // \n * / */", "//\n", "// int /* x\n", "/***/", "/*/*/", "//*/\n", "// \xff @ 1.\n", "/*\x00*/")
	}
	// A remark behind a / would begin with that one.
	if behind == "/" && s[0] == '/' {
		s = " " + s
	}
	return s
}

// someText is a text of n tokens, and what they are.
func someText(source *rand.Rand, n int) (string, []api.Token) {
	var l []api.Token
	s := ""
	if source.Intn(2) == 0 {
		s = someGap(source, "")
	}
	for range n {
		kind, text := someToken(source)
		l = append(l, api.Token{Kind: kind, Text: text, At: len(s)})
		s += text + someGap(source, text)
	}
	if source.Intn(2) == 0 {
		s += some(source, "//", "// a", "///*", "//\r")
	}
	return s, append(l, api.Token{At: len(s)})
}

// Texts that are made of tokens have just these.
func TestTextsOfTokens(t *testing.T) {
	source := rand.New(rand.NewSource(10))
	kinds := map[int]int{}
	for range 3000 {
		s, l := someText(source, source.Intn(20))
		holds(t, s, fine(told(l)))
		for _, x := range l {
			kinds[x.Kind]++
		}
	}
	if len(kinds) != 6 {
		t.Errorf("the test's texts have the Kinds %v alone", kinds)
	}
}

// soup is a text of pieces that may fit or not, with nothing between.
func soup(source *rand.Rand) string {
	s := ""
	for range 1 + source.Intn(12) {
		switch source.Intn(9) {
		case 0, 1, 2:
			_, text := someToken(source)
			s += text
		case 3, 4:
			s += someGap(source, "")
		case 5:
			s += some(source, "/", "*", "//", "/*", "*/", "\n", ".", "e", "+", "-", "_", "0", "a", "&", "\x7c", "=", "!", "<", ">")
		case 6:
			s += bytesOf(source, "0.e+-a_", 1+source.Intn(6))
		case 7:
			s += some(source, signs()...)
		default:
			if source.Intn(6) == 0 {
				s += string([]byte{byte(source.Intn(256))})
			}
		}
	}
	return s
}

// Texts of any pieces are answered as the model does, and their tokens stand in them.
func TestSoups(t *testing.T) {
	source := rand.New(rand.NewSource(11))
	good := 0
	const all = 20000
	for range all {
		s := soup(source)
		want := model(s)
		holds(t, s, want)
		if want.e == api.OK {
			good++
		}
	}
	if good < all/8 || good > all*7/8 {
		t.Errorf("%d of %d texts are right: too few of one kind", good, all)
	}
}

// Whatever bytes there are, up to more than may be, the call ends.
func TestAnyBytes(t *testing.T) {
	source := rand.New(rand.NewSource(12))
	for _, n := range []int{1, 10, 100, 1000, 8191, 8192, 8193, 100000} {
		for range 20 {
			b := make([]byte, n)
			source.Read(b)
			holds(t, string(b), model(string(b)))
			if n > 1 {
				s := "/*" + strings.ReplaceAll(string(b[2:]), "*/", "**")
				holds(t, s, model(s))
			}
		}
	}
}

// spread is the tokens of a text with more between them.
func spread(source *rand.Rand, text string, l []api.Token) string {
	s, last, at := "", "", 0
	for _, x := range l {
		// What stands there may be a // up to the text's end: more stands ahead of it.
		s += someGap(source, last) + text[at:x.At] + x.Text
		last, at = x.Text, x.At+len(x.Text)
	}
	return s
}

// A text with more blanks and remarks between has the same tokens.
func TestMoreBetween(t *testing.T) {
	source := rand.New(rand.NewSource(13))
	seen := 0
	for range 20000 {
		s := soup(source)
		l, _, e := lex.Lex(s)
		if e != api.OK {
			continue
		}
		seen++
		more := spread(source, s, l)
		got, at, e := lex.Lex(more)
		if bare(got) != bare(l) || at != 0 || e != api.OK {
			t.Errorf("P10.1: Lex(%s): %s, %d, %d, but of %s %s", short(more), bare(got), at, e, short(s), bare(l))
		}
		stand(t, more)
	}
	if seen < 2000 {
		t.Errorf("%d texts alone are right", seen)
	}
}

// moved are tokens so many bytes further on.
func moved(l []api.Token, by int) []api.Token {
	var all []api.Token
	for _, x := range l {
		all = append(all, api.Token{Kind: x.Kind, Text: x.Text, At: x.At + by})
	}
	return all
}

// joined is what is answered of two texts with a byte 10 between, by what is answered of each.
func joined(t *testing.T, a, b string) answer {
	t.Helper()
	first, at, e := lex.Lex(a)
	if e != api.OK {
		return answer{at: at, e: e}
	}
	second, at, e := lex.Lex(b)
	if e != api.OK {
		return answer{at: len(a) + 1 + at, e: e}
	}
	return fine(told(append(first[:len(first)-1], moved(second, len(a)+1)...)))
}

// Two texts with a byte 10 between have the tokens of the one and of the other; of what is wrong, the first.
func TestTwoTexts(t *testing.T) {
	source := rand.New(rand.NewSource(14))
	seen := map[api.Errno]int{}
	for range 20000 {
		a, b := soup(source), soup(source)
		// A long remark that has no end in the one may have it in the other.
		if w := ask(a); w.e == api.ErrLex && strings.HasPrefix(a[w.at:], "/*") {
			continue
		}
		want := joined(t, a, b)
		is(t, "P10.1", a+"\n"+b, want)
		stand(t, a+"\n"+b)
		seen[want.e]++
	}
	if seen[api.OK] < 1000 || seen[api.ErrLex] < 1000 {
		t.Errorf("the test's texts lead to the errors %v", seen)
	}
	for _, c := range [][2]string{{"", ""}, {"a", "b"}, {"a", ""}, {"", "a"}, {"a//", "b"}, {"//", "//"}, {"/**/", "/**/"}, {"1", ".5"}, {"1", "5"}, {"1.5", "e5"}, {"<", "<"}, {"/", "/"}, {"/", "*"}, {"in", "t"}, {"1.", "a"}, {"a", "1."}, {"@", "@"}, {"a", "/*"}, {"\x7c", "\x7c"}, {"&", "&"}} {
		holds(t, c[0]+"\n"+c[1], joined(t, c[0], c[1]))
	}
}
