package check_test

import (
	"slices"
	"strings"
	"testing"

	"solder/api"
	"solder/check"
	"solder/helps"
)

// Types are told by a letter here: v i d p q for Void, Int, Real, PInt, PReal, and 0 for a nought.
const letters = "v0idpq"

// form is an expression; a @ stands where it begins.
type form struct {
	text   string
	is     byte
	lvalue bool
}

func (f form) plain() string {
	return strings.Replace(f.text, "@", "", 1)
}

// typed is the letter of the form's type, where no pointer is asked for.
func (f form) typed() byte {
	if f.is == '0' {
		return 'i'
	}
	return f.is
}

// known is what the forms' names mean.
const known = "int gi; double gd; int *gp; double *gq; int ga[3]; extern double gb[3]; int fi(); double fd(); void fv(); int *fp(); double *fq(); "

// knownBody begins a function in which more names are known.
const knownBody = "(int i, double d, int *p, double *q) { int la[2]; double lb[1]; "

// topForms are forms of each type, by what is known at the top.
func topForms() []form {
	return []form{
		{"@0", '0', false}, {"(@0)", '0', false}, {"@00", '0', false},
		{"@1", 'i', false}, {"@4294967295", 'i', false}, {"@-0", 'i', false}, {"(@0 + 0)", 'i', false}, {"@(int) 0", 'i', false}, {"@!0", 'i', false}, {"(@gi = 0)", 'i', false}, {"@fi()", 'i', false}, {"@getw()", 'i', false}, {"(@gp == 0)", 'i', false},
		{"@gi", 'i', true}, {"((@gi))", 'i', true}, {"@*gp", 'i', true}, {"@gp[0]", 'i', true}, {"@ga[1]", 'i', true}, {"@*ga", 'i', true}, {"@fp()[1]", 'i', true},
		{"@1.5", 'd', false}, {"@0.0", 'd', false}, {"@-gd", 'd', false}, {"(@gd = 0.0)", 'd', false}, {"@fd()", 'd', false}, {"@(double) 0", 'd', false}, {"(@gd * 2.0)", 'd', false},
		{"@gd", 'd', true}, {"@*gq", 'd', true}, {"@gq[0]", 'd', true}, {"@gb[2]", 'd', true}, {"@*&gd", 'd', true},
		{"@ga", 'p', false}, {"@&gi", 'p', false}, {"@&*gp", 'p', false}, {"@&ga[1]", 'p', false}, {"(@gp + 1)", 'p', false}, {"(@ga - 0)", 'p', false}, {"(@gp = 0)", 'p', false}, {"@fp()", 'p', false},
		{"@gp", 'p', true}, {"(@gp)", 'p', true},
		{"@gb", 'q', false}, {"@&gd", 'q', false}, {"@&gq[1]", 'q', false}, {"(@gq - 1)", 'q', false}, {"(@gq = gb)", 'q', false}, {"@fq()", 'q', false},
		{"@gq", 'q', true},
		{"@fv()", 'v', false}, {"@putw(1)", 'v', false}, {"(@putd(0.5))", 'v', false},
	}
}

// forms are more of them, by what is known in a function, too.
func forms() []form {
	return append(topForms(), []form{
		{"@i", 'i', true}, {"@la[0]", 'i', true}, {"@*(p + i)", 'i', true}, {"(@i = 1)", 'i', false},
		{"@d", 'd', true}, {"@lb[0]", 'd', true}, {"@q[i]", 'd', true},
		{"@p", 'p', true}, {"@la", 'p', false}, {"@&i", 'p', false}, {"@&la[1]", 'p', false},
		{"@q", 'q', true}, {"@lb", 'q', false}, {"@&d", 'q', false},
	}...)
}

// eachPair calls with each form ahead of some of each type, and each behind some of each type.
func eachPair(with func(a, b form)) {
	all := forms()
	var some []form
	for n := range letters {
		of := slices.DeleteFunc(slices.Clone(all), func(f form) bool { return f.is != letters[n] })
		some = append(some, of[0], of[len(of)-1])
	}
	for _, a := range all {
		for _, b := range some {
			with(a, b)
			with(b, a)
		}
	}
}

// inFunction is a text with a function that answers a type and has a statement.
func inFunction(typed, s string) string {
	return known + typed + " f" + knownBody + s + " }"
}

// means says whether an expression, marked at its place, has a type, or ErrType there, if the letter of it is a point.
func means(t *testing.T, marked string, letter byte) {
	t.Helper()
	text := inFunction("void", marked+";")
	if letter == '.' {
		wrong(t, text, api.ErrType)
		return
	}
	text = strings.Replace(text, "@", "", 1)
	right(t, text)
	c, _, e := check.Check(parsed(t, text))
	if e != api.OK {
		return
	}
	body := c.Decls[len(c.Decls)-1].Body.Kids
	if x := body[len(body)-1].Exprs[0]; typeName(x.Type) != letterName(letter) {
		t.Errorf("P12.1: the expression of %s has the type %s", helps.Short(marked), typeName(x.Type))
	}
}

func letterName(letter byte) string {
	return map[byte]string{'v': "void", '0': "int", 'i': "int", 'd': "double", 'p': "int*", 'q': "double*"}[letter]
}

// letterText is a type as a module tells it.
func letterText(letter byte) string {
	return strings.Replace(letterName(letter), "*", " *", 1)
}

// Each form has the type that it says.
func TestForms(t *testing.T) {
	seen := map[byte]int{}
	for _, f := range forms() {
		means(t, f.text, f.typed())
		seen[f.is]++
	}
	for n := range letters {
		if seen[letters[n]] < 3 {
			t.Errorf("the test's forms have %d alone of %c", seen[letters[n]], letters[n])
		}
	}
}
