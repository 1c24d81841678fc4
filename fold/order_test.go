package fold_test

import (
	"strings"
	"testing"
)

// plain is a text without its mark.
func plain(marked string) string {
	return strings.Replace(marked, "@", "", 1)
}

// noWords are expressions of words that aren't constant, marked where.
func noWords() []string {
	return []string{"@i", "@n", "@getw()", "@a[1]", "a[@i]", "@a == a", "@i = 2", "@*a", "f(@i, d)", "@f(1, 1.5)", "1 + @i", "-@i", "(int) @d", "@&a[4] == 0", "@a + 4 == a", "@a - 1 == 0", "&a[@e] == a", "*&a[@i]", "&@p[i] != 0"}
}

// Of two that aren't constant the first is told, whatever it stands in.
func TestKidsInOrder(t *testing.T) {
	for _, a := range noWords() {
		for _, b := range noWords() {
			for _, s := range []string{"A + B", "A / B", "A == B", "A && B", "A || B", "A << B", "-A * -B", "(double) A - (double) B * 1.5", "f(A, 1.5) + B", "f(A, (double) B)", "(1 + A) % B", "&a[A] == &a[B]", "&(a + A)[B]", "a + A + B", "a[A] = B", "a[A] + B", "!A || ~B", "1 + (2 + A) * (B - 3)", "&a[A] + B", "*(a + A) + B"} {
				not(t, strings.NewReplacer("A", "("+a+")", "B", "("+plain(b)+")").Replace(s))
			}
		}
	}
}

// A constant ahead of one that is none changes nothing, nor one behind it.
func TestOneKid(t *testing.T) {
	for _, a := range noWords() {
		for _, s := range []string{"1 + A", "A + 1", "0 && A", "A && 0", "1 || A", "A || 1", "0 * A", "1 / 0 + A", "f(1, (double) A)", "f(A, 1.5)", "a + A", "a - A", "a + 3 - A", "&a[A]", "&(a + 1)[A]", "a[A]", "*(a + A)", "-A", "!A", "~A", "(double) A", "(int) A", "putw(A)", "putw(1 + A)"} {
			not(t, strings.Replace(s, "A", "("+a+")", 1))
		}
		// An assignment's left Kid is none, too, and ahead.
		not(t, "@a[1] = ("+plain(a)+")")
		not(t, "@i = ("+plain(a)+")")
	}
}

// What & is asked of isn't asked for itself, if it is a name or an index: but the Kids of an index are, and then it.
func TestAddresses(t *testing.T) {
	is(t, "&i", intsAt("i", 0))
	is(t, "&d", realsAt("d", 0))
	is(t, "&a[1]", intsAt("a", 1))
	not(t, "@i")
	not(t, "@a[1]")
	not(t, "@&n")
	not(t, "&@p[i]")
	not(t, "&@p[1]")
	not(t, "&@p[9]")
	not(t, "&a[@i]")
	not(t, "&a[@p[0]]")
	not(t, "&(@p)[i]")
	not(t, "&(@p + 1)[i]")
	not(t, "&(a + @i)[n]")
	not(t, "&(@a - 1)[i]")
	not(t, "@&a[4]")
	not(t, "@&(a + 3)[1]")
	not(t, "&@g()[i]")
	not(t, "&(@p = 0)[i]")
	// Of anything else it is asked for.
	not(t, "&@*a")
	not(t, "&*@p")
	not(t, "&*(a + @i)")
	not(t, "&@*(a + 1)")
	not(t, "&*(@a + 4)")
	not(t, "&@*&i")
	not(t, "&*&@p[0]")
	not(t, "&*&a[@i]")
	// Other unary signs aren't &.
	not(t, "-@i")
	not(t, "*@p")
	not(t, "@*a")
	not(t, "-@a[1]")
}
