package obj_test

import (
	"strconv"
	"strings"
	"testing"

	"solder/api"
	"solder/obj"
)

const (
	letters = "abcdefghijklmnopqrstuvwxyzABCDEFGHIJKLMNOPQRSTUVWXYZ_."
	figures = "0123456789"
)

// isName says whether s is taken for a name, or not, by itself and as a symbol's.
func isName(t *testing.T, s string, want bool) {
	t.Helper()
	if got := obj.Name(s); got != want {
		t.Errorf("P5.1: Name(%q) = %t, want %t", s, got, want)
	}
	is(t, "a symbol named "+strconv.Quote(s), api.Object{Syms: []api.Sym{{Name: s, Global: true}}}, want)
}

func TestNames(t *testing.T) {
	for _, s := range []string{
		"a", "z", "A", "Z", "_", ".", "..", "._", "main", "a0", "_9", ".9", ".L0", "a.b_c.9Z", "putw", "object", "end", "text", "rels",
		letters[:40], letters[14:], "a" + figures + figures + figures, strings.Repeat(".", 40), strings.Repeat("Q", 39), "_" + strings.Repeat("7", 39),
	} {
		isName(t, s, true)
	}
	for _, s := range []string{
		"", "0", "9", "0a", "9z", "1.", "7_", "-", "a-", "-a", "a b", " a", "a ", " ", "\n", "a\n", "\na", "a\x00", "\x00", "a\t", "a$", "$", "@a", "a[", "a/",
		"é", "aé", "\xe9", "a\xff", "ａ", "a\u200b", "٣", "a٣", "a+1", "a:b",
		letters[:41], strings.Repeat("a", 41), strings.Repeat("a", 80), strings.Repeat("a", 1<<16), "0" + strings.Repeat("a", 39), strings.Repeat("a", 39) + "-",
	} {
		isName(t, s, false)
	}
}

// Each byte stands first, alone, in the middle, last, and last of a name of the greatest length.
func TestBytesOfNames(t *testing.T) {
	for n := range 256 {
		b := string([]byte{byte(n)})
		letter, figure := strings.Contains(letters, b), strings.Contains(figures, b)
		isName(t, b, letter)
		isName(t, b+"x", letter)
		isName(t, "x"+b+"y", letter || figure)
		isName(t, "x"+b, letter || figure)
		isName(t, strings.Repeat("x", api.MaxName-1)+b, letter || figure)
		isName(t, strings.Repeat("x", api.MaxName)+b, false)
	}
}

func TestLengthsOfNames(t *testing.T) {
	for n := range 100 {
		isName(t, strings.Repeat("m", n), n >= 1 && n <= api.MaxName)
	}
}
