package real

import (
	"fmt"
	"math/big"
	"strings"
	"testing"

	"solder/api"
)

// parse reads a text that must be a real's.
func parse(t *testing.T, s string) uint64 {
	t.Helper()
	x, e := Parse(s)
	if e != api.OK {
		t.Fatalf("P2.1: Parse(%q): error %d", s, e)
	}
	return x
}

func TestParse(t *testing.T) {
	nines := strings.Repeat("9", 30)
	for _, c := range []struct {
		s    string
		want uint64
	}{
		{"1.5e1", 0x402e000000000000}, // the chapter's example
		{"0.0", 0}, {"00.000", 0}, {"0.0e5", 0}, {"1.0", one}, {"1.5", 0x3ff8 << 48}, {"00.50", 0x3fe << 52}, {"0.1", 0x3fb999999999999a},
		{"10.0e-1", one}, {"0.1e1", one}, {"0.1e+1", one}, {"0.1e01", one}, {"0.1e+00000001", one}, {"1.0e-0", one}, {"1.0e00", one},
		{"3.141592653589793", 0x400921fb54442d18},
		// The ends, as near two reals or nearly so.
		{"1.7976931348623157e308", greatest}, {"1.7976931348623158e308", greatest}, {"1.7976931348623159e308", inf},
		{"4.9406564584124654e-324", smallest}, {"2.47032822920623272e-324", 0}, {"2.4703282292062328e-324", smallest},
		{"2.2250738585072011e-308", 1<<52 - 1}, {"2.2250738585072014e-308", 1 << 52},
		{"9007199254740993.0", 0x434 << 52}, {"9007199254740995.0", 0x434<<52 + 2}, {"9007199254740993.00000000000000000000001", 0x434<<52 + 1},
		// Far beyond them.
		{"1.0e309", inf}, {"1.0e999", inf}, {"1.0e10000", inf}, {"1.0e" + nines, inf}, {"1.0e+" + nines, inf},
		{"1.0e-999", 0}, {"1.0e-10000", 0}, {"1.0e-" + nines, 0}, {"0.0e" + nines, 0}, {"0.0e-" + nines, 0},
		// e and a number that take away what the digits give.
		{"1000000000000000000000000000000.0e-30", one}, {"0.0000000000000000000000000000001e31", one}, {"0.000000000000000000001e329", 0x7fe1ccf385ebc8a0},
	} {
		if x := parse(t, c.s); x != c.want {
			t.Errorf("P2.1: Parse(%q) = %#x, want %#x", c.s, x, c.want)
		}
	}
}

func TestParseByWholeNumbers(t *testing.T) {
	texts := []string{}
	for i, a := range anyBits(1500) {
		digits := fmt.Sprintf("%d%d", a, a*0x9e3779b97f4a7c15+1)
		point := 1 + i%20
		behind := 1 + i%7*2
		texts = append(texts, fmt.Sprintf("%s.%se%d", digits[:point], digits[point:point+behind], int(a>>40%700)-350))
		texts = append(texts, fmt.Sprintf("%s.%s", digits[:point], digits[point:point+behind]))
	}
	// What lies between two whole reals of 54 bits, as near both.
	for i := range uint64(100) {
		texts = append(texts, fmt.Sprintf("%d.%de+0", 1<<53+2*i+1, 0), fmt.Sprintf("%d.5", 1<<52+i))
	}
	for _, s := range texts {
		n, ok := new(big.Rat).SetString(s)
		if !ok {
			t.Fatalf("%q is no number", s)
		}
		if x, want := parse(t, s), nearest(shift(n.Num()), n.Denom(), 0); x != want {
			t.Errorf("P2.1: Parse(%q) = %#x, want %#x", s, x, want)
		}
	}
}

func TestParseAtFortyBytes(t *testing.T) {
	for _, c := range []struct {
		head, tail string
		want       uint64
	}{
		{"1.", "", one}, {"", "1.0", one}, {"", "1.0e+0", one}, {"1.0e", "", one}, {"1.0e-", "", one}, {"1.5e", "1", 0x402e << 48},
	} {
		for n := 36; n <= 40; n++ {
			s := c.head + strings.Repeat("0", n-len(c.head)-len(c.tail)) + c.tail
			if x := parse(t, s); x != c.want {
				t.Errorf("P2.1: Parse(%q), %d bytes, = %#x, want %#x", s, n, x, c.want)
			}
		}
		for _, n := range []int{41, 42, 43, 64, 1000, 100000} {
			s := c.head + strings.Repeat("0", n-len(c.head)-len(c.tail)) + c.tail
			if x, e := Parse(s); x != 0 || e != api.ErrForm {
				t.Errorf("P2.1: Parse of %d bytes (%.44s) = %#x, %d, want 0, ErrForm", n, s, x, e)
			}
		}
	}
}

func TestParseRefusesWhatIsNoText(t *testing.T) {
	for _, s := range []string{
		"", ".", "e", "1", "12", ".5", "5.", "1e5", "1.e5", ".5e5", "1.5e", "1.5e+", "1.5e-", "1.5e+-1", "1.5e++1", "1.5e1.0", "1.5e1e1",
		"1.5E1", "1.5e 1", "-1.5", "+1.5", "-0.0", " 1.5", "1.5 ", "1 .5", "1. 5", "1.5\n", "\t1.5", "1.5\x00", "\x001.5", "1,5", "1..5", "1.5.5", "1:5", "1/5",
		"1_0.0", "1.0_0", "1.0e1_0", "_1.0", "0x1.0", "0x1.0p0", "1.0p1", "0x1p-2", "1.5f", "1.5d0", "a.b", "1.a", "a.1", "1.5e1a", "1.5ea", "1.5a", "1.5+", "1.5-1", "1.5+1",
		"inf", "Inf", "+Inf", "-inf", "infinity", "NaN", "nan", "0b1.0", "0o7.0", "1/2", "1.0/2.0", "1.5i",
		"１.５", "1.٣", "1．5", "1.5е1", "1.5e−1", "\xff", "1.\xff", "1.5e\xff", ":.0", "/.0", "1.:", "1./", "1.0e:", "1.0e/",
	} {
		if x, e := Parse(s); x != 0 || e != api.ErrForm {
			t.Errorf("P2.1: Parse(%q) = %#x, %d, want 0, ErrForm", s, x, e)
		}
	}
}

// Every byte that may stand nowhere, at every place of a text, and every place without its byte.
func TestParseRefusesEveryOtherByte(t *testing.T) {
	const s = "12.34e+56"
	for at := range len(s) {
		for b := range 256 {
			if strings.IndexByte("0123456789.e+-", byte(b)) >= 0 {
				continue
			}
			bad := s[:at] + string([]byte{byte(b)}) + s[at+1:]
			if x, e := Parse(bad); x != 0 || e != api.ErrForm {
				t.Errorf("P2.1: Parse(%q) = %#x, %d, want 0, ErrForm", bad, x, e)
			}
		}
	}
}

func TestHex(t *testing.T) {
	for _, c := range []struct {
		a    uint64
		want string
	}{
		{0, "0000000000000000"}, {1, "0000000000000001"}, {negZero, "8000000000000000"}, {one, "3ff0000000000000"},
		{0x0123456789abcdef, "0123456789abcdef"}, {0xbfedcba987654321, "bfedcba987654321"},
		{inf, "7ff0000000000000"}, {negInf, "fff0000000000000"}, {greatest, "7fefffffffffffff"},
	} {
		if s := Hex(c.a); s != c.want {
			t.Errorf("P2.1: Hex(%#x) = %q, want %q", c.a, s, c.want)
		}
	}
	for _, a := range nans() {
		if s := Hex(a); s != "7ff8000000000000" {
			t.Errorf("P2.1: Hex(%#x) = %q", a, s)
		}
	}
}

func TestUnhexRefusesWhatIsNoText(t *testing.T) {
	texts := []string{
		"", "0", "1", "3ff", "3ff000000000000", "3ff00000000000000", "03ff0000000000000", "00000000000000000", strings.Repeat("0", 32), strings.Repeat("0", 100000),
		"3FF0000000000000", "3fF0000000000000", "ABCDEF0000000000", "000000000000000A", "0x3ff00000000000", "0X00000000000000",
		"+ff0000000000000", "-ff0000000000000", "+000000000000000", " 3ff000000000000", "3ff000000000000 ", "3ff0 00000000000", "3ff0_00000000000",
		"3ff000000000000g", "`ff0000000000000", "/ff0000000000000", ":ff0000000000000", "@ff0000000000000", "3ff000000000000\x00", "3ff000000000000\n",
		"3ff00000000000\xc3\xa9", "３ff0000000000", "1.5", "NaN", "inf",
	}
	for _, a := range nans() {
		if a != theNaN {
			texts = append(texts, fmt.Sprintf("%016x", a))
		}
	}
	for _, s := range texts {
		if x, e := Unhex(s); x != 0 || e != api.ErrForm {
			t.Errorf("P2.1: Unhex(%.20q) = %#x, %d, want 0, ErrForm", s, x, e)
		}
	}
}

func TestUnhexRefusesEveryOtherByte(t *testing.T) {
	const s = "3fedcba987654321"
	for at := range len(s) {
		for b := range 256 {
			bad := s[:at] + string([]byte{byte(b)}) + s[at+1:]
			if _, e := Unhex(bad); (e == api.OK) != (strings.IndexByte("0123456789abcdef", byte(b)) >= 0 && bad[:3] != "fff" && bad[:3] != "7ff") {
				t.Errorf("P2.1: Unhex(%q): %d", bad, e)
			}
		}
	}
}

func TestHexAndUnhexLeadThereAndBack(t *testing.T) {
	for _, a := range append(edges(), anyBits(2000)...) {
		s := Hex(a)
		if want := fmt.Sprintf("%016x", Canon(a)); s != want {
			t.Errorf("P2.1: Hex(%#x) = %q, want %q", a, s, want)
		}
		x, e := Unhex(s)
		if x != Canon(a) || e != api.OK {
			t.Errorf("P2.3: Unhex(Hex(%#x)) = %#x, %d", a, x, e)
		}
		if back := Hex(x); back != s {
			t.Errorf("P2.3: Hex(Unhex(%q)) = %q", s, back)
		}
	}
	if x, e := Unhex("7ff8000000000000"); x != theNaN || e != api.OK {
		t.Errorf("P2.3: Unhex of NaN = %#x, %d", x, e)
	}
}
