package fold_test

import (
	"math"
	"slices"
	"testing"

	"solder/api"
	"solder/fold"
)

func binaryOps() []string {
	return []string{"+", "-", "*", "/", "%", "<<", ">>", "<", "<=", ">", ">=", "==", "!=", "&", "^", "|", "&&", "||"}
}

// noOps are texts that are no operator of two, nor of one but for the first of them.
func noOps() []string {
	return []string{"!", "~", "", "=", " ", "+ ", " +", "++", "--", "**", "//", "+=", "==>", "===", "!==", "<>", "=<", "=>", "<<<", ">>>", "&&&", "|||", "&|", "^^", "%%", "!!", "~~", "and", "ADD", "1", "(", "[]", "->", "?", "\x00", "+\x00", "−", "×", "if"}
}

// unaryIs says what an operator of one answers.
func unaryIs(t *testing.T, op string, a fold.Const) {
	t.Helper()
	want, e := modelUnary(op, valueOf(a)), api.OK
	if want.is == '?' {
		e = api.ErrConst
	}
	if got, ge := fold.Unary(op, a); got != want.constant() || ge != e {
		t.Errorf("P13.1: Unary(%q, %v) = %v, %d, want %v, %d", op, a, got, ge, want.constant(), e)
	}
}

// binaryIs says what an operator of two answers.
func binaryIs(t *testing.T, op string, a, b fold.Const) {
	t.Helper()
	want, e := modelBinary(op, valueOf(a), valueOf(b)), api.OK
	if want.is == '?' {
		e = api.ErrConst
	}
	if got, ge := fold.Binary(op, a, b); got != want.constant() || ge != e {
		t.Errorf("P13.1: Binary(%q, %v, %v) = %v, %d, want %v, %d", op, a, b, got, ge, want.constant(), e)
	}
}

func TestHandToldWords(t *testing.T) {
	const least, greatest = -1 << 31, 1<<31 - 1
	for _, c := range []struct {
		a    int
		op   string
		b    int
		want int
	}{
		{2, "+", 3, 5}, {greatest, "+", 1, least}, {-1, "+", 1, 0}, {least, "+", least, 0},
		{2, "-", 3, -1}, {0, "-", least, least}, {least, "-", 1, greatest},
		{65536, "*", 65536, 0}, {-3, "*", 7, -21}, {least, "*", -1, least},
		{7, "/", 2, 3}, {-7, "/", 2, -3}, {7, "/", -2, -3}, {-7, "/", -2, 3}, {7, "/", 0, -1}, {-7, "/", 0, -1}, {0, "/", 0, -1}, {least, "/", -1, least}, {least, "/", 1, least}, {greatest, "/", least, 0},
		{7, "%", 2, 1}, {-7, "%", 2, -1}, {7, "%", -2, 1}, {-7, "%", -2, -1}, {7, "%", 0, 7}, {-7, "%", 0, -7}, {0, "%", 0, 0}, {least, "%", -1, 0}, {least, "%", greatest, -1},
		{1, "<<", 31, least}, {1, "<<", 32, 1}, {1, "<<", 33, 2}, {3, "<<", -1, least}, {-1, "<<", 4, -16}, {5, "<<", 64, 5},
		{-8, ">>", 1, -4}, {-1, ">>", 31, -1}, {least, ">>", 31, -1}, {greatest, ">>", 31, 0}, {greatest, ">>", 30, 1}, {-8, ">>", 32, -8}, {-8, ">>", 33, -4}, {-8, ">>", -1, -1},
		{-1, "<", 1, 1}, {1, "<", -1, 0}, {1, "<", 1, 0}, {least, "<", greatest, 1}, {greatest, "<", least, 0},
		{-1, "<=", 1, 1}, {1, "<=", -1, 0}, {1, "<=", 1, 1}, {least, "<=", greatest, 1}, {greatest, "<=", least, 0},
		{-1, ">", 1, 0}, {1, ">", -1, 1}, {1, ">", 1, 0}, {least, ">", greatest, 0}, {greatest, ">", least, 1},
		{-1, ">=", 1, 0}, {1, ">=", -1, 1}, {1, ">=", 1, 1}, {least, ">=", greatest, 0}, {greatest, ">=", least, 1},
		{1, "==", 1, 1}, {1, "==", -1, 0}, {1, "!=", 1, 0}, {1, "!=", -1, 1}, {0, "==", 0, 1}, {least, "!=", 0, 1},
		{12, "&", 10, 8}, {12, "^", 10, 6}, {12, "|", 10, 14}, {-1, "&", 5, 5}, {-1, "^", 5, -6}, {least, "|", 1, least + 1},
		{2, "&&", 4, 1}, {2, "&&", 0, 0}, {0, "&&", 2, 0}, {0, "&&", 0, 0}, {least, "&&", -1, 1}, {256, "&&", 1 << 16, 1},
		{2, "||", 4, 1}, {2, "||", 0, 1}, {0, "||", 2, 1}, {0, "||", 0, 0}, {least, "||", 0, 1}, {0, "||", 1 << 16, 1},
	} {
		if got, e := fold.Binary(c.op, wordOf(c.a), wordOf(c.b)); got != wordOf(c.want) || e != api.OK {
			t.Errorf("P13.1: %d %s %d = %v, %d, want %d", c.a, c.op, c.b, got, e, c.want)
		}
	}
	for _, c := range []struct {
		op      string
		a, want int
	}{
		{"-", 5, -5}, {"-", 0, 0}, {"-", least, least}, {"-", greatest, least + 1}, {"-", -1, 1},
		{"!", 0, 1}, {"!", 1, 0}, {"!", -1, 0}, {"!", least, 0}, {"!", 256, 0},
		{"~", 0, -1}, {"~", -1, 0}, {"~", least, greatest}, {"~", 5, -6},
	} {
		if got, e := fold.Unary(c.op, wordOf(c.a)); got != wordOf(c.want) || e != api.OK {
			t.Errorf("P13.1: %s %d = %v, %d, want %d", c.op, c.a, got, e, c.want)
		}
	}
}

func TestHandToldReals(t *testing.T) {
	inf, nan, nought := math.Inf(1), math.NaN(), math.Copysign(0, -1)
	yes, no := wordOf(1), wordOf(0)
	none := bitsOf(0x7ff8 << 48)
	for _, c := range []struct {
		a    float64
		op   string
		b    float64
		want fold.Const
	}{
		{1.5, "+", 2, realOf(3.5)}, {0.1, "+", 0.2, realOf(0.30000000000000004)}, {inf, "+", -inf, none}, {nought, "+", nought, realOf(nought)}, {nought, "+", 0, realOf(0)}, {math.MaxFloat64, "+", math.MaxFloat64, realOf(inf)},
		{1.5, "-", 2, realOf(-0.5)}, {inf, "-", inf, none}, {0, "-", 0, realOf(0)}, {nought, "-", 0, realOf(nought)},
		{1.5, "*", 2, realOf(3)}, {0, "*", inf, none}, {nought, "*", 1, realOf(nought)}, {math.SmallestNonzeroFloat64, "*", 0.5, realOf(0)}, {-1e300, "*", 1e300, realOf(-inf)},
		{3, "/", 2, realOf(1.5)}, {1, "/", 0, realOf(inf)}, {1, "/", nought, realOf(-inf)}, {0, "/", 0, none}, {nought, "/", 1, realOf(nought)}, {1, "/", 3, realOf(0.3333333333333333)}, {1, "/", -inf, realOf(nought)},
		{1, "<", 2, yes}, {2, "<", 1, no}, {1, "<", 1, no}, {nought, "<", 0, no}, {nan, "<", 1, no}, {1, "<", nan, no}, {nan, "<", nan, no}, {-inf, "<", inf, yes},
		{1, "<=", 2, yes}, {2, "<=", 1, no}, {1, "<=", 1, yes}, {0, "<=", nought, yes}, {nan, "<=", 1, no}, {1, "<=", nan, no}, {nan, "<=", nan, no},
		{1, ">", 2, no}, {2, ">", 1, yes}, {1, ">", 1, no}, {0, ">", nought, no}, {nan, ">", 1, no}, {1, ">", nan, no}, {nan, ">", nan, no}, {inf, ">", -inf, yes},
		{1, ">=", 2, no}, {2, ">=", 1, yes}, {1, ">=", 1, yes}, {nought, ">=", 0, yes}, {nan, ">=", 1, no}, {1, ">=", nan, no}, {nan, ">=", nan, no},
		{1, "==", 1, yes}, {1, "==", 2, no}, {0, "==", nought, yes}, {nan, "==", nan, no}, {nan, "==", 1, no}, {inf, "==", inf, yes}, {inf, "==", -inf, no},
		{1, "!=", 1, no}, {1, "!=", 2, yes}, {0, "!=", nought, no}, {nan, "!=", nan, yes}, {nan, "!=", 1, yes}, {1, "!=", nan, yes}, {inf, "!=", inf, no},
	} {
		if got, e := fold.Binary(c.op, realOf(c.a), realOf(c.b)); got != c.want || e != api.OK {
			t.Errorf("P13.1: %v %s %v = %v, %d, want %v", c.a, c.op, c.b, got, e, c.want)
		}
	}
	for _, c := range []struct{ a, want float64 }{{1.5, -1.5}, {0, nought}, {nought, 0}, {inf, -inf}, {-inf, inf}, {math.SmallestNonzeroFloat64, -math.SmallestNonzeroFloat64}} {
		if got, e := fold.Unary("-", realOf(c.a)); got != realOf(c.want) || e != api.OK {
			t.Errorf("P13.1: - %v = %v, %d, want %v", c.a, got, e, c.want)
		}
	}
	for _, bits := range []uint64{0x7ff8000000000000, 0xfff8000000000000, 0x7ff0000000000001, 0xffffffffffffffff} {
		if got, e := fold.Unary("-", bitsOf(bits)); got != none || e != api.OK {
			t.Errorf("P13.1: - of the NaN %x = %v, %d", bits, got, e)
		}
		for _, op := range []string{"+", "-", "*", "/"} {
			for _, x := range []fold.Const{realOf(0), realOf(inf), bitsOf(bits)} {
				a, e := fold.Binary(op, bitsOf(bits), x)
				b, e2 := fold.Binary(op, x, bitsOf(bits))
				if a != none || b != none || e != api.OK || e2 != api.OK {
					t.Errorf("P13.1: %s of the NaN %x and %v = %v, %v", op, bits, x, a, b)
				}
			}
		}
	}
}

// Each operator, and each text that is none, of words and reals at their ends.
func TestOperatorsAtEnds(t *testing.T) {
	words, reals := ends(), realEnds()
	for _, op := range slices.Concat(binaryOps(), noOps()) {
		for _, a := range words {
			for _, b := range words {
				binaryIs(t, op, wordOf(int(a)), wordOf(int(b)))
			}
			unaryIs(t, op, wordOf(int(a)))
		}
		for _, a := range reals {
			for _, b := range reals {
				binaryIs(t, op, bitsOf(a), bitsOf(b))
			}
			unaryIs(t, op, bitsOf(a))
		}
	}
	for _, op := range noOps() {
		for _, x := range []fold.Const{wordOf(1), realOf(1)} {
			if got, e := fold.Binary(op, x, x); got != (fold.Const{}) || e != api.ErrConst {
				t.Errorf("P13.1: Binary(%q) = %v, %d", op, got, e)
			}
			if got, e := fold.Unary(op, x); (got != fold.Const{} || e != api.ErrConst) && !(x.Type == api.Int && (op == "!" || op == "~")) {
				t.Errorf("P13.1: Unary(%q) = %v, %d", op, got, e)
			}
		}
	}
}

// Which operators there are for which Types: told one by one.
func TestOperatorsByTypes(t *testing.T) {
	ofWords := binaryOps()
	ofReals := []string{"+", "-", "*", "/", "<", "<=", ">", ">=", "==", "!="}
	signs := slices.Concat(binaryOps(), noOps(), []string{"*", "&"})
	for _, op := range signs {
		for a := -2; a < 8; a++ {
			for b := -2; b < 8; b++ {
				e := api.ErrConst
				if a == api.Int && b == api.Int && slices.Contains(ofWords, op) || a == api.Real && b == api.Real && slices.Contains(ofReals, op) {
					e = api.OK
				}
				got, ge := fold.Binary(op, fold.Const{Type: a, Word: 5, Name: "a"}, fold.Const{Type: b, Word: 3})
				if ge != e || e != api.OK && got != (fold.Const{}) {
					t.Errorf("P13.1: Binary(%q) of the Types %d and %d: %v, %d, want %d", op, a, b, got, ge, e)
				}
			}
			e := api.ErrConst
			if a == api.Int && slices.Contains([]string{"-", "!", "~"}, op) || a == api.Real && op == "-" {
				e = api.OK
			}
			got, ge := fold.Unary(op, fold.Const{Type: a, Word: 5, Bits: 7, Name: "a", Off: 1})
			if ge != e || e != api.OK && got != (fold.Const{}) {
				t.Errorf("P13.1: Unary(%q) of the Type %d: %v, %d, want %d", op, a, got, ge, e)
			}
		}
	}
}

// Of words and reals alone: places and nothing have no operator here, whatever else is handed in.
func TestOperatorsOfPlaces(t *testing.T) {
	places := []fold.Const{intsAt("a", 1), realsAt("b", 0), {Type: api.PInt}, {Type: api.PReal}, {}, {Type: api.Void, Word: 1}}
	for _, op := range slices.Concat(binaryOps(), []string{"!", "~", "*", "&", "="}) {
		for _, a := range places {
			for _, b := range append(slices.Clone(places), wordOf(1), wordOf(0), realOf(1)) {
				for _, pair := range [][2]fold.Const{{a, b}, {b, a}} {
					if got, e := fold.Binary(op, pair[0], pair[1]); got != (fold.Const{}) || e != api.ErrConst {
						t.Errorf("P13.1: Binary(%q, %v, %v) = %v, %d", op, pair[0], pair[1], got, e)
					}
				}
			}
			if got, e := fold.Unary(op, a); got != (fold.Const{}) || e != api.ErrConst {
				t.Errorf("P13.1: Unary(%q, %v) = %v, %d", op, a, got, e)
			}
		}
	}
}

// What a Const has beside its word, or its bits, leads to nothing in an answer.
func TestOtherFieldsOfConsts(t *testing.T) {
	word := func(w uint32) fold.Const {
		return fold.Const{Type: api.Int, Word: w, Bits: 0x4000000000000000, Name: "a", Off: 7}
	}
	bits := func(x float64) fold.Const {
		return fold.Const{Type: api.Real, Word: 9, Bits: math.Float64bits(x), Name: "b", Off: -7}
	}
	for _, op := range binaryOps() {
		for _, a := range ends() {
			want, e := fold.Binary(op, wordOf(int(a)), wordOf(3))
			if got, ge := fold.Binary(op, word(a), word(3)); got != want || ge != e {
				t.Errorf("P13.1: Binary(%q) with other fields: %v, %d, want %v, %d", op, got, ge, want, e)
			}
		}
		for _, x := range []float64{0, 1, -2.5} {
			want, e := fold.Binary(op, realOf(x), realOf(1))
			if got, ge := fold.Binary(op, bits(x), bits(1)); got != want || ge != e {
				t.Errorf("P13.1: Binary(%q) with other fields: %v, %d, want %v, %d", op, got, ge, want, e)
			}
		}
	}
	for _, op := range []string{"-", "!", "~"} {
		want, e := fold.Unary(op, wordOf(5))
		if got, ge := fold.Unary(op, word(5)); got != want || ge != e {
			t.Errorf("P13.1: Unary(%q) with other fields: %v, %d, want %v, %d", op, got, ge, want, e)
		}
		want, e = fold.Unary(op, realOf(5))
		if got, ge := fold.Unary(op, bits(5)); got != want || ge != e {
			t.Errorf("P13.1: Unary(%q) with other fields: %v, %d, want %v, %d", op, got, ge, want, e)
		}
	}
}

// Asked again, operators answer the same.
func TestOperatorsAgain(t *testing.T) {
	type asked struct {
		op   string
		a, b uint32
	}
	first := map[asked]fold.Const{}
	for range 3 {
		for _, op := range binaryOps() {
			for _, a := range ends() {
				for _, b := range ends()[:8] {
					got, _ := fold.Binary(op, wordOf(int(a)), wordOf(int(b)))
					if want, has := first[asked{op, a, b}]; has && got != want {
						t.Errorf("P13.2: Binary(%q, %d, %d) = %v, and then %v", op, a, b, want, got)
					}
					first[asked{op, a, b}] = got
				}
			}
		}
	}
}
