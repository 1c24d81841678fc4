package trees_test

import (
	"math"
	"slices"
	"testing"

	"solder/api"
	"solder/trees"
)

func TestTypes(t *testing.T) {
	for typed := -2; typed < 8; typed++ {
		if got, want := trees.IsNumber(typed), slices.Contains([]int{api.Int, api.Real}, typed); got != want {
			t.Errorf("P12.1: IsNumber(%d) = %t", typed, got)
		}
		if got, want := trees.IsPointer(typed), slices.Contains([]int{api.PInt, api.PReal}, typed); got != want {
			t.Errorf("P12.1: IsPointer(%d) = %t", typed, got)
		}
	}
	for number, pointer := range map[int]int{api.Int: api.PInt, api.Real: api.PReal} {
		if got := trees.PointerTo(number); got != pointer {
			t.Errorf("P12.1: PointerTo(%d) = %d, want %d", number, got, pointer)
		}
		if got := trees.Pointed(pointer); got != number {
			t.Errorf("P12.1: Pointed(%d) = %d, want %d", pointer, got, number)
		}
	}
}

func TestKids(t *testing.T) {
	want := map[int]int{api.ENum: 0, api.EReal: 0, api.EName: 0, api.EUnary: 1, api.ECast: 1, api.EBinary: 2, api.EAssign: 2, api.EIndex: 2}
	for _, kind := range []int{math.MinInt, -1, 0, 1, 2, 3, 4, 5, 6, 7, 8, 9, 10, 1 << 32, 1<<32 + api.ENum, math.MaxInt} {
		for n := range 10 {
			kids, listed := want[kind]
			if got := trees.IsExpr(api.Expr{Kind: kind, Kids: make([]api.Expr, n)}); got != (listed && n == kids || kind == api.ECall) {
				t.Errorf("P11.1: of Kind %d with %d Kids: IsExpr = %t", kind, n, got)
			}
		}
	}
}
