package rels_test

import (
	"math"
	"testing"

	"solder/api"
	"solder/rels"
)

// All operations are asked for by the tests of the layers that use this; here are the kinds, and what is answered beside a no.
func TestAt(t *testing.T) {
	for _, c := range []struct {
		kind int
		w    uint32
		want api.Instr
	}{
		{api.RHi, 0x000002b7, api.Instr{Op: api.LUI, Rd: 5}},
		{api.RLoI, 0x00010093, api.Instr{Op: api.ADDI, Rd: 1, Rs1: 2}},
		{api.RLoS, 0x01f5a023, api.Instr{Op: api.SW, Rs1: 11, Rs2: 31}},
		{api.RJal, 0x000000ef, api.Instr{Op: api.JAL, Rd: 1}},
		{api.RBranch, 0x0192f063, api.Instr{Op: api.BGEU, Rs1: 5, Rs2: 25}},
	} {
		for _, kind := range []int{0, 1, 2, 3, 4, 5, 6, 7, -1, 1 << 32, 1<<32 + c.kind, math.MaxInt, math.MinInt} {
			want := c.want
			if kind != c.kind {
				want = api.Instr{}
			}
			if i, is := rels.At(kind, c.w); i != want || is != (kind == c.kind) {
				t.Errorf("P8.1: At(%d, %#08x) = %v, %t, want %v", kind, c.w, i, is, want)
			}
		}
	}
}

func TestAtNone(t *testing.T) {
	for what, w := range map[string]uint32{
		"no instruction": 0, "an Imm of LUI": 0x000012b7, "an Imm of ADDI": 0xfff10093, "AUIPC": 0x00000017, "SLLI": 0x00001013, "ADD": 0x002081b3, "ECALL": 0x00000073,
	} {
		for kind := -1; kind < 8; kind++ {
			if i, is := rels.At(kind, w); is || i != (api.Instr{}) {
				t.Errorf("P8.1: %s: At(%d, %#08x) = %v, %t", what, kind, w, i, is)
			}
		}
	}
}
