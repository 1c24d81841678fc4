// Package rels tells which instructions relocations patch. Layers 5 and 8 both ask it: see shared/doc/05-obj.md and
// shared/doc/08-patch.md.
package rels

import (
	"solder/api"
	"solder/code"
)

// At answers the instruction whose word w is, and whether it is one that a relocation of this Kind patches.
func At(kind int, w uint32) (api.Instr, bool) {
	i, e := code.Decode(w)
	if e != api.OK || i.Imm != 0 || !isOfKind(kind, i.Op) {
		return api.Instr{}, false
	}
	return i, true
}

// isOfKind tells whether relocations of this Kind patch instructions of op.
func isOfKind(kind, op int) bool {
	switch op {
	case api.LUI:
		return kind == api.RHi
	case api.ADDI, api.SLTI, api.SLTIU, api.XORI, api.ORI, api.ANDI, api.LB, api.LBU, api.LW, api.JALR, api.FLD:
		return kind == api.RLoI
	case api.SB, api.SW, api.FSD:
		return kind == api.RLoS
	case api.JAL:
		return kind == api.RJal
	case api.BEQ, api.BNE, api.BLT, api.BGE, api.BLTU, api.BGEU:
		return kind == api.RBranch
	}
	return false
}
