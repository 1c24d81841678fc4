// Package calls holds the layers' packages to the calls and types that the chapters list: if one has another
// form, this package doesn't compile.
package calls

import (
	"testing"

	"solder/api"
	"solder/bind"
	"solder/check"
	"solder/code"
	"solder/color"
	"solder/driver"
	"solder/fold"
	"solder/gen"
	"solder/irun"
	"solder/layout"
	"solder/lex"
	"solder/link"
	"solder/live"
	"solder/lower"
	"solder/machine"
	"solder/obj"
	"solder/opt"
	"solder/parse"
	"solder/patch"
	"solder/real"
	"solder/resolve"
	"solder/sem"
	"solder/word"
)

// Layers 1 to 4.
var (
	_ func(int, uint32, uint32) (uint32, api.Errno) = word.Do
	_ func(uint32) int                              = word.Signed
	_ func(int) uint32                              = word.Of
	_ func(uint32, int) (uint32, api.Errno)         = word.Extend

	_ func(uint64) uint64                           = real.Canon
	_ func(int, uint64, uint64) (uint64, api.Errno) = real.Do
	_ func(int, uint64, uint64) (uint32, api.Errno) = real.Compare
	_ func(uint64) uint64                           = real.Neg
	_ func(uint32) uint64                           = real.OfInt
	_ func(uint64) uint32                           = real.ToInt
	_ func(string) (uint64, api.Errno)              = real.Parse
	_ func(uint64) string                           = real.Hex
	_ func(string) (uint64, api.Errno)              = real.Unhex

	_ func(api.Instr) (uint32, api.Errno) = code.Encode
	_ func(uint32) (api.Instr, api.Errno) = code.Decode
	_ func(int, int) bool                 = code.Fits

	_ func(api.Image, int) (*machine.Machine, api.Errno)   = machine.Load
	_ func(*machine.Machine, []uint32, int) api.Result     = (*machine.Machine).Run
	_ func(*machine.Machine, int) uint32                   = (*machine.Machine).Word
	_ func(*machine.Machine, int) uint64                   = (*machine.Machine).Real
	_ func(*machine.Machine) uint32                        = (*machine.Machine).Place
	_ func(*machine.Machine, int, int) ([]byte, api.Errno) = (*machine.Machine).Bytes
)

// Layers 5 to 9.
var (
	_ func(api.Object) api.Errno           = obj.Check
	_ func(api.Object) (string, api.Errno) = obj.Print
	_ func(string) (api.Object, api.Errno) = obj.Parse
	_ func(string) bool                    = obj.Name
	_ func(api.Object, api.Object) bool    = obj.Same

	_                                                                    = resolve.Target{Obj: 0, Sym: 0}
	_ func([]api.Object) ([][]resolve.Target, resolve.Target, api.Errno) = resolve.Resolve
	_ func([]api.Object) (resolve.Target, api.Errno)                     = resolve.Main
	_ func([]api.Object) []string                                        = resolve.Needs

	_                                                     = layout.Place{Text: 0, Data: 0}
	_ func([]api.Object) ([]layout.Place, int, api.Errno) = layout.Layout
	_ func(layout.Place, api.Sym) uint32                  = layout.Address
	_ func(layout.Place, api.Rel) uint32                  = layout.Where

	_ func(int, uint32, uint32, uint32) (uint32, api.Errno) = patch.Patch
	_ func(uint32) int                                      = patch.Hi
	_ func(uint32) int                                      = patch.Lo

	_                                              = link.Named{Name: "", Address: uint32(0), Frame: 0}
	_ func([]api.Object) (api.Image, api.Errno)    = link.Link
	_ func([]api.Object) ([]link.Named, api.Errno) = link.Symbols
)

// Layers 10 to 15.
var (
	_ func(string) ([]api.Token, int, api.Errno) = lex.Lex

	_ func(string) (api.Module, int, api.Errno) = parse.Parse
	_ func(api.Module) string                   = parse.Show

	_ func(api.Module) (api.Module, int, api.Errno) = check.Check

	_                                                              = fold.Const{Type: 0, Word: uint32(0), Bits: uint64(0), Name: "", Off: 0}
	_ func(api.Module, api.Expr) (fold.Const, int, api.Errno)      = fold.Eval
	_ func(api.Module) ([]api.Datum, int, api.Errno)               = fold.Data
	_ func(string, fold.Const, fold.Const) (fold.Const, api.Errno) = fold.Binary
	_ func(string, fold.Const) (fold.Const, api.Errno)             = fold.Unary

	_ func([]api.Module) (api.Module, int, api.Errno) = bind.Bind
	_ func(api.Module) ([]string, []string)           = bind.Faces

	_ func(api.Module, []uint32, int) api.Result           = sem.Run
	_ func(api.Module, []uint32, int, []string, []int) int = sem.Peak
)

// Layers 16 to 22.
var (
	_ func([]api.Unit, []uint32, int) api.Result = irun.Run
	_ func(api.Fun) bool                         = irun.Good

	_ func(api.Module) (api.Unit, int, api.Errno) = lower.Lower

	_ func(api.Fun) api.Fun   = opt.Fun
	_ func(api.Unit) api.Unit = opt.Unit

	_ func(api.Fun) [][]int  = live.Live
	_ func(api.Fun) [][2]int = live.Clashes
	_ func(api.Fun) []int    = live.Across

	_ func(api.Fun, int, int) ([]int, api.Errno) = color.Color
	_ func(api.Fun, []int, int, int) bool        = color.Good

	_ func(api.Unit) (api.Object, api.Errno) = gen.Object
	_ func(api.Fun) int                      = gen.Words

	_                                                                    = driver.Fault{Module: 0, At: 0}
	_ func(string) (api.Object, int, api.Errno)                          = driver.Translate
	_ func(...string) (api.Image, driver.Fault, api.Errno)               = driver.Build
	_ func(...string) ([]api.Object, driver.Fault, api.Errno)            = driver.Objects
	_ func([]api.Object, ...string) (api.Image, driver.Fault, api.Errno) = driver.Join
)

// The types alone hold the forms; a test must be there for them to be compiled under go test.
func TestCallsHaveTheirForms(*testing.T) {}
