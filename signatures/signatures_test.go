// Package signatures holds the calls that the chapters list against the packages: it builds only while each is there as told.
package signatures

import (
	"testing"

	"collator/api"
	"collator/atom"
	"collator/chain"
	"collator/dag"
	"collator/elab"
	"collator/euf"
	"collator/eval"
	"collator/frac"
	"collator/lia"
	"collator/model"
	"collator/normal"
	"collator/print"
	"collator/sat"
	"collator/scope"
	"collator/score"
	"collator/shrink"
	"collator/shuffle"
	"collator/simplex"
	"collator/solve"
	"collator/tale"
	"collator/token"
	"collator/tree"
	"collator/walk"
	"collator/whole"
)

// Layers 1 to 3: numbers.
var (
	_ func(int64) api.Int                   = whole.Of
	_ func(api.Int) bool                    = whole.Right
	_ func(x, y api.Int) int                = whole.Cmp
	_ func(x, y api.Int) api.Int            = whole.Add
	_ func(api.Int) api.Int                 = whole.Neg
	_ func(x, y api.Int) api.Int            = whole.Mul
	_ func(x, y api.Int) (api.Int, api.Int) = whole.Div
	_ func(x, y api.Int) api.Int            = whole.Gcd
	_ func(api.Int) string                  = whole.Text
	_ func(string) (api.Int, bool)          = whole.Parse
	_ func(api.Int) (int, bool)             = whole.Small
	_ func(api.Int) api.Frac                = frac.Of
	_ func(x, y api.Int) api.Frac           = frac.Make
	_ func(api.Frac) bool                   = frac.Right
	_ func(x, y api.Frac) api.Frac          = frac.Add
	_ func(x, y api.Frac) api.Frac          = frac.Mul
	_ func(x, y api.Frac) api.Frac          = frac.Div
	_ func(api.Frac) api.Frac               = frac.Neg
	_ func(x, y api.Frac) int               = frac.Cmp
	_ func(api.Frac) (api.Int, bool)        = frac.Floor
	_ func(api.Frac) string                 = frac.Text
	_ func(int, float64) *score.Table       = score.New
	_ func(*score.Table, int) bool          = (*score.Table).Bump
	_ func(*score.Table)                    = (*score.Table).Fade
	_ func(*score.Table, int, float64) bool = (*score.Table).Set
	_ func(*score.Table, int) float64       = (*score.Table).Score
	_ func(*score.Table) float64            = (*score.Table).Step
	_ func(*score.Table, []int) (int, bool) = (*score.Table).Best
	_ func(x, y float64) bool               = score.Less
	_ func(float64) uint64                  = score.Bits
	_ func(uint64) float64                  = score.Of
)

// Layers 4 to 8: texts, terms, names.
var (
	_ func([]byte, int) ([]api.Token, api.Fault)                      = token.Read
	_ func(api.Token) (string, bool)                                  = token.Word
	_ func([]api.Token, int) ([]api.Tree, api.Fault)                  = tree.Read
	_ func(api.Tree) (string, bool)                                   = tree.Text
	_ func(api.Tree) int                                              = tree.Size
	_ func(int) *dag.Arena                                            = dag.New
	_ func(*dag.Arena, string, ...int) (int, api.Errno)               = (*dag.Arena).Sort
	_ func(*dag.Arena, api.Fun) (int, api.Errno)                      = (*dag.Arena).Fun
	_ func(*dag.Arena, api.Term) (int, api.Errno)                     = (*dag.Arena).Term
	_ func(*dag.Arena) []api.Sort                                     = (*dag.Arena).Sorts
	_ func(*dag.Arena) []api.Fun                                      = (*dag.Arena).Funs
	_ func(*dag.Arena, int) (api.Term, bool)                          = (*dag.Arena).At
	_ func(*dag.Arena, int) int                                       = (*dag.Arena).Of
	_ func(*dag.Arena) int                                            = (*dag.Arena).Len
	_ func(*dag.Arena, int) bool                                      = (*dag.Arena).Constant
	_ func(api.Term) uint64                                           = dag.Hash
	_ func(*dag.Arena) [][]int                                        = (*dag.Arena).Buckets
	_ func(*dag.Arena, ...int) ([]int, api.Errno)                     = walk.Order
	_ func(*dag.Arena, ...int) ([]int, api.Errno)                     = walk.Counts
	_ func(*dag.Arena, int) (api.Int, api.Errno)                      = walk.Tree
	_ func(*dag.Arena, int) (int, api.Errno)                          = walk.Deep
	_ func(to, from *dag.Arena, f []int, r ...int) ([]int, api.Errno) = walk.Copy
	_ func(*dag.Arena, int, map[int]int) (int, api.Errno)             = walk.Replace
	_ func() *scope.Table[int]                                        = scope.New[int]
	_ func(*scope.Table[int], string, int) api.Errno                  = (*scope.Table[int]).Bind
	_ func(*scope.Table[string], string) (string, bool)               = (*scope.Table[string]).Find
	_ func(*scope.Table[int], int) api.Errno                          = (*scope.Table[int]).Push
	_ func(*scope.Table[int], int) api.Errno                          = (*scope.Table[int]).Pop
	_ func(*scope.Table[int]) int                                     = (*scope.Table[int]).Levels
	_ func(*scope.Table[int]) []string                                = (*scope.Table[int]).Names
)

// Layers 9 to 14: scripts.
var (
	_                                                                    = elab.Script{Arena: (*dag.Arena)(nil), Commands: []api.Command(nil)}
	_ func([]byte, api.Limits) (*elab.Script, api.Fault)                 = elab.Read
	_ func(*elab.Script) api.Dump                                        = (*elab.Script).Dump
	_ func(api.Dump) (*elab.Script, api.Errno)                           = elab.Load
	_ func(*elab.Script) [][]int                                         = (*elab.Script).Asserted
	_ func(*elab.Script) (string, api.Errno)                             = print.Script
	_ func(*elab.Script, int) (string, bool)                             = print.Sort
	_ func(*elab.Script, int) (string, bool)                             = print.Term
	_                                                                    = shuffle.Names{Sorts: []string(nil), Funs: []string(nil)}
	_ func(*elab.Script, []int) (*elab.Script, shuffle.Names, api.Errno) = shuffle.Script
	_ func(int, []int) ([]int, []int)                                    = shuffle.Order
	_                                                                    = normal.Sum{Terms: []int(nil), Times: []api.Int(nil), Const: api.Int{}}
	_ func(*elab.Script) (*elab.Script, api.Errno)                       = normal.Script
	_ func(*elab.Script, int) (normal.Sum, bool)                         = normal.Of
	_ func(*elab.Script, api.Model) bool                                 = eval.Right
	_ func(*elab.Script, api.Model) ([]api.Int, api.Errno)               = eval.All
	_ func(*elab.Script, int, api.Model) (bool, api.Errno)               = eval.True
	_ func(*elab.Script, []int) (api.Problem, api.Errno)                 = atom.Build
)

// Layers 15 to 20: what can be true.
var (
	_ func(int) *sat.Solver                                                          = sat.New
	_ func(*sat.Solver, []int) bool                                                  = (*sat.Solver).Add
	_ func(*sat.Solver, int) (verdict, used int)                                     = (*sat.Solver).Solve
	_ func(*sat.Solver, int) bool                                                    = (*sat.Solver).Value
	_ func(*sat.Solver) [][]int                                                      = (*sat.Solver).Learned
	_                                                                                = euf.Answer{Class: []int(nil), Same: []int(nil), Apart: 0}
	_ func(a *dag.Arena, terms []int, same, apart [][2]int) (euf.Answer, api.Errno)  = euf.Check
	_                                                                                = simplex.Row{Times: []api.Frac(nil), Most: api.Frac{}}
	_                                                                                = simplex.Answer{Values: []api.Frac(nil), Why: []api.Frac(nil)}
	_ func(int, []simplex.Row) (simplex.Answer, api.Errno)                           = simplex.Solve
	_                                                                                = lia.Row{Times: []api.Int(nil), Most: api.Int{}}
	_                                                                                = lia.Answer{Verdict: 0, Values: []api.Int(nil), Rows: []int(nil), Used: 0}
	_ func(int, []lia.Row, int) (lia.Answer, api.Errno)                              = lia.Solve
	_ func(a *dag.Arena, terms, class []int, given []api.Int) (api.Model, api.Errno) = model.Build
	_ func(*dag.Arena, api.Model) string                                             = model.Text
	_                                                                                = solve.Answer{Verdict: 0, Model: api.Model{}, Used: 0}
	_ func(s *elab.Script, check, fuel int) (solve.Answer, api.Errno)                = solve.Check
)

// Layers 21 to 23: what is done with scripts.
var (
	_ func(*elab.Script, int) []int                                         = shrink.Verdicts
	_ func(*elab.Script, int) (*elab.Script, bool)                          = shrink.Without
	_ func(s *elab.Script, command, term int) (*elab.Script, bool)          = shrink.With
	_ func(s *elab.Script, fuel, rounds int) (*elab.Script, int, api.Errno) = shrink.Script
	_ func([]byte, api.Limits, []api.Step) string                           = chain.Run
	_ func(*elab.Script, api.Step) (*elab.Script, string, api.Errno)        = chain.Do
	_ func(api.Step) string                                                 = tale.Line
	_ func(string) (api.Step, api.Errno)                                    = tale.Read
	_ func([]byte, api.Limits, []string) (string, api.Errno)                = tale.Play
)

// What is told above is asked when this builds; the test is there so that it is built.
func TestSignatures(t *testing.T) {}
