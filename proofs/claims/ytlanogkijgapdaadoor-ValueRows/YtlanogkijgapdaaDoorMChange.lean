/- What a call changes, by how many rows; the document's. -/
import Derived.Test.YtlanogkijgapdaaDoorMFacts
namespace Go.Proofs.YtlanogkijgapdaaDoor
open Go.RowKit
set_option linter.unusedVariables false
set_option maxRecDepth 100000

def mchanges (op n code : Int) : Bool :=
  if op = 2 ∨ op = 5 ∨ op = 14 ∨ op = 16 then true
  else if op = 3 then !decide (n = 0)
  else if op = 6 ∨ op = 8 ∨ op = 9 ∨ op = 11 ∨ op = 12 ∨ op = 15 ∨ op = 17 then decide (code = 1)
  else false
def mgrowth (op n code : Int) : Int :=
  if mchanges op n code = true then (if op = 8 ∨ op = 11 ∨ op = 14 ∨ op = 16 then 1 else if op = 9 ∨ op = 12 ∨ op = 15 ∨ op = 17 then -1 else 0) else 0
def mcV (c : MC) : Value := .agg #[.int .i64 c.op, .string (S c.a), .string (S c.b), .int .i64 c.n]
def mrV (r : MR) : Value := .agg #[.int .i64 r.code, .string (S r.text), .int .i64 r.n]
theorem mtwo_boxes (w : World) (o o' : Obj) : Below w.heap.size w ((w.alloc o).alloc o') := ((Below.refl _ _).alloc (Nat.le_refl _) _).alloc (by simp) _

end Go.Proofs.YtlanogkijgapdaaDoor
