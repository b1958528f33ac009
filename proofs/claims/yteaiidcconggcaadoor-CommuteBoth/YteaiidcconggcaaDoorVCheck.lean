/- The contracts of a state's numberFits, mostRows, keyFits, checkRow. -/
import Derived.Test.YteaiidcconggcaaDoorVWords
import Derived.Test.YteaiidcconggcaaDoorAFirst
import Derived.BigQuiet
namespace Go.Proofs.YteaiidcconggcaaDoor
open Go.RowKit
set_option linter.unusedVariables false
set_option maxRecDepth 100000

def VS.numOk (s : VS) : Bool := if s.kind = 2 then decide (s.rows.length = 0) else if s.kind = 3 then decide (s.rows.length = 0) && decide (0 ≤ s.n) else decide (s.n = 0)
def VS.most (s : VS) : Nat := if s.kind = 1 then 1 else 8
def VS.key (s : VS) (i : Nat) : List UInt8 := (s.rows.getD i ([], [])).1
def VS.val (s : VS) (i : Nat) : List UInt8 := (s.rows.getD i ([], [])).2
def VS.keyOk (s : VS) (i : Nat) : Bool :=
  if s.kind = 1 then decide (s.key i ≠ [])
  else if s.kind = 4 ∨ s.kind = 5 then decide (i = 0) || Codec.lt (s.key (i - 1)) (s.key i)
  else if s.kind = 7 then decide (i = 0) || !Codec.lt (s.key i) (s.key (i - 1))
  else true
def VS.rowErr (s : VS) (i : Nat) : Int :=
  if 24 < (s.key i).length ∨ 24 < (s.val i).length then 3
  else if s.val i ≠ [] ∧ s.kind ≠ 5 ∨ s.keyOk i = false then 2 else 0
def VS.check (s : VS) : Int :=
  if s.kind < 1 ∨ 7 < s.kind then 6 else if s.numOk = false then 2 else if s.most < s.rows.length then 7 else first s.rowErr s.rows.length

theorem S_not_lt (a b : List UInt8) : (!Op.bytesLess (S a).toList (S b).toList) = !Codec.lt a b := by rw [S_lt]

/- A box of three cells, and one of two behind it. -/
theorem box32 (w : World) (a b c d e : Value) (t t' : TypeId) : ((w.alloc (.cells #[a, b, c] t)).alloc (.cells #[d, e] t')).cell? ⟨w.heap.size, 0, none⟩ = some a ∧ ((w.alloc (.cells #[a, b, c] t)).alloc (.cells #[d, e] t')).cell? ⟨w.heap.size, 1, none⟩ = some b ∧ ((w.alloc (.cells #[a, b, c] t)).alloc (.cells #[d, e] t')).cell? ⟨w.heap.size, 2, none⟩ = some c := by
  refine ⟨?_, ?_, ?_⟩ <;> simp

end Go.Proofs.YteaiidcconggcaaDoor
