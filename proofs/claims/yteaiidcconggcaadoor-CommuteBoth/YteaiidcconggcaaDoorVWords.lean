/- The types' words: Word, Kind, New. -/
import Derived.Test.YteaiidcconggcaaDoorVBase
import Derived.Test.YteaiidcconggcaaDoorALess
namespace Go.Proofs.YteaiidcconggcaaDoor
open Go.RowKit
set_option linter.unusedVariables false
set_option maxRecDepth 100000

def words : List (List UInt8) := [[], [114, 101, 103, 105, 115, 116, 101, 114], [99, 111, 117, 110, 116, 101, 114], [97, 99, 99, 111, 117, 110, 116], [115, 101, 116], [100, 105, 114, 101, 99, 116, 111, 114, 121], [113, 117, 101, 117, 101], [115, 101, 109, 105, 113, 117, 101, 117, 101]]
/- The program's table lies in its block. -/
def WD (w : World) : Prop := ∀ k, (h : k < words.length) → w.cell? ⟨0, k, none⟩ = some (.string (S (words[k]'h)))
theorem WD.pos {w : World} (h : WD w) : 0 < w.heap.size := cell_lt (h 0 (by decide))
theorem WD.later {w w' : World} (h : WD w) (hb : Below w.heap.size w w') : WD w' := fun k hk => by
  rw [hb.cell (p := ⟨0, k, none⟩) h.pos]; exact h k hk

def wordOf (kind : Int) : List UInt8 := if kind < 0 ∨ 8 ≤ kind then [] else words.getD kind.toNat []

def kindFrom : Nat → List (List UInt8) → List UInt8 → Int
  | _, [], _ => 0
  | k, x :: r, y => if x = y then (k : Int) else kindFrom (k + 1) r y
def kindOf (y : List UInt8) : Int := kindFrom 0 words y
theorem kindFrom_step (k : Nat) (hk : k < words.length) (y : List UInt8) : kindFrom k (words.drop k) y = if words[k]'hk = y then (k : Int) else kindFrom (k + 1) (words.drop (k + 1)) y := by
  rw [List.drop_eq_getElem_cons hk]; rfl

end Go.Proofs.YteaiidcconggcaaDoor
