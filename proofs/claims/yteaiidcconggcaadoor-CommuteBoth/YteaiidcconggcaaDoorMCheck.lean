/- May a call be asked, may an answer be: the program's, the document's. -/
import Derived.Test.YteaiidcconggcaaDoorMRefs
import Derived.Test.YteaiidcconggcaaDoorMChange
namespace Go.Proofs.YteaiidcconggcaaDoor
open Go.RowKit
set_option linter.unusedVariables false
set_option maxRecDepth 100000

theorem one_kept {w w1 : World} {a b c d : Value} {t : TypeId} (hb : Below (w.alloc (.cells #[a, b, c, d] t)).heap.size (w.alloc (.cells #[a, b, c, d] t)) w1) :
    (w1.cell? ⟨w.heap.size, 0, none⟩ = some a ∧ w1.cell? ⟨w.heap.size, 1, none⟩ = some b ∧ w1.cell? ⟨w.heap.size, 2, none⟩ = some c ∧ w1.cell? ⟨w.heap.size, 3, none⟩ = some d) ∧ w.heap.size < w1.heap.size ∧ Below w.heap.size w w1 := by
  have hy := (hb.block w.heap.size (by simp)).trans (heap_alloc_new w _)
  have hs := hb.size
  rw [World.size_alloc] at hs
  refine ⟨⟨?_, ?_, ?_, ?_⟩, by omega, ((Below.refl _ _).alloc (Nat.le_refl _) _).trans (hb.mono (by simp))⟩ <;> (rw [block_cell hy]; rfl)

theorem S_none (a : List UInt8) : (S a).toList = [] ↔ a = [] := by rw [S_list]
theorem MC.check_int (op : Int) (a b : List UInt8) (n : Int) (h : okOp op) : MC.check ⟨op, a, b, n⟩ = if (¬ (S a).toList = [] ∧ hasA op = false) ∨ (¬ (S b).toList = [] ∧ hasB op = false) ∨ (¬ n = 0 ∧ hasN op = false) then 2 else if (24 : Int) < (((S a).size : Nat) : Int) ∨ (24 : Int) < (((S b).size : Nat) : Int) then 3 else if (op = 5 ∨ op = 6) ∧ (n < 1 ∨ 1048576 < n) then 4 else 0 := by
  have e1 : (24 < a.length ∨ 24 < b.length) ↔ ((24 : Int) < (((S a).size : Nat) : Int) ∨ (24 : Int) < (((S b).size : Nat) : Int)) := by rw [S_size, S_size]; omega
  unfold MC.check
  dsimp only
  rw [if_neg (by simpa using h)]
  simp only [e1, S_none]
theorem MC.check_no (op : Int) (a b : List UInt8) (n : Int) (h : ¬ okOp op) : MC.check ⟨op, a, b, n⟩ = 6 := by
  unfold MC.check
  dsimp only
  rw [if_pos h]
theorem has_cases {op : Int} (h : okOp op) : (hasA op = false ∧ hasB op = false ∧ hasN op = false ∧ ¬ op = 5 ∧ ¬ op = 6 ∧ (op == 11) = false) ∨ (hasA op = true ∧ hasB op = false ∧ hasN op = false ∧ ¬ op = 5 ∧ ¬ op = 6 ∧ (op == 11) = false) ∨ op = 11 ∨ op = 3 ∨ op = 5 ∨ op = 6 := by
  rcases op_cases h with rfl | rfl | rfl | rfl | rfl | rfl | rfl | rfl | rfl | rfl | rfl | rfl | rfl | rfl | rfl | rfl | rfl <;> decide


end Go.Proofs.YteaiidcconggcaaDoor
