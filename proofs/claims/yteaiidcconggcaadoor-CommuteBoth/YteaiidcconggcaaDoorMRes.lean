/- May an answer be; the document's calls and answers of the program's, and back. -/
import Derived.Test.YteaiidcconggcaaDoorMChange
namespace Go.Proofs.YteaiidcconggcaaDoor
open Go.RowKit
set_option linter.unusedVariables false
set_option maxRecDepth 100000

theorem MR.check_int (k : Int) (a : List UInt8) (n : Int) : MR.check ⟨k, a, n⟩ = if ¬ k = 1 ∧ ¬ k = 2 then 6 else if (24 : Int) < (((S a).size : Nat) : Int) then 3 else if ¬ (S a).toList = [] ∧ ¬ n = 0 then 2 else 0 := by
  have e1 : (24 < a.length) ↔ ((24 : Int) < (((S a).size : Nat) : Int)) := by rw [S_size]; omega
  have e2 : (S a).toList = [] ↔ a = [] := by rw [S_list]
  unfold MR.check
  dsimp only
  simp only [e1, e2]
set_option maxHeartbeats 6400000 in
theorem mrcheck_any {w : World} (r : MR) (hla : r.text.length ≤ maxLen) : Calls Tryd.prog 18 #[mrV r] w fun e w' => e = .returned (.int .i64 r.check) ∧ Below w.heap.size w w' := by
  obtain ⟨k, a, n⟩ := r
  unfold mrV
  dsimp only at *
  unfold maxLen at hla
  have HF := hide (fun o => (Below.refl w.heap.size w).alloc (Nat.le_refl _) o)
  have HCH := hide (MR.check_int k a n)
  obtain ⟨R, hR⟩ : ∃ R, MR.check ⟨k, a, n⟩ = R := ⟨_, rfl⟩
  rw [hR] at HCH ⊢
  clear hR
  go_enter Tryd.func18, Tryd.ntmps18
  go_wp2_with fail
  all_goals (go_ret; exact ⟨ret_int (by rw [unhide HCH]; first | (simp [*]; done) | (simp [*]; (repeat' split) <;> omega) | (simp_all; done)), unhide HF _⟩)
theorem mown_any {w : World} (c : MC) : Calls Tryd.prog 9 #[mcV c] w fun e w' => e = .returned (mcV c) ∧ Below w.heap.size w w' := by
  have HF := hide (mtwo_boxes w)
  obtain ⟨op, a, b, n⟩ := c
  unfold mcV
  dsimp only
  go_enter Tryd.func9, Tryd.ntmps9
  go_wp2_with fail
  exact bodyPost_ret (v := .agg #[.int .i64 op, .string (S a), .string (S b), .int .i64 n]) (by simp [results, Tryd.results9, go_sem]) rfl ⟨rfl, unhide HF _ _⟩
end Go.Proofs.YteaiidcconggcaaDoor
