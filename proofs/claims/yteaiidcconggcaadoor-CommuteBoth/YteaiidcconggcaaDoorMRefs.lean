/- The document's words, types, which arguments an op has. -/
import Derived.Test.YteaiidcconggcaaDoorMFacts
namespace Go.Proofs.YteaiidcconggcaaDoor
open Go.RowKit
set_option linter.unusedVariables false
set_option maxRecDepth 100000

theorem op_split (op : Int) : op < 1 ∨ 17 < op ∨ okOp op := by unfold okOp; omega
theorem rhasA_any {w : World} (op : Int) : Calls Tryd.prog 43 #[.int .i64 op] w fun e w' => e = .returned (.bool (hasA op)) ∧ w' = w := by
  unfold hasA
  by_cases h2 : op = 2
  · subst h2
    go_enter Tryd.func43, Tryd.ntmps43
    go_wp2_with fail
    go_ret
    exact ⟨rfl, rfl⟩
  rw [decide_eq_false h2]
  by_cases h16 : op = 16
  · subst h16
    go_enter Tryd.func43, Tryd.ntmps43
    go_wp2_with fail
    go_ret
    exact ⟨rfl, rfl⟩
  rw [decide_eq_false h16]
  by_cases h8 : 8 ≤ op
  · by_cases h14 : op ≤ 14
    · rw [decide_eq_true h8, decide_eq_true h14]
      go_enter Tryd.func43, Tryd.ntmps43
      go_wp2_with fail
      go_ret
      exact ⟨rfl, rfl⟩
    · rw [decide_eq_true h8, decide_eq_false h14]
      go_enter Tryd.func43, Tryd.ntmps43
      go_wp2_with fail
      go_ret
      exact ⟨by simp [h2, h16], rfl⟩
  · rw [decide_eq_false h8]
    go_enter Tryd.func43, Tryd.ntmps43
    go_wp2_with fail
    go_ret
    exact ⟨by simp [h2, h16], rfl⟩
theorem rhasN_any {w : World} (op : Int) : Calls Tryd.prog 45 #[.int .i64 op] w fun e w' => e = .returned (.bool (hasN op)) ∧ w' = w := by
  unfold hasN
  by_cases h2 : op = 3
  · subst h2
    go_enter Tryd.func45, Tryd.ntmps45
    go_wp2_with fail
    go_ret
    exact ⟨rfl, rfl⟩
  by_cases h5 : op = 5
  · subst h5
    go_enter Tryd.func45, Tryd.ntmps45
    go_wp2_with fail
    go_ret
    exact ⟨rfl, rfl⟩
  by_cases h6 : op = 6
  · subst h6
    go_enter Tryd.func45, Tryd.ntmps45
    go_wp2_with fail
    go_ret
    exact ⟨rfl, rfl⟩
  rw [decide_eq_false h2, decide_eq_false h5, decide_eq_false h6]
  go_enter Tryd.func45, Tryd.ntmps45
  go_wp2_with fail
  go_ret
  exact ⟨by simp [h2, h5, h6], rfl⟩

end Go.Proofs.YteaiidcconggcaaDoor
