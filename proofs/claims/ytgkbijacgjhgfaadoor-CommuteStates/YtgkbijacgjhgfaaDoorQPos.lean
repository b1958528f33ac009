/- The contract of Possible. -/
import Derived.Test.YtgkbijacgjhgfaaDoorQSmall
namespace Go.Proofs.YtgkbijacgjhgfaaDoor
open Go.RowKit
set_option linter.unusedVariables false
set_option maxRecDepth 100000

set_option maxHeartbeats 6400000 in
theorem possible_any {w : World} (p : Stp) (hop : okOp p.1.op) : Calls Tryd.prog 19 #[stV p] w fun e w' => e = .returned (.bool (posM p)) ∧ Below w.heap.size w w' := by
  obtain ⟨⟨op, a, b, n⟩, ⟨c, t, m⟩⟩ := p
  unfold stV posM
  dsimp only at *
  have HB : Hid (∀ o1 o2 o3 o4 o5 o6 : Obj, Below w.heap.size w ((((((w.alloc o1).alloc o2).alloc o3).alloc o4).alloc o5).alloc o6)) := fun o1 o2 o3 o4 o5 o6 => by
    have h2 := under_two w o1 o2
    have h3 := h2.alloc h2.size o3
    have h4 := h3.alloc h3.size o4
    have h5 := h4.alloc h4.size o5
    exact h5.alloc h5.size o6
  have HS : Hid ((S t).toList = [] ↔ t = []) := by
    show _ ↔ _
    rw [← List.isEmpty_iff, S_isEmpty, List.isEmpty_iff]
  rcases op_cases hop with rfl | rfl | rfl | rfl | rfl | rfl | rfl | rfl | rfl | rfl | rfl | rfl | rfl | rfl | rfl | rfl | rfl
  all_goals
    clear hop
    go_enter Tryd.func19, Tryd.ntmps19
    go_wp2_with fail
    all_goals
      go_ret
      refine ⟨?_, unhide HB _ _ _ _ _ _⟩
      first | rfl | (have hS := unhide HS; simp_all)
end Go.Proofs.YtgkbijacgjhgfaaDoor
