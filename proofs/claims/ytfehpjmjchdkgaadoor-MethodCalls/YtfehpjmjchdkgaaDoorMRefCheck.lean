/- May a call be asked: the document's. -/
import Derived.Test.YtfehpjmjchdkgaaDoorMCheck
namespace Go.Proofs.YtfehpjmjchdkgaaDoor
open Go.RowKit
set_option linter.unusedVariables false
set_option maxRecDepth 100000

set_option maxHeartbeats 12800000 in
theorem rcheck12_any {w : World} (c : MC) (hla : c.a.length ≤ maxLen) (hlb : c.b.length ≤ maxLen) : Calls Tryd.prog 11 #[mcV c] w fun e w' => e = .returned (.int .i64 c.check) ∧ Below w.heap.size w w' := by
  obtain ⟨op, a, b, n⟩ := c
  unfold mcV
  dsimp only at *
  unfold maxLen at hla hlb
  have HL := hide (fun o => (Below.refl w.heap.size w).alloc (Nat.le_refl _) o)
  have HA := hide (fun (w1 : World) => rhasA_any (w := w1) op)
  have HN := hide (fun (w1 : World) => rhasN_any (w := w1) op)
  by_cases hop : okOp op
  · have HCH := hide (MC.check_int op a b n hop)
    obtain ⟨R, hR⟩ : ∃ R, MC.check ⟨op, a, b, n⟩ = R := ⟨_, rfl⟩
    rw [hR] at HCH ⊢
    clear hR
    rcases has_cases hop with ⟨h1, h2, h3, h5, h6, h11⟩ | ⟨h1, h2, h3, h5, h6, h11⟩ | rfl | rfl | rfl | rfl
    · have h11' : ¬ op = 11 := by simpa using h11
      have g1 : 1 ≤ op := hop.1
      have g17 : op ≤ 17 := hop.2
      rw [h1, h2, h3] at HCH
      rw [h1] at HA
      rw [h3] at HN
      clear hop
      go_enter Tryd.func11, Tryd.ntmps11
      go_wp2_with (first | (go_at_call 28; refine (unhide HA _).mono ?_; rintro e w2 ⟨rfl, rfl⟩) | (go_at_call 29; refine (unhide HN _).mono ?_; rintro e w2 ⟨rfl, rfl⟩) | fail)
      all_goals (go_ret; exact ⟨ret_int (by rw [unhide HCH]; first | (simp [*]; done) | (simp [*]; (repeat' split) <;> omega) | (simp_all; done)), unhide HL _⟩)
    · have h11' : ¬ op = 11 := by simpa using h11
      have g1 : 1 ≤ op := hop.1
      have g17 : op ≤ 17 := hop.2
      rw [h1, h2, h3] at HCH
      rw [h1] at HA
      rw [h3] at HN
      clear hop
      go_enter Tryd.func11, Tryd.ntmps11
      go_wp2_with (first | (go_at_call 28; refine (unhide HA _).mono ?_; rintro e w2 ⟨rfl, rfl⟩) | (go_at_call 29; refine (unhide HN _).mono ?_; rintro e w2 ⟨rfl, rfl⟩) | fail)
      all_goals (go_ret; exact ⟨ret_int (by rw [unhide HCH]; first | (simp [*]; done) | (simp [*]; (repeat' split) <;> omega) | (simp_all; done)), unhide HL _⟩)
    · rw [show hasA 11 = true from rfl, show hasB 11 = true from rfl, show hasN 11 = false from rfl] at HCH
      rw [show hasA 11 = true from rfl] at HA
      rw [show hasN 11 = false from rfl] at HN
      clear hop
      go_enter Tryd.func11, Tryd.ntmps11
      go_wp2_with (first | (go_at_call 28; refine (unhide HA _).mono ?_; rintro e w2 ⟨rfl, rfl⟩) | (go_at_call 29; refine (unhide HN _).mono ?_; rintro e w2 ⟨rfl, rfl⟩) | fail)
      all_goals (go_ret; exact ⟨ret_int (by rw [unhide HCH]; first | (simp [*]; done) | (simp [*]; (repeat' split) <;> omega) | (simp_all; done)), unhide HL _⟩)
    · rw [show hasA 3 = false from rfl, show hasB 3 = false from rfl, show hasN 3 = true from rfl] at HCH
      rw [show hasA 3 = false from rfl] at HA
      rw [show hasN 3 = true from rfl] at HN
      clear hop
      go_enter Tryd.func11, Tryd.ntmps11
      go_wp2_with (first | (go_at_call 28; refine (unhide HA _).mono ?_; rintro e w2 ⟨rfl, rfl⟩) | (go_at_call 29; refine (unhide HN _).mono ?_; rintro e w2 ⟨rfl, rfl⟩) | fail)
      all_goals (go_ret; exact ⟨ret_int (by rw [unhide HCH]; first | (simp [*]; done) | (simp [*]; (repeat' split) <;> omega) | (simp_all; done)), unhide HL _⟩)
    · rw [show hasA 5 = false from rfl, show hasB 5 = false from rfl, show hasN 5 = true from rfl] at HCH
      rw [show hasA 5 = false from rfl] at HA
      rw [show hasN 5 = true from rfl] at HN
      clear hop
      go_enter Tryd.func11, Tryd.ntmps11
      go_wp2_with (first | (go_at_call 28; refine (unhide HA _).mono ?_; rintro e w2 ⟨rfl, rfl⟩) | (go_at_call 29; refine (unhide HN _).mono ?_; rintro e w2 ⟨rfl, rfl⟩) | fail)
      all_goals (go_ret; exact ⟨ret_int (by rw [unhide HCH]; first | (simp [*]; done) | (simp [*]; (repeat' split) <;> omega) | (simp_all; done)), unhide HL _⟩)
    · rw [show hasA 6 = false from rfl, show hasB 6 = false from rfl, show hasN 6 = true from rfl] at HCH
      rw [show hasA 6 = false from rfl] at HA
      rw [show hasN 6 = true from rfl] at HN
      clear hop
      go_enter Tryd.func11, Tryd.ntmps11
      go_wp2_with (first | (go_at_call 28; refine (unhide HA _).mono ?_; rintro e w2 ⟨rfl, rfl⟩) | (go_at_call 29; refine (unhide HN _).mono ?_; rintro e w2 ⟨rfl, rfl⟩) | fail)
      all_goals (go_ret; exact ⟨ret_int (by rw [unhide HCH]; first | (simp [*]; done) | (simp [*]; (repeat' split) <;> omega) | (simp_all; done)), unhide HL _⟩)
  · rw [MC.check_no op a b n hop]
    by_cases g1 : op < 1
    · clear hop
      go_enter Tryd.func11, Tryd.ntmps11
      go_wp2_with fail
      go_ret
      exact ⟨rfl, unhide HL _⟩
    · have g17 : 17 < op := by unfold okOp at hop; omega
      clear hop
      go_enter Tryd.func11, Tryd.ntmps11
      go_wp2_with fail
      go_ret
      exact ⟨rfl, unhide HL _⟩
end Go.Proofs.YtfehpjmjchdkgaaDoor
