/- May a call be asked, may an answer be: the program's, the document's. -/
import Derived.Test.YtfehpjmjchdkgaaDoorMRefs
import Derived.Test.YtfehpjmjchdkgaaDoorMChange
namespace Go.Proofs.YtfehpjmjchdkgaaDoor
open Go.RowKit
set_option linter.unusedVariables false
set_option maxRecDepth 100000

theorem one_kept {w w1 : World} {a b c d : Value} {t : TypeId} (hb : Below (w.alloc (.cells #[a, b, c, d] t)).heap.size (w.alloc (.cells #[a, b, c, d] t)) w1) :
    (w1.cell? ⟨w.heap.size, 0, none⟩ = some a ∧ w1.cell? ⟨w.heap.size, 1, none⟩ = some b ∧ w1.cell? ⟨w.heap.size, 2, none⟩ = some c ∧ w1.cell? ⟨w.heap.size, 3, none⟩ = some d) ∧ w.heap.size < w1.heap.size ∧ Below w.heap.size w w1 := by
  have hy := (hb.block w.heap.size (by simp)).trans (heap_alloc_new w _)
  have hs := hb.size
  rw [World.size_alloc] at hs
  refine ⟨⟨?_, ?_, ?_, ?_⟩, by omega, ((Below.refl _ _).alloc (Nat.le_refl _) _).trans (hb.mono (by simp))⟩ <;> (rw [block_cell hy]; rfl)

theorem S_none (a : List UInt8) : (S a).toList = [] ↔ a = [] := by rw [S_list]
theorem MC.check_int (op : Int) (a b : List UInt8) (n : Int) (h : okOp op) : MC.check ⟨op, a, b, n⟩ = if (¬ (S a).toList = [] ∧ hasA op = false) ∨ (¬ (S b).toList = [] ∧ hasB op = false) ∨ (¬ n = 0 ∧ hasN op = false) then 2 else if (24 : Int) < (((S a).size : Nat) : Int) ∨ (24 : Int) < (((S b).size : Nat) : Int) then 3 else if (op = 5 ∨ op = 6) ∧ (n < 1 ∨ 1048576 < n) then 4 else 0 := by
  have e1 : (24 < a.length ∨ 24 < b.length) ↔ ((24 : Int) < (((S a).size : Nat) : Int) ∨ (24 : Int) < (((S b).size : Nat) : Int)) := by rw [S_size, S_size]; omega
  unfold MC.check
  dsimp only
  rw [if_neg (by simpa using h)]
  simp only [e1, S_none]
theorem MC.check_no (op : Int) (a b : List UInt8) (n : Int) (h : ¬ okOp op) : MC.check ⟨op, a, b, n⟩ = 6 := by
  unfold MC.check
  dsimp only
  rw [if_pos h]
theorem has_cases {op : Int} (h : okOp op) : (hasA op = false ∧ hasB op = false ∧ hasN op = false ∧ ¬ op = 5 ∧ ¬ op = 6 ∧ (op == 11) = false) ∨ (hasA op = true ∧ hasB op = false ∧ hasN op = false ∧ ¬ op = 5 ∧ ¬ op = 6 ∧ (op == 11) = false) ∨ op = 11 ∨ op = 3 ∨ op = 5 ∨ op = 6 := by
  rcases op_cases h with rfl | rfl | rfl | rfl | rfl | rfl | rfl | rfl | rfl | rfl | rfl | rfl | rfl | rfl | rfl | rfl | rfl <;> decide


set_option maxHeartbeats 12800000 in
theorem mcheck_any {w : World} (hw : MD w) (c : MC) (hla : c.a.length ≤ maxLen) (hlb : c.b.length ≤ maxLen) : Calls Tryd.prog 10 #[mcV c] w fun e w' => e = .returned (.int .i64 c.check) ∧ Below w.heap.size w w' := by
  obtain ⟨op, a, b, n⟩ := c
  unfold mcV
  dsimp only at *
  unfold maxLen at hla hlb
  have HF := hide (facts_any (hw.later ((Below.refl _ _).alloc (Nat.le_refl _) (.cells #[.int .i64 op, .string (S a), .string (S b), .int .i64 n] 24 (0, 0)))) op)
  have HM := hide (fun (w1 : World) => mmoney_any (w := w1) op)
  by_cases hop : okOp op
  · obtain ⟨h1, h2, h3⟩ := mfact_has hop
    have hk := mfact_kind hop
    unfold mfV at HF
    rw [h1, h2, h3] at HF
    generalize (mfact op).kind = kd at *
    generalize (mfact op).word = wd at *
    have hkd : (kd == 0) = false := by simpa using hk
    have HCH := hide (MC.check_int op a b n hop)
    obtain ⟨R, hR⟩ : ∃ R, MC.check ⟨op, a, b, n⟩ = R := ⟨_, rfl⟩
    rw [hR] at HCH ⊢
    clear h1 h2 h3 hk hR hw
    rcases has_cases hop with ⟨h1, h2, h3, h5, h6, _⟩ | ⟨h1, h2, h3, h5, h6, _⟩ | rfl | rfl | rfl | rfl
    · rw [h1, h2, h3] at HF HCH
      rw [decide_eq_false h5, decide_eq_false h6, Bool.or_self] at HM
      clear hop
      go_enter Tryd.func10, Tryd.ntmps10
      go_wp2_with fail
      refine (unhide HF).mono ?_
      rintro e w1 ⟨rfl, hb⟩
      obtain ⟨⟨hc0, hc1, hc2, hc3⟩, hz, hlow⟩ := one_kept hb
      have HL := hide (fun (o : Obj) => hlow.trans (((Below.refl w1.heap.size w1).alloc (Nat.le_refl _) o).mono hlow.size))
      clear hb HF hlow
      go_wp2_with (first | (go_at_call 34; refine (unhide HM _).mono ?_; rintro e w2 ⟨rfl, rfl⟩) | fail)
      all_goals (go_ret; exact ⟨ret_int (by rw [unhide HCH]; first | (simp [*]; done) | (simp [*]; (repeat' split) <;> omega) | (simp_all; done)), unhide HL _⟩)
    · rw [h1, h2, h3] at HF HCH
      rw [decide_eq_false h5, decide_eq_false h6, Bool.or_self] at HM
      clear hop
      go_enter Tryd.func10, Tryd.ntmps10
      go_wp2_with fail
      refine (unhide HF).mono ?_
      rintro e w1 ⟨rfl, hb⟩
      obtain ⟨⟨hc0, hc1, hc2, hc3⟩, hz, hlow⟩ := one_kept hb
      have HL := hide (fun (o : Obj) => hlow.trans (((Below.refl w1.heap.size w1).alloc (Nat.le_refl _) o).mono hlow.size))
      clear hb HF hlow
      go_wp2_with (first | (go_at_call 34; refine (unhide HM _).mono ?_; rintro e w2 ⟨rfl, rfl⟩) | fail)
      all_goals (go_ret; exact ⟨ret_int (by rw [unhide HCH]; first | (simp [*]; done) | (simp [*]; (repeat' split) <;> omega) | (simp_all; done)), unhide HL _⟩)
    · rw [show hasA 11 = true from rfl, show hasB 11 = true from rfl, show hasN 11 = false from rfl] at HF HCH
      have HM : Hid (∀ w1 : World, Calls Tryd.prog 34 #[.int .i64 11] w1 fun e w' => e = .returned (.bool false) ∧ w' = w1) := HM
      clear hop
      go_enter Tryd.func10, Tryd.ntmps10
      go_wp2_with fail
      refine (unhide HF).mono ?_
      rintro e w1 ⟨rfl, hb⟩
      obtain ⟨⟨hc0, hc1, hc2, hc3⟩, hz, hlow⟩ := one_kept hb
      have HL := hide (fun (o : Obj) => hlow.trans (((Below.refl w1.heap.size w1).alloc (Nat.le_refl _) o).mono hlow.size))
      clear hb HF hlow
      go_wp2_with (first | (go_at_call 34; refine (unhide HM _).mono ?_; rintro e w2 ⟨rfl, rfl⟩) | fail)
      all_goals (go_ret; exact ⟨ret_int (by rw [unhide HCH]; first | (simp [*]; done) | (simp [*]; (repeat' split) <;> omega) | (simp_all; done)), unhide HL _⟩)
    · rw [show hasA 3 = false from rfl, show hasB 3 = false from rfl, show hasN 3 = true from rfl] at HF HCH
      have HM : Hid (∀ w1 : World, Calls Tryd.prog 34 #[.int .i64 3] w1 fun e w' => e = .returned (.bool false) ∧ w' = w1) := HM
      clear hop
      go_enter Tryd.func10, Tryd.ntmps10
      go_wp2_with fail
      refine (unhide HF).mono ?_
      rintro e w1 ⟨rfl, hb⟩
      obtain ⟨⟨hc0, hc1, hc2, hc3⟩, hz, hlow⟩ := one_kept hb
      have HL := hide (fun (o : Obj) => hlow.trans (((Below.refl w1.heap.size w1).alloc (Nat.le_refl _) o).mono hlow.size))
      clear hb HF hlow
      go_wp2_with (first | (go_at_call 34; refine (unhide HM _).mono ?_; rintro e w2 ⟨rfl, rfl⟩) | fail)
      all_goals (go_ret; exact ⟨ret_int (by rw [unhide HCH]; first | (simp [*]; done) | (simp [*]; (repeat' split) <;> omega) | (simp_all; done)), unhide HL _⟩)
    · rw [show hasA 5 = false from rfl, show hasB 5 = false from rfl, show hasN 5 = true from rfl] at HF HCH
      have HM : Hid (∀ w1 : World, Calls Tryd.prog 34 #[.int .i64 5] w1 fun e w' => e = .returned (.bool true) ∧ w' = w1) := HM
      clear hop
      go_enter Tryd.func10, Tryd.ntmps10
      go_wp2_with fail
      refine (unhide HF).mono ?_
      rintro e w1 ⟨rfl, hb⟩
      obtain ⟨⟨hc0, hc1, hc2, hc3⟩, hz, hlow⟩ := one_kept hb
      have HL := hide (fun (o : Obj) => hlow.trans (((Below.refl w1.heap.size w1).alloc (Nat.le_refl _) o).mono hlow.size))
      clear hb HF hlow
      go_wp2_with (first | (go_at_call 34; refine (unhide HM _).mono ?_; rintro e w2 ⟨rfl, rfl⟩) | fail)
      all_goals (go_ret; exact ⟨ret_int (by rw [unhide HCH]; first | (simp [*]; done) | (simp [*]; (repeat' split) <;> omega) | (simp_all; done)), unhide HL _⟩)
    · rw [show hasA 6 = false from rfl, show hasB 6 = false from rfl, show hasN 6 = true from rfl] at HF HCH
      have HM : Hid (∀ w1 : World, Calls Tryd.prog 34 #[.int .i64 6] w1 fun e w' => e = .returned (.bool true) ∧ w' = w1) := HM
      clear hop
      go_enter Tryd.func10, Tryd.ntmps10
      go_wp2_with fail
      refine (unhide HF).mono ?_
      rintro e w1 ⟨rfl, hb⟩
      obtain ⟨⟨hc0, hc1, hc2, hc3⟩, hz, hlow⟩ := one_kept hb
      have HL := hide (fun (o : Obj) => hlow.trans (((Below.refl w1.heap.size w1).alloc (Nat.le_refl _) o).mono hlow.size))
      clear hb HF hlow
      go_wp2_with (first | (go_at_call 34; refine (unhide HM _).mono ?_; rintro e w2 ⟨rfl, rfl⟩) | fail)
      all_goals (go_ret; exact ⟨ret_int (by rw [unhide HCH]; first | (simp [*]; done) | (simp [*]; (repeat' split) <;> omega) | (simp_all; done)), unhide HL _⟩)
  · rw [MC.check_no op a b n hop]
    rw [mfact_no hop] at HF
    unfold mfV mnone at HF
    clear hop hw
    go_enter Tryd.func10, Tryd.ntmps10
    go_wp2_with fail
    refine (unhide HF).mono ?_
    rintro e w1 ⟨rfl, hb⟩
    obtain ⟨⟨hc0, hc1, hc2, hc3⟩, hz, hlow⟩ := one_kept hb
    have HL := hide (fun (o : Obj) => hlow.trans (((Below.refl w1.heap.size w1).alloc (Nat.le_refl _) o).mono hlow.size))
    clear hb HF hlow
    go_wp2_with fail
    go_ret
    exact ⟨rfl, unhide HL _⟩
end Go.Proofs.YtfehpjmjchdkgaaDoor
