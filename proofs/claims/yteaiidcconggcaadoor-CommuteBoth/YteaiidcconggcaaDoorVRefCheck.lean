/- The contract of the document's Check. -/
import Derived.Test.YteaiidcconggcaaDoorVRow
namespace Go.Proofs.YteaiidcconggcaaDoor
open Go.RowKit
set_option linter.unusedVariables false
set_option maxRecDepth 100000

set_option maxHeartbeats 6400000 in
theorem rcheck_any {w : World} {v : Value} {s : VS} (h : StAt w v s) :
    Calls Tryd.prog 54 #[v] w fun e w' => e = .returned (.int .i64 s.check) ∧ Below w.heap.size w w' := by
  obtain ⟨k, rfl, hr⟩ := h
  obtain ⟨a, c, rfl, hc, hm⟩ := hr.shape
  unfold maxLen at hm
  have HCK := hide (fun (w1 : World) (hb : Below w.heap.size w w1) (i : Nat) hi => rrow_any s (hr.later hb) i hi)
  obtain ⟨kd, n, rows⟩ := s
  dsimp only at *
  clear hr
  have hch : VS.check ⟨kd, n, rows⟩ = if kd < 1 ∨ 7 < kd then 6 else if VS.numOk ⟨kd, n, rows⟩ = false then 2 else if VS.most ⟨kd, n, rows⟩ < rows.length then 7 else first (VS.rowErr ⟨kd, n, rows⟩) rows.length := rfl
  obtain ⟨R, hR⟩ : ∃ R, VS.check ⟨kd, n, rows⟩ = R := ⟨_, rfl⟩
  rw [hch] at hR ⊢
  clear hch
  by_cases h1 : kd < 1
  · rw [if_pos (Or.inl h1)] at hR ⊢
    clear hR
    go_enter Tryd.func54, Tryd.ntmps54
    go_wp2_with fail
    go_ret
    exact ⟨rfl, under_box _⟩
  by_cases h7 : 7 < kd
  · rw [if_pos (Or.inr h7)] at hR ⊢
    clear hR
    go_enter Tryd.func54, Tryd.ntmps54
    go_wp2_with fail
    go_ret
    exact ⟨rfl, under_box _⟩
  rw [if_neg (by omega)] at hR ⊢
  obtain ⟨B, hB⟩ : ∃ B : Obj, B = .cells #[.int .i64 kd, .int .i64 n, .slice a rows.length c] 38 (0, 0) := ⟨_, rfl⟩
  obtain ⟨c0, c1, c2⟩ := Bx.cells3 (w0 := w) hB
  by_cases k2 : kd = 2
  · subst k2
    by_cases hz : rows.length = 0
    · have e0 : ¬ (0 : Int) < ((rows.length : Nat) : Int) := by omega
      have e0' : decide (0 < rows.length) = false := decide_eq_false (by omega)
      have e0'' : ¬ 0 < rows.length := by omega
      have e8 : ¬ (8 : Int) < ((rows.length : Nat) : Int) := by omega
      rw [if_neg (by simp [VS.numOk, hz]), if_neg (by simp [VS.most]; omega)] at hR ⊢
      have HR := hide hR.symm
      rw [hR]
      clear hR hz
      go_enter Tryd.func54, Tryd.ntmps54
      go_wp2_with fail
      rw [← hB] at *
      clear hB
      go_loopw [65] (fun i wr => ∃ k : Nat, k ≤ rows.length ∧ i = .int .i64 (k : Int) ∧ first (VS.rowErr ⟨2, n, rows⟩) k = 0 ∧ Bx w B wr) (fun i _ => rows.length - (intOf i).toNat)
      case atStart => exact ⟨0, Nat.zero_le _, rfl, rfl, Bx.start w B⟩
      case round =>
        obtain ⟨k, hk, rfl, hf, hbw⟩ := hrel
        have HF := hide hf
        have HLW := hide hbw.low
        have HBW := hide hbw
        have d0 := c0 _ hbw
        have d2 := c2 _ hbw
        clear hf hbw
        by_cases hlt : k < rows.length
        · exact absurd hlt (by omega)
        · have hkn : k = rows.length := by omega
          have hR0 : R = 0 := by rw [unhide HR, ← hkn]; exact unhide HF
          subst hR0
          go_wp2_with fail
          go_ret
          exact ⟨rfl, unhide HLW⟩
    · have e0 : (0 : Int) < ((rows.length : Nat) : Int) := by omega
      rw [if_pos (by simp [VS.numOk, hz])]
      clear hR hB c0 c1 c2
      go_enter Tryd.func54, Tryd.ntmps54
      go_wp2_with fail
      go_ret
      exact ⟨rfl, under_box _⟩
  have q2 : (kd == 2) = false := by rw [beq_eq_false_iff_ne]; exact k2
  by_cases k3 : kd = 3
  · subst k3
    by_cases hz : rows.length = 0
    · by_cases hn0 : n < 0
      · have e0 : ¬ (0 : Int) < ((rows.length : Nat) : Int) := by omega
        have e0' : decide (0 < rows.length) = false := decide_eq_false (by omega)
        have e0'' : ¬ 0 < rows.length := by omega
        rw [if_pos (by simp [VS.numOk, hz, hn0])]
        clear hR hB c0 c1 c2
        go_enter Tryd.func54, Tryd.ntmps54
        go_wp2_with fail
        go_ret
        exact ⟨rfl, under_box _⟩
      · have e0 : ¬ (0 : Int) < ((rows.length : Nat) : Int) := by omega
        have e0' : decide (0 < rows.length) = false := decide_eq_false (by omega)
        have e0'' : ¬ 0 < rows.length := by omega
        have e8 : ¬ (8 : Int) < ((rows.length : Nat) : Int) := by omega
        rw [if_neg (by simp [VS.numOk, hz, Int.not_lt.1 hn0]), if_neg (by simp [VS.most]; omega)] at hR ⊢
        have HR := hide hR.symm
        rw [hR]
        clear hR hz
        go_enter Tryd.func54, Tryd.ntmps54
        go_wp2_with fail
        rw [← hB] at *
        clear hB
        go_loopw [65] (fun i wr => ∃ k : Nat, k ≤ rows.length ∧ i = .int .i64 (k : Int) ∧ first (VS.rowErr ⟨3, n, rows⟩) k = 0 ∧ Bx w B wr) (fun i _ => rows.length - (intOf i).toNat)
        case atStart => exact ⟨0, Nat.zero_le _, rfl, rfl, Bx.start w B⟩
        case round =>
          obtain ⟨k, hk, rfl, hf, hbw⟩ := hrel
          have HF := hide hf
          have HLW := hide hbw.low
          have HBW := hide hbw
          have d0 := c0 _ hbw
          have d2 := c2 _ hbw
          clear hf hbw
          by_cases hlt : k < rows.length
          · exact absurd hlt (by omega)
          · have hkn : k = rows.length := by omega
            have hR0 : R = 0 := by rw [unhide HR, ← hkn]; exact unhide HF
            subst hR0
            go_wp2_with fail
            go_ret
            exact ⟨rfl, unhide HLW⟩
    · have e0 : (0 : Int) < ((rows.length : Nat) : Int) := by omega
      rw [if_pos (by simp [VS.numOk, hz])]
      clear hR hB c0 c1 c2
      go_enter Tryd.func54, Tryd.ntmps54
      go_wp2_with fail
      go_ret
      exact ⟨rfl, under_box _⟩
  have q3 : (kd == 3) = false := by rw [beq_eq_false_iff_ne]; exact k3
  by_cases hn : n = 0
  · subst hn
    by_cases k1 : kd = 1
    · subst k1
      by_cases hl : 1 < rows.length
      · have e1 : (1 : Int) < ((rows.length : Nat) : Int) := by omega
        by_cases h8 : 8 < rows.length
        · have e8 : (8 : Int) < ((rows.length : Nat) : Int) := by omega
          rw [if_neg (by simp [VS.numOk]), if_pos (by simp [VS.most]; omega)]
          clear hR hB c0 c1 c2
          go_enter Tryd.func54, Tryd.ntmps54
          go_wp2_with fail
          go_ret
          exact ⟨rfl, under_box _⟩
        · have e8 : ¬ (8 : Int) < ((rows.length : Nat) : Int) := by omega
          rw [if_neg (by simp [VS.numOk]), if_pos (by simp [VS.most]; omega)]
          clear hR hB c0 c1 c2
          go_enter Tryd.func54, Tryd.ntmps54
          go_wp2_with fail
          go_ret
          exact ⟨rfl, under_box _⟩
      · have e1 : ¬ (1 : Int) < ((rows.length : Nat) : Int) := by omega
        have e8 : ¬ (8 : Int) < ((rows.length : Nat) : Int) := by omega
        rw [if_neg (by simp [VS.numOk]), if_neg (by simp [VS.most]; omega)] at hR ⊢
        have HR := hide hR.symm
        rw [hR]
        clear hR
        go_enter Tryd.func54, Tryd.ntmps54
        go_wp2_with fail
        rw [← hB] at *
        clear hB
        go_loopw [65] (fun i wr => ∃ k : Nat, k ≤ rows.length ∧ i = .int .i64 (k : Int) ∧ first (VS.rowErr ⟨1, 0, rows⟩) k = 0 ∧ Bx w B wr) (fun i _ => rows.length - (intOf i).toNat)
        case atStart => exact ⟨0, Nat.zero_le _, rfl, rfl, Bx.start w B⟩
        case round =>
          obtain ⟨k, hk, rfl, hf, hbw⟩ := hrel
          have HF := hide hf
          have HLW := hide hbw.low
          have HBW := hide hbw
          have d0 := c0 _ hbw
          have d2 := c2 _ hbw
          clear hf hbw
          by_cases hlt : k < rows.length
          · have HC := hide (fun (w1 : World) (hb : Below w.heap.size w w1) => unhide HCK w1 hb k hlt)
            have HC0 := hide (fun (e : VS.rowErr ⟨1, 0, rows⟩ k = 0) => first_next (unhide HF) e)
            have HC1 := hide (fun (e : VS.rowErr ⟨1, 0, rows⟩ k ≠ 0) => first_stop (unhide HF) e hlt)
            clear HCK
            obtain ⟨z, hz⟩ : ∃ z, VS.rowErr ⟨1, 0, rows⟩ k = z := ⟨_, rfl⟩
            rw [hz] at HC HC0 HC1
            clear hz
            go_wp2_with fail
            refine (unhide HC _ (unhide HLW)).mono ?_
            rintro e w3 ⟨rfl, hb3⟩
            have hx3 := (unhide HBW).below hb3
            have HX3 := hide hx3
            have f0 := c0 _ hx3
            have f2 := c2 _ hx3
            clear hb3 hx3 d0 d2
            by_cases hz0 : z = 0
            · have e2 : (z != 0) = false := by rw [hz0]; rfl
              have HN := hide (unhide HC0 hz0)
              clear hz0 HC0 HC1
              go_wp2_with fail
              go_roundw
              case rel => exact ⟨k + 1, by omega, by go_num, unhide HN, unhide HX3⟩
              case measure => simp [intOf]; omega
            · have e2 : (z != 0) = true := by rw [bne_iff_ne]; exact hz0
              have hRc : R = z := by rw [unhide HR]; exact unhide HC1 hz0
              subst hRc
              clear hz0 HC0 HC1
              go_wp2_with fail
              refine (unhide HC _ (unhide HX3).low).mono ?_
              rintro e w4 ⟨rfl, hb4⟩
              have HX4 := hide (((unhide HX3).below hb4).low)
              clear hb4
              go_wp2_with fail
              go_ret
              exact ⟨rfl, unhide HX4⟩
          · have hkn : k = rows.length := by omega
            have hR0 : R = 0 := by rw [unhide HR, ← hkn]; exact unhide HF
            subst hR0
            go_wp2_with fail
            go_ret
            exact ⟨rfl, unhide HLW⟩
    have q1 : (kd == 1) = false := by rw [beq_eq_false_iff_ne]; exact k1
    by_cases h8 : 8 < rows.length
    · have e8 : (8 : Int) < ((rows.length : Nat) : Int) := by omega
      rw [if_neg (by simp [VS.numOk, k2, k3]), if_pos (by simp [VS.most, k1]; omega)]
      clear hR hB c0 c1 c2
      go_enter Tryd.func54, Tryd.ntmps54
      go_wp2_with fail
      go_ret
      exact ⟨rfl, under_box _⟩
    · have e8 : ¬ (8 : Int) < ((rows.length : Nat) : Int) := by omega
      rw [if_neg (by simp [VS.numOk, k2, k3]), if_neg (by simp [VS.most, k1]; omega)] at hR ⊢
      have HR := hide hR.symm
      rw [hR]
      clear hR
      go_enter Tryd.func54, Tryd.ntmps54
      go_wp2_with fail
      rw [← hB] at *
      clear hB
      go_loopw [65] (fun i wr => ∃ k : Nat, k ≤ rows.length ∧ i = .int .i64 (k : Int) ∧ first (VS.rowErr ⟨kd, 0, rows⟩) k = 0 ∧ Bx w B wr) (fun i _ => rows.length - (intOf i).toNat)
      case atStart => exact ⟨0, Nat.zero_le _, rfl, rfl, Bx.start w B⟩
      case round =>
        obtain ⟨k, hk, rfl, hf, hbw⟩ := hrel
        have HF := hide hf
        have HLW := hide hbw.low
        have HBW := hide hbw
        have d0 := c0 _ hbw
        have d2 := c2 _ hbw
        clear hf hbw
        by_cases hlt : k < rows.length
        · have HC := hide (fun (w1 : World) (hb : Below w.heap.size w w1) => unhide HCK w1 hb k hlt)
          have HC0 := hide (fun (e : VS.rowErr ⟨kd, 0, rows⟩ k = 0) => first_next (unhide HF) e)
          have HC1 := hide (fun (e : VS.rowErr ⟨kd, 0, rows⟩ k ≠ 0) => first_stop (unhide HF) e hlt)
          clear HCK
          obtain ⟨z, hz⟩ : ∃ z, VS.rowErr ⟨kd, 0, rows⟩ k = z := ⟨_, rfl⟩
          rw [hz] at HC HC0 HC1
          clear hz
          go_wp2_with fail
          refine (unhide HC _ (unhide HLW)).mono ?_
          rintro e w3 ⟨rfl, hb3⟩
          have hx3 := (unhide HBW).below hb3
          have HX3 := hide hx3
          have f0 := c0 _ hx3
          have f2 := c2 _ hx3
          clear hb3 hx3 d0 d2
          by_cases hz0 : z = 0
          · have e2 : (z != 0) = false := by rw [hz0]; rfl
            have HN := hide (unhide HC0 hz0)
            clear hz0 HC0 HC1
            go_wp2_with fail
            go_roundw
            case rel => exact ⟨k + 1, by omega, by go_num, unhide HN, unhide HX3⟩
            case measure => simp [intOf]; omega
          · have e2 : (z != 0) = true := by rw [bne_iff_ne]; exact hz0
            have hRc : R = z := by rw [unhide HR]; exact unhide HC1 hz0
            subst hRc
            clear hz0 HC0 HC1
            go_wp2_with fail
            refine (unhide HC _ (unhide HX3).low).mono ?_
            rintro e w4 ⟨rfl, hb4⟩
            have HX4 := hide (((unhide HX3).below hb4).low)
            clear hb4
            go_wp2_with fail
            go_ret
            exact ⟨rfl, unhide HX4⟩
        · have hkn : k = rows.length := by omega
          have hR0 : R = 0 := by rw [unhide HR, ← hkn]; exact unhide HF
          subst hR0
          go_wp2_with fail
          go_ret
          exact ⟨rfl, unhide HLW⟩
  · have en : (n != 0) = true := by rw [bne_iff_ne]; exact hn
    rw [if_pos (by simp [VS.numOk, k2, k3, hn])]
    clear hR hB c0 c1 c2
    go_enter Tryd.func54, Tryd.ntmps54
    go_wp2_with fail
    go_ret
    exact ⟨rfl, under_box _⟩
end Go.Proofs.YteaiidcconggcaaDoor
