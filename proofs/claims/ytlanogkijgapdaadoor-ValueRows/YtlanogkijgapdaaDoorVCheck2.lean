/- The contract of a state's Check. -/
import Derived.Test.YtlanogkijgapdaaDoorVCheck
namespace Go.Proofs.YtlanogkijgapdaaDoor
open Go.RowKit
set_option linter.unusedVariables false
set_option maxRecDepth 100000

theorem word_none (k : Int) (h : k < 1 ∨ 7 < k) : wordOf k = [] := by
  unfold wordOf
  by_cases h0 : k < 0 ∨ 8 ≤ k
  · rw [if_pos h0]
  · rw [if_neg h0]
    have : k = 0 := by omega
    subst this
    rfl
theorem word_some (k : Int) (h : ¬ (k < 1 ∨ 7 < k)) : (S (wordOf k)).toList.isEmpty = false := by
  rw [S_isEmpty]
  have hk : k = 1 ∨ k = 2 ∨ k = 3 ∨ k = 4 ∨ k = 5 ∨ k = 6 ∨ k = 7 := by omega
  rcases hk with rfl | rfl | rfl | rfl | rfl | rfl | rfl <;> rfl

set_option maxHeartbeats 3200000 in
theorem vcheck_any {w : World} {v : Value} {s : VS} (h : StAt w v s) (hw : WD w) :
    Calls Tryd.prog 12 #[v] w fun e w' => e = .returned (.int .i64 s.check) ∧ Below w.heap.size w w' := by
  have HWO := hide (fun (w1 : World) (hb : Below w.heap.size w w1) => word_any (hw.later hb) s.kind)
  have HNU := hide (fun (w1 : World) (hb : Below w.heap.size w w1) => numFits_any (h.later hb))
  have HMO := hide (fun (w1 : World) (hb : Below w.heap.size w w1) => most_any (h.later hb))
  have HCK := hide (fun (w1 : World) (hb : Below w.heap.size w w1) (i : Nat) hi => checkRow_any (h.later hb) i hi)
  obtain ⟨k, rfl, hr⟩ := h
  obtain ⟨a, c, rfl, hc, hm⟩ := hr.shape
  obtain ⟨R, hR⟩ : ∃ R, s.check = R := ⟨_, rfl⟩
  rw [hR]
  unfold VS.check at hR
  unfold maxLen at hm
  clear hr hw
  by_cases hk : s.kind < 1 ∨ 7 < s.kind
  · rw [if_pos hk] at hR
    subst hR
    rw [word_none _ hk] at HWO
    have he : (S []).toList.isEmpty = true := by rw [S_isEmpty]; rfl
    go_enter Tryd.func12, Tryd.ntmps12
    go_wp2_with fail
    refine (unhide HWO _ (under_box _)).mono ?_
    rintro e w1 ⟨rfl, rfl⟩
    go_wp2
    go_ret
    exact ⟨rfl, under_box _⟩
  rw [if_neg hk] at hR
  have he := word_some _ hk
  generalize wordOf s.kind = wd at *
  cases hn : s.numOk
  · rw [hn, if_pos rfl] at hR
    subst hR
    rw [hn] at HNU
    go_enter Tryd.func12, Tryd.ntmps12
    go_wp2_with fail
    refine (unhide HWO _ (under_box _)).mono ?_
    rintro e w1 ⟨rfl, rfl⟩
    go_wp2_with fail
    refine (unhide HNU _ (under_box _)).mono ?_
    rintro e w1 ⟨rfl, hb1⟩
    have HB := hide ((under_box _).trans (hb1.mono (by simp)))
    clear hb1
    go_wp2
    go_ret
    exact ⟨rfl, unhide HB⟩
  rw [hn, if_neg (by simp)] at hR
  rw [hn] at HNU
  clear hn hk
  have hif : R = if s.most < s.rows.length then 7 else first s.rowErr s.rows.length := hR.symm
  obtain ⟨B, hB⟩ : ∃ B : Obj, B = .cells #[.int .i64 s.kind, .int .i64 s.n, .slice a s.rows.length c] 24 (0, 0) := ⟨_, rfl⟩
  obtain ⟨c0, c1, c2⟩ := Bx.cells3 (w0 := w) hB
  have HIF := hide hif
  clear hif hR
  generalize s.most = M at *
  go_enter Tryd.func12, Tryd.ntmps12
  go_wp2_with fail
  refine (unhide HWO _ (under_box _)).mono ?_
  rintro e w1 ⟨rfl, rfl⟩
  go_wp2_with fail
  refine (unhide HNU _ (under_box _)).mono ?_
  rintro e w1 ⟨rfl, hb1⟩
  rw [← hB] at hb1
  have hst : Bx w B w1 := (Bx.start w B).below hb1
  have hstd : Bx w B w1.drew := hst.drew
  clear hb1 HWO HNU hB
  go_wp2_with fail
  go_region_held3 (fun w' => Bx w B w') (with_reducible (first | exact hstd | exact hst | (refine Bx.below ?_ (by assumption) <;> assumption)))
    (first | (go_at_call 33; refine (unhide HMO _ (Bx.low (by assumption))).mono ?_; rintro e wm ⟨rfl, hbm⟩) | fail)
  all_goals
    have hfin : Bx w B wm := Bx.below (by assumption) hbm
    have HFIN := hide hfin
    clear hbm hst hstd HMO
    have hlm := Bx.low (unhide HFIN)
    by_cases hmo : M < s.rows.length
    · have h7 : R = 7 := by rw [unhide HIF, if_pos hmo]
      subst h7
      have hgt : ((M : Nat) : Int) < ((s.rows.length : Nat) : Int) := by omega
      clear hmo HIF
      go_wp2_with fail
      go_ret
      exact ⟨rfl, hlm⟩
    have hR2 : R = first s.rowErr s.rows.length := by rw [unhide HIF, if_neg hmo]
    have hgt : ¬ ((M : Nat) : Int) < ((s.rows.length : Nat) : Int) := by omega
    have HR2 := hide hR2
    clear hmo HIF hR2
    go_wp2_with fail
    clear hlm hfin
    go_loopw [21] (fun i wr => ∃ k : Nat, k ≤ s.rows.length ∧ i = .int .i64 k ∧ first s.rowErr k = 0 ∧ Bx w B wr) (fun i _ => s.rows.length - (intOf i).toNat)
    case atStart => exact ⟨0, Nat.zero_le _, rfl, rfl, unhide HFIN⟩
    case round =>
      obtain ⟨k, hk, rfl, hf, hbw⟩ := hrel
      have HF := hide hf
      have HLW := hide hbw.low
      clear hf HFIN
      by_cases hlt : k < s.rows.length
      · have HC := hide (unhide HCK wr (unhide HLW) k hlt)
        have HC0 := hide (fun (e : s.rowErr k = 0) => first_next (unhide HF) e)
        have HC1 := hide (fun (e : s.rowErr k ≠ 0) => first_stop (unhide HF) e hlt)
        clear HCK
        obtain ⟨z, hz⟩ : ∃ z, s.rowErr k = z := ⟨_, rfl⟩
        rw [hz] at HC HC0 HC1
        clear hz
        go_wp2_with fail
        refine (unhide HC).mono ?_
        rintro e w3 ⟨rfl, hb3⟩
        have hx3 := hbw.below hb3
        have HX3 := hide hx3
        clear hb3 HC hbw HLW hx3
        by_cases hc0 : z = 0
        · have e2 : (z != 0) = false := by rw [hc0]; rfl
          have HN := hide (unhide HC0 hc0)
          clear hc0 HC0 HC1
          go_wp2_with fail
          go_roundw
          case rel => exact ⟨k + 1, by omega, by go_num, unhide HN, unhide HX3⟩
          case measure => simp [intOf]; omega
        · have e2 : (z != 0) = true := by rw [bne_iff_ne]; exact hc0
          have hRc : R = z := by rw [unhide HR2]; exact unhide HC1 hc0
          subst hRc
          clear hc0 HC0 HC1
          go_wp2_with fail
          go_ret
          exact ⟨rfl, (unhide HX3).low⟩
      · have hkn : k = s.rows.length := by omega
        have hR0 : R = 0 := by rw [unhide HR2, ← hkn]; exact unhide HF
        subst hR0
        go_wp2_with fail
        go_ret
        exact ⟨rfl, unhide HLW⟩
end Go.Proofs.YtlanogkijgapdaaDoor
