/- What awake of the statements on spaces answers. -/
import Derived.Test.YtemffpkpalncgaaUText
namespace Go.Proofs.Ytemffpkpalncgaa
open Go.RowKit
set_option linter.unusedVariables false

set_option maxHeartbeats 800000 in
theorem uawake_any (w : World) : Calls Try.prog 8 #[] w fun e w' => e = .returned (.bool true) ∧ Below w.heap.size w w' := by
  have HNEW := hide (unew_ok 3 w (by omega) (by omega))
  have HT1 := hide (fun w b g (h : SpAt w.heap.size w b g [0, 0, 0]) => h)
  clear HT1
  have e1 : Sp.first [0, 0, 0] = 0 := by decide
  have e2 : Sp.taken [0, 0, 0] = [2, 0, 0] := by decide
  have e3 : Sp.first [2, 0, 0] = 1 := by decide
  have e4 : Sp.taken [2, 0, 0] = [2, 2, 0] := by decide
  have e5 : Sp.given [2, 2, 0] 0 = [0, 2, 0] := by decide
  have e6 : Sp.first [0, 2, 0] = 0 := by decide
  have e7 : Sp.taken [0, 2, 0] = [2, 2, 0] := by decide
  have e8 : Sp.txt [2, 2, 0] = [3] := by decide
  have H1 := hide (fun B w b g (h : SpAt B w b g [0, 0, 0]) => utake_ok h (by decide))
  have H2 := hide (fun B w b g (h : SpAt B w b g [2, 0, 0]) => utake_ok h (by decide))
  have H3 := hide (fun B w b g (h : SpAt B w b g [2, 2, 0]) => ugive_ok h 0 (by decide))
  have H4 := hide (fun B w b g (h : SpAt B w b g [0, 2, 0]) => utake_ok h (by decide))
  have H5 := hide (fun B w b g (h : SpAt B w b g [2, 2, 0]) => utext_any h)
  have H6 := hide (fun B w b g (h : SpAt B w b g [2, 2, 0]) => ustate_any h (1 : Nat))
  rw [e1, e2] at H1
  rw [e3, e4] at H2
  rw [e5] at H3
  rw [e6, e7] at H4
  rw [e8] at H5
  clear e1 e2 e3 e4 e5 e6 e7 e8
  go_enter Try.func8, Try.ntmps8
  go_wp2_with fail
  refine (unhide HNEW).mono ?_
  rintro e w1 ⟨b, g, rfl, hs1, hb1⟩
  have HS := hide (show SpAt w.heap.size w1 b g [0, 0, 0] from hs1)
  have HB := hide hb1
  have HG := hide hs1.log
  clear hs1 hb1 HNEW
  go_wp2_with fail
  refine (unhide H1 _ _ _ _ (unhide HS)).mono ?_
  rintro e w2 ⟨rfl, hs, hb⟩
  have HB2 := hide ((unhide HB).trans (hb.below (unhide HG) (unhide HB).size))
  have HS2 := hide hs
  clear hs hb HB HS H1
  go_wp2_with fail
  refine (unhide H2 _ _ _ _ (unhide HS2)).mono ?_
  rintro e w3 ⟨rfl, hs, hb⟩
  have HB3 := hide ((unhide HB2).trans (hb.below (unhide HG) (unhide HB2).size))
  have HS3 := hide hs
  clear hs hb HB2 HS2 H2
  go_wp2_with fail
  refine (unhide H3 _ _ _ _ (unhide HS3)).mono ?_
  rintro e w4 ⟨rfl, hs, hb⟩
  have HB4 := hide ((unhide HB3).trans (hb.below (unhide HG) (unhide HB3).size))
  have HS4 := hide hs
  clear hs hb HB3 HS3 H3
  go_wp2_with fail
  refine (unhide H4 _ _ _ _ (unhide HS4)).mono ?_
  rintro e w5 ⟨rfl, hs, hb⟩
  have HB5 := hide ((unhide HB4).trans (hb.below (unhide HG) (unhide HB4).size))
  have HS5 := hide hs
  clear hs hb HB4 HS4 H4
  go_wp2_with fail
  refine (unhide H5 _ _ _ _ (unhide HS5)).mono ?_
  rintro e w6 ⟨rfl, hb⟩
  have HB6 := hide ((unhide HB5).trans (hb.mono (unhide HB5).size))
  have HS6 := hide ((unhide HS5).later hb)
  clear hb HB5 HS5 H5
  have hse : (S [3]).toList = [3] := ByteArray.toList_eq (S [3])
  go_wp2_with fail
  refine (unhide H6 _ _ _ _ (unhide HS6)).mono ?_
  rintro e w7 ⟨rfl, rfl⟩
  have e9 : stAt [2, 2, 0] ((1 : Nat) : Int) = 2 := rfl
  go_wp2_with fail
  go_ret
  exact ⟨rfl, unhide HB6⟩

theorem replicate_count (n : Nat) : Sp.count 0 (List.replicate n 0) = n := by simp [Sp.count]

set_option maxHeartbeats 800000 in
theorem spaceMay_walk (n : Int) (hwf : (Lit.int .i64 n).wf = true) (w : World) : Calls Try.prog 6 #[.int .i64 n] w fun e w' => e = .returned (.bool true) ∧ Below w.heap.size w w' := by
  have HAW := hide (fun w => uawake_any w)
  by_cases hn : 1 ≤ n ∧ n ≤ 128
  · obtain ⟨h1, h2⟩ := hn
    obtain ⟨k, rfl⟩ : ∃ k : Nat, n = (k : Int) := ⟨n.toNat, by omega⟩
    have HNEW := hide (unew_ok k w (by omega) (by omega))
    have HC := hide (fun B w b g (h : SpAt B w b g (List.replicate k 0)) => ucount_any h 0)
    rw [replicate_count] at HC
    clear hwf
    go_enter Try.func6, Try.ntmps6
    go_wp2_with fail
    refine (unhide HNEW).mono ?_
    rintro e w1 ⟨b, g, rfl, hs1, hb1⟩
    have HS := hide hs1
    have HB := hide hb1
    clear hs1 hb1 HNEW
    go_wp2_with fail
    refine (unhide HAW _).mono ?_
    rintro e w2 ⟨rfl, hb⟩
    have HB2 := hide ((unhide HB).trans (hb.mono (unhide HB).size))
    have HS2 := hide ((unhide HS).later hb)
    clear hb HB HS
    go_wp2_with fail
    refine (unhide HC _ _ _ _ (unhide HS2)).mono ?_
    rintro e w3 ⟨rfl, rfl⟩
    go_wp2_with fail
    go_ret
    exact ⟨rfl, unhide HB2⟩
  · have hor : n < 1 ∨ 128 < n := by omega
    have HNEW := hide (unew_no n w hor)
    clear hn hwf
    have hm : n < 1 ∨ (1 ≤ n ∧ 128 < n) := by omega
    clear hor
    rcases hm with h1 | ⟨h1, h2⟩
    all_goals
      go_enter Try.func6, Try.ntmps6
      go_wp2_with fail
      refine (unhide HNEW).mono ?_
      rintro e w1 ⟨rfl, rfl⟩
      clear HNEW
      go_wp2_with fail
      refine (unhide HAW _).mono ?_
      rintro e w2 ⟨rfl, hb⟩
      have HB2 := hide hb
      clear hb
      go_wp2_with fail
      go_ret
      exact ⟨rfl, unhide HB2⟩
end Go.Proofs.Ytemffpkpalncgaa
