/- DeviceMay's walk. -/
import Derived.Test.YtbggjkokfbcbcaaDAwake
namespace Go.Proofs.Ytbggjkokfbcbcaa
open Go.RowKit
set_option linter.unusedVariables false

set_option maxHeartbeats 1600000 in
theorem may_any (a : Int) (w : World) (h : a ≤ 131072) :
    Calls Try.prog 6 #[.int .i64 a] w fun e w' => e = .returned (.bool true) ∧ Below w.heap.size w w' := by
  have HAW := hide (fun w => awake_any w)
  by_cases hm : 1 ≤ a ∧ a ≤ 65536
  · obtain ⟨n, rfl⟩ : ∃ n : Nat, a = (n : Int) := ⟨a.toNat, by omega⟩
    have HNEW := hide (new_ok n w (by omega) (by omega))
    have hlen : (Dev.new n).L.length = n := by simp [Dev.new]
    have HLEN := hide (fun b w' (h : DevAt w.heap.size w' b (Dev.new n)) => len_any h)
    rw [hlen] at HLEN
    generalize Dev.new n = D0 at *
    clear hlen
    have h1 : (1 : Int) ≤ (n : Int) := by omega
    have h2 : (n : Int) ≤ 65536 := by omega
    clear hm
    go_enter Try.func6, Try.ntmps6
    go_wp2_with fail
    refine (unhide HNEW).mono ?_
    rintro e w1 ⟨b, rfl, hd1, hb1⟩
    have HD1 := hide hd1
    have HB1 := hide hb1
    clear hd1 hb1 HNEW
    go_wp2_with fail
    refine (unhide HAW w1).mono ?_
    rintro e w2 ⟨rfl, hb2⟩
    have HD2 := hide ((unhide HD1).later hb2).1
    have HB2 := hide ((unhide HB1).trans (hb2.mono (unhide HB1).size))
    clear hb2 HD1 HB1 HAW
    go_wp2_with fail
    refine (unhide HLEN b w2 (unhide HD2)).mono ?_
    rintro e w3 ⟨rfl, rfl⟩
    go_wp2_with fail
    go_ret
    exact ⟨rfl, unhide HB2⟩
  · have HNEW := hide (new_no a w (by omega))
    have hb : (decide (1 ≤ a) && decide (a ≤ 65536)) = false := by simp; omega
    go_enter Try.func6, Try.ntmps6
    go_wp2_with fail
    refine (unhide HNEW).mono ?_
    rintro e w1 ⟨rfl, rfl⟩
    by_cases h1 : 1 ≤ a
    · have h2 : 65536 < a := by omega
      clear hm hb
      go_wp2_with fail
      refine (unhide HAW w1).mono ?_
      rintro e w2 ⟨rfl, hb2⟩
      have HB2 := hide hb2
      clear hb2
      go_wp2_with fail
      go_ret
      exact ⟨rfl, unhide HB2⟩
    · have h2 : a < 1 := by omega
      clear hm hb
      go_wp2_with fail
      refine (unhide HAW w1).mono ?_
      rintro e w2 ⟨rfl, hb2⟩
      have HB2 := hide hb2
      clear hb2
      go_wp2_with fail
      go_ret
      exact ⟨rfl, unhide HB2⟩

set_option maxHeartbeats 1600000 in
theorem deviceMay_walk (a0 : Int) (w0 : (Lit.int .i64 a0).wf = true) (w : World) :
    Calls Try.prog 6 #[.int .i64 a0] w fun e w' => e = .returned (.bool true) ∧ Below w.heap.size w w' := by
  by_cases h : a0 ≤ 131072
  · exact may_any a0 w h
  · have HAW := hide (fun w => awake_any w)
    have HNEW := hide (new_no 131072 w (by omega))
    have h2 : 131072 < a0 := by omega
    go_enter Try.func6, Try.ntmps6
    go_wp2_with fail
    refine (unhide HNEW).mono ?_
    rintro e w1 ⟨rfl, rfl⟩
    go_wp2_with fail
    refine (unhide HAW w1).mono ?_
    rintro e w2 ⟨rfl, hb2⟩
    have HB2 := hide hb2
    clear hb2
    go_wp2_with fail
    go_ret
    exact ⟨rfl, unhide HB2⟩
end Go.Proofs.Ytbggjkokfbcbcaa
