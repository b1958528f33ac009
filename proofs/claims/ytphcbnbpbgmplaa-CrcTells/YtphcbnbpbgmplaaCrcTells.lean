/- The walk of the law CrcTells: for every text, place and bits the call returns true, and nothing that was there has turned. -/
import Derived.Test.YtphcbnbpbgmplaaTurn
import Derived.OpenShut
namespace Go.Proofs.Ytphcbnbpbgmplaa
open Go.RowKit
set_option linter.unusedVariables false

theorem ret_bool {a b : Bool} (h : a = b) : Ending.returned (.bool a) = .returned (.bool b) := by rw [h]

theorem tells_bool {l : List UInt8} {s : ByteArray} (h : Crc.crc l = Crc.crc s.data.toList → l = s.data.toList) :
    (((Crc.crc l : Nat) : Int) == ((Crc.crc s.data.toList : Nat) : Int)) = (l == s.toList) := by
  rw [show s.toList = s.data.toList from ByteArray.toList_eq s]
  rw [Bool.eq_iff_iff, beq_iff_eq, beq_iff_eq]
  constructor
  · intro e
    exact h (by omega)
  · intro e
    rw [e]

set_option maxHeartbeats 400000 in
theorem crcTells_walk (a0 : ByteArray) (w0 : a0.size ≤ maxLen) (a1 : Int) (w1 : (Lit.int .i64 a1).wf = true) (a2 : Int) (w2 : (Lit.int .u32 a2).wf = true) (w : World) :
    Calls Try.prog 5 #[.string a0, .int .i64 a1, .int .u32 a2] w fun e w' => e = .returned (.bool true) ∧ Below w.heap.size w w' := by
  have hcs := (cut_size a0 100).1
  have hcut := hide (cut_any a0 100 w w0)
  clear w0
  generalize cut a0 100 = s at *
  by_cases h0 : a1 < 0
  · go_enter Try.func5, Try.ntmps5
    go_wp2_with fail
    refine (unhide hcut).mono ?_
    rintro e w' ⟨rfl, rfl⟩
    go_wp2_with fail
    refine (awake_any _).mono ?_
    rintro e v1 ⟨rfl, hb1⟩
    go_wp2_with fail
    refine (awake_any _).mono ?_
    rintro e v2 ⟨rfl, hb2⟩
    go_wp2
    go_ret
    exact ⟨rfl, hb1.trans (hb2.mono hb1.size)⟩
  · by_cases h1 : 8 * (s.size : Int) ≤ a1
    · go_enter Try.func5, Try.ntmps5
      go_wp2_with fail
      refine (unhide hcut).mono ?_
      rintro e w' ⟨rfl, rfl⟩
      go_wp2_with fail
      refine (awake_any _).mono ?_
      rintro e v1 ⟨rfl, hb1⟩
      go_wp2_with fail
      refine (awake_any _).mono ?_
      rintro e v2 ⟨rfl, hb2⟩
      go_wp2
      go_ret
      exact ⟨rfl, hb1.trans (hb2.mono hb1.size)⟩
    · obtain ⟨t, rfl⟩ := Int.eq_ofNat_of_zero_le (show 0 ≤ a1 by omega)
      have hb2 := bounds_u32 w2
      obtain ⟨b, rfl⟩ := Int.eq_ofNat_of_zero_le hb2.1
      have HTURN := hide (fun wx => turn_any s t b wx hcs (by omega) (by omega))
      have O1 := hide (fun wx => of_one s wx (by unfold maxLen; omega))
      go_enter Try.func5, Try.ntmps5
      go_wp2_with fail
      refine (unhide hcut).mono ?_
      rintro e w' ⟨rfl, rfl⟩
      go_wp2_with fail
      refine (awake_any _).mono ?_
      rintro e v1 ⟨rfl, hb1⟩
      go_wp2_with fail
      refine (unhide HTURN _).mono ?_
      rintro e v2 ⟨l, q, rfl, hb2, hll, hq, hn⟩
      have htell := Crc.crc_tells s.data.toList l t q hll (by simp; omega) hq hn
      have O2 := hide (fun wx => of_one ⟨l.toArray⟩ wx (by unfold maxLen; show l.length ≤ _; omega))
      have hld : (⟨l.toArray⟩ : ByteArray).data.toList = l := rfl
      rw [hld] at O2
      have HTELL := hide htell
      clear htell hld hn hq hll HTURN
      go_wp2_with fail
      refine (unhide O2 _).mono ?_
      rintro e v3 ⟨rfl, hb3⟩
      go_wp2_with fail
      refine (unhide O1 _).mono ?_
      rintro e v4 ⟨rfl, hb4⟩
      go_wp2_with fail
      go_ret
      refine ⟨ret_bool (by rw [tells_bool (unhide HTELL)]; exact beq_self_eq_true _), ?_⟩
      have z1 := hb1.size
      have z2 := hb2.size
      have z3 := hb3.size
      refine ((hb1.trans (hb2.mono ?_)).trans (hb3.mono ?_)).trans (hb4.mono ?_)
      all_goals omega
end Go.Proofs.Ytphcbnbpbgmplaa
