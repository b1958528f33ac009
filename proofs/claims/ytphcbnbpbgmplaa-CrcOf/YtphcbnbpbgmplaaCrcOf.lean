/- The walk of the law CrcOf: for every text the call returns true, and nothing that was there has turned. -/
import Derived.Test.YtphcbnbpbgmplaaRef
namespace Go.Proofs.Ytphcbnbpbgmplaa
open Go.RowKit
set_option linter.unusedVariables false

set_option maxHeartbeats 400000 in
theorem crcOf_walk (a0 : ByteArray) (w0 : a0.size ≤ maxLen) (w : World) :
    Calls Try.prog 3 #[.string a0] w fun e w' => e = .returned (.bool true) ∧ Below w.heap.size w w' := by
  have hcs := cut_size a0 200
  have hcl : (cut a0 200).size ≤ maxLen := by unfold maxLen at *; omega
  have hn := Crc.crc_lt (cut a0 200).data.toList
  have hcut := hide (cut_any a0 200 w w0)
  clear hcs w0
  generalize cut a0 200 = s at *
  go_enter Try.func3, Try.ntmps3
  go_wp2_with fail
  refine (unhide hcut).mono ?_
  rintro e w' ⟨rfl, rfl⟩
  clear hcut
  go_wp2_with fail
  refine (awake_any _).mono ?_
  rintro e w1 ⟨rfl, hb1⟩
  go_wp2_with fail
  refine (of_one s _ hcl).mono ?_
  rintro e w2 ⟨rfl, hb2⟩
  go_wp2_with fail
  refine (ref_any s _ hcl).mono ?_
  rintro e w3 ⟨rfl, rfl⟩
  go_wp2_with fail
  refine (of_one s _ hcl).mono ?_
  rintro e w4 ⟨rfl, hb4⟩
  go_wp2_with fail
  refine (bytes_any _ _ hn).mono ?_
  rintro e w5 ⟨rfl, hb5⟩
  go_wp2_with fail
  refine (ref_any s _ hcl).mono ?_
  rintro e w6 ⟨rfl, rfl⟩
  go_wp2_with fail
  refine (refBytes_any _ _ hn).mono ?_
  rintro e w7 ⟨rfl, hb7⟩
  go_wp2
  go_ret
  have z1 := hb1.size
  have z2 := hb2.size
  have z4 := hb4.size
  have z5 := hb5.size
  refine ⟨rfl, ?_⟩
  refine (((hb1.trans (hb2.mono ?_)).trans (hb4.mono ?_)).trans (hb5.mono ?_)).trans (hb7.mono ?_)
  all_goals omega
end Go.Proofs.Ytphcbnbpbgmplaa
