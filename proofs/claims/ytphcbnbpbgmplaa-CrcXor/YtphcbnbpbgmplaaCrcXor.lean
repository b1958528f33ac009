/- The walk of the law CrcXor: for every three texts the call returns true, and nothing that was there has turned. -/
import Derived.Test.YtphcbnbpbgmplaaXor
namespace Go.Proofs.Ytphcbnbpbgmplaa
open Go.RowKit
set_option linter.unusedVariables false

theorem run_min4 {P : Program} (w : World) (ts : Array TypeId) (t : TypeId) (x y z u : Int) : ∃ m : Int, m = min (min (min x y) z) u ∧ (Builtin.min_ ts t #[.int .i64 x, .int .i64 y, .int .i64 z, .int .i64 u]).run P w = .ok (.int .i64 m) w := by
  refine ⟨_, rfl, ?_⟩
  simp [Builtin.min_, Builtin.min2]
  omega

set_option maxHeartbeats 400000 in
theorem crcXor_walk (a0 : ByteArray) (w0 : a0.size ≤ maxLen) (a1 : ByteArray) (w1 : a1.size ≤ maxLen) (a2 : ByteArray) (w2 : a2.size ≤ maxLen) (w : World) :
    Calls Try.prog 7 #[.string a0, .string a1, .string a2] w fun e w' => e = .returned (.bool true) ∧ Below w.heap.size w w' := by
  unfold maxLen at *
  obtain ⟨m, hm, hrun⟩ := run_min4 (P := Try.prog) w #[3, 3, 3, 3] 3 a0.size a1.size a2.size 40
  obtain ⟨n, rfl⟩ := Int.eq_ofNat_of_zero_le (show 0 ≤ m by omega)
  have l0 : n ≤ a0.size := by omega
  have l1 : n ≤ a1.size := by omega
  have l2 : n ≤ a2.size := by omega
  have l40 : n ≤ 40 := by omega
  clear hm
  go_enter Try.func7, Try.ntmps7
  go_wp2_with fail
  go_region
  have s0 : (a0.extract 0 n).size = n := by simp; omega
  have s1 : (a1.extract 0 n).size = n := by simp; omega
  have s2 : (a2.extract 0 n).size = n := by simp; omega
  generalize a0.extract 0 n = A at *
  generalize a1.extract 0 n = B at *
  generalize a2.extract 0 n = C at *
  have X1 := hide (fun wx => xor_any A B wx (by unfold maxLen; omega) (by omega))
  obtain ⟨U, hU⟩ : ∃ U : ByteArray, U = ⟨(Crc.xorL A.data.toList B.data.toList).toArray⟩ := ⟨_, rfl⟩
  have sA : A.data.toList.length = n := s0
  have sB : B.data.toList.length = n := s1
  have sC : C.data.toList.length = n := s2
  have hUd : U.data.toList = Crc.xorL A.data.toList B.data.toList := by rw [hU]
  have sU : U.data.toList.length = n := by rw [hUd, Crc.xorL_length _ _ (by omega)]; exact sA
  have sU' : U.size = n := sU
  have X2 := hide (fun wx => xor_any U C wx (by unfold maxLen; omega) (by omega))
  obtain ⟨V, hV⟩ : ∃ V : ByteArray, V = ⟨(Crc.xorL U.data.toList C.data.toList).toArray⟩ := ⟨_, rfl⟩
  have hVd : V.data.toList = Crc.xorL U.data.toList C.data.toList := by rw [hV]
  have sV : V.data.toList.length = n := by rw [hVd, Crc.xorL_length _ _ (by omega)]; exact sU
  have sV' : V.size = n := sV
  rw [← hU] at X1
  rw [← hV] at X2
  have O3 := hide (fun wx => of_one V wx (by unfold maxLen; omega))
  have OA := hide (fun wx => of_one A wx (by unfold maxLen; omega))
  have OB := hide (fun wx => of_one B wx (by unfold maxLen; omega))
  have OC := hide (fun wx => of_one C wx (by unfold maxLen; omega))
  rw [hVd, hUd, Crc.crc_xor3 _ _ _ (by omega) (by omega)] at O3
  have lA := Crc.crc_lt A.data.toList
  have lB := Crc.crc_lt B.data.toList
  have lC := Crc.crc_lt C.data.toList
  generalize Crc.crc A.data.toList = NA at *
  generalize Crc.crc B.data.toList = NB at *
  generalize Crc.crc C.data.toList = NC at *
  have e1 := u32_xor_nat NA NB lA lB
  have e2 := u32_xor_nat (NA ^^^ NB) NC (Crc.xor_lt lA lB) lC
  clear hU hV hUd hVd sA sB sC sU sV sU' sV' s0 s1 s2 lA lB lC l0 l1 l2 l40 hrun w0 w1 w2
  go_wp2_with fail
  refine (awake_any _).mono ?_
  rintro e v1 ⟨rfl, hb1⟩
  go_wp2_with fail
  refine (unhide X1 _).mono ?_
  rintro e v2 ⟨rfl, hb2⟩
  go_wp2_with fail
  refine (unhide X2 _).mono ?_
  rintro e v3 ⟨rfl, hb3⟩
  go_wp2_with fail
  refine (unhide O3 _).mono ?_
  rintro e v4 ⟨rfl, hb4⟩
  go_wp2_with fail
  refine (unhide OA _).mono ?_
  rintro e v5 ⟨rfl, hb5⟩
  go_wp2_with fail
  refine (unhide OB _).mono ?_
  rintro e v6 ⟨rfl, hb6⟩
  go_wp2_with fail
  refine (unhide OC _).mono ?_
  rintro e v7 ⟨rfl, hb7⟩
  have fin : Below w.heap.size w v7 := by
    have z1 := hb1.size
    have z2 := hb2.size
    have z3 := hb3.size
    have z4 := hb4.size
    have z5 := hb5.size
    have z6 := hb6.size
    have b0 : Below w.heap.size w w.drew := (Below.refl _ _).drew
    have z0 : w.drew.heap.size = w.heap.size := rfl
    refine ((((((b0.trans (hb1.mono ?_)).trans (hb2.mono ?_)).trans (hb3.mono ?_)).trans (hb4.mono ?_)).trans (hb5.mono ?_)).trans (hb6.mono ?_)).trans (hb7.mono ?_)
    all_goals omega
  clear hb1 hb2 hb3 hb4 hb5 hb6 hb7
  go_wp2
  go_ret
  exact ⟨rfl, fin⟩
end Go.Proofs.Ytphcbnbpbgmplaa
