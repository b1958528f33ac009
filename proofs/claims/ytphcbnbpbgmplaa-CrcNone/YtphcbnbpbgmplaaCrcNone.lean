/- The walk of the law CrcNone: for every number the call returns true, and nothing that was there has turned. -/
import Derived.Test.YtphcbnbpbgmplaaRef
import Derived.Deep.OwnRows
namespace Go.Proofs.Ytphcbnbpbgmplaa
open Go.RowKit
set_option linter.unusedVariables false

theorem and31 (n : Int) : bits .and .i64 n 31 = n % 32 := by
  have h1 : (BitVec.ofInt 64 31).toNat = 31 := by decide
  show IntKind.i64.wrap ((BitVec.ofInt 64 n &&& BitVec.ofInt 64 31).toNat : Int) = _
  rw [BitVec.toNat_and, h1, show (31 : Nat) = 2 ^ 5 - 1 by decide, Nat.and_two_pow_sub_one_eq_mod, IntKind.wrap_i64, BitVec.toNat_ofInt]
  omega

theorem zeros_crc : ∀ m : Fin 32, (Crc.crc (List.replicate m.val 0) == 0) = (m.val == 0) := by decide +kernel

theorem made_at (z : Value) (n i : Nat) (h : i < n) : (madeCells #[z] n)[i]? = some z := by
  simp [madeCells, h, Nat.mod_one]

theorem under29 : Try.prog.underlying 29 = some (.slice 9) := by kernel_rfl

theorem crc_nil : Crc.crc [] = 0 := by decide +kernel

theorem flat_empty (m : Nat) : flat (List.replicate m ⟨#[]⟩) = [] := by
  simp [flat]

theorem of_made (m : Nat) (w : World) (h : m < 32) :
    Calls Try.prog 11 #[.slice (some ⟨w.heap.size, 0, none⟩) m m] (w.alloc (.cells (madeCells #[.string ⟨#[]⟩] m) 9)) fun e w' =>
      e = .returned (.int .u32 0) ∧ Below w.heap.size w w' := by
  have h := of_some (List.replicate m ⟨#[]⟩) w.heap.size 0 m (w.alloc (.cells (madeCells #[.string ⟨#[]⟩] m) 9)) (by unfold maxLen; simp; omega)
    (by intro i hi; simp [maxLen]; exact Nat.zero_le _) (by simp) (by
      intro i hi
      simp at hi
      rw [World.cell?_alloc_mark, Nat.zero_add, made_at _ m i hi]
      simp)
  rw [flat_empty, crc_nil, List.length_replicate] at h
  refine h.mono ?_
  rintro e w' ⟨rfl, hb⟩
  exact ⟨rfl, (Below.alloc (Below.refl _ _) (Nat.le_refl _) _).trans (hb.mono (by simp))⟩

theorem zeros_back (m : Nat) (w : World) :
    (convert 37 9 (.slice (some ⟨w.heap.size, 0, none⟩) m m)).run Try.prog (w.alloc (.cells (madeCells #[.int .u8 0] m) 5)) =
      .ok (.string (strOfNums (List.replicate m 0))) (w.alloc (.cells (madeCells #[.int .u8 0] m) 5)) := by
  refine run_convert_bytes_arg _ 37 5 under37 under5 w.heap.size 0 m m (List.replicate m 0) (by simp) ?_ 9 under9
  intro i hi
  rw [World.cell?_alloc_mark, Nat.zero_add, made_at _ m i hi]
  simp [List.getD, hi]

theorem zeros_data (m : Nat) : (strOfNums (List.replicate m 0)).data.toList = List.replicate m 0 := by
  rw [strOfNums_data]; simp

set_option maxHeartbeats 400000 in
theorem crcNone_walk (a0 : Int) (w0 : (Lit.int .i64 a0).wf = true) (w : World) :
    Calls Try.prog 6 #[.int .i64 a0] w fun e w' => e = .returned (.bool true) ∧ Below w.heap.size w w' := by
  have hand := and31 a0
  obtain ⟨m, hm⟩ := Int.eq_ofNat_of_zero_le (Int.emod_nonneg a0 (show (32 : Int) ≠ 0 by decide))
  have hml : m < 32 := by omega
  rw [hm] at hand
  clear hm
  have k1 := run_make_row' (P := Try.prog) 29 9 (.string ⟨#[]⟩) 16 under29 (by kernel_rfl) rfl .i64 .i64 m (by omega) (by omega)
  have k2 := run_make_row' (P := Try.prog) 37 5 (.int .u8 0) 1 under37 (by kernel_rfl) rfl .i64 .i64 m (by omega) (by omega)
  have hnil : Crc.crc (flat []) = 0 := by decide +kernel
  go_enter Try.func6, Try.ntmps6
  go_wp2_with fail
  refine (awake_any _).mono ?_
  rintro e w1 ⟨rfl, hb1⟩
  go_wp2_with fail
  refine (of_nil _).mono ?_
  rintro e w2 ⟨rfl, hb2⟩
  go_wp2_with fail
  refine (of_made m _ hml).mono ?_
  rintro e w3 ⟨rfl, hb3⟩
  have k3 := zeros_back m w3
  go_wp2_with fail
  have hz : (strOfNums (List.replicate m 0)).size ≤ maxLen := by rw [strOfNums_size]; unfold maxLen; simp; omega
  have hof := of_one (strOfNums (List.replicate m 0)) (w3.alloc (.cells (madeCells #[.int .u8 0] m) 5)) hz
  rw [zeros_data] at hof
  have hcz := zeros_crc ⟨m, hml⟩
  simp only at hcz
  have hsz : (w3.alloc (.cells (madeCells #[.int .u8 0] m) 5)).heap.size = w3.heap.size + 1 := by simp
  rw [hsz] at hof
  have hb4 : Below w3.heap.size w3 (w3.alloc (.cells (madeCells #[.int .u8 0] m) 5)) := Below.alloc (Below.refl _ _) (Nat.le_refl _) _
  generalize Crc.crc (List.replicate m 0) = c at *
  refine hof.mono ?_
  rintro e w4 ⟨rfl, hb5⟩
  have fin : Below w.heap.size w w4 := by
    have z1 := hb1.size
    have z2 := hb2.size
    have z3 := hb3.size
    refine (((hb1.trans (hb2.mono ?_)).trans (hb3.mono ?_)).trans (hb4.mono ?_)).trans (hb5.mono ?_)
    all_goals omega
  clear hof k3 hb1 hb2 hb3 hb4 hb5 hsz hz hnil hand
  rcases Nat.eq_zero_or_pos m with hm0 | hm0
  · have e1 : (((m : Nat) : Int) == 0) = true := by rw [beq_iff_eq]; omega
    have e2 : (((c : Nat) : Int) == 0) = true := by
      have : (m == 0) = true := by rw [beq_iff_eq]; exact hm0
      rw [this, beq_iff_eq] at hcz
      rw [beq_iff_eq]; omega
    clear hcz hm0
    go_wp2
    go_ret
    exact ⟨rfl, fin⟩
  · have e1 : (((m : Nat) : Int) == 0) = false := by rw [beq_eq_false_iff_ne]; omega
    have e2 : (((c : Nat) : Int) == 0) = false := by
      have : (m == 0) = false := by rw [beq_eq_false_iff_ne]; omega
      rw [this, beq_eq_false_iff_ne] at hcz
      rw [beq_eq_false_iff_ne]; omega
    clear hcz hm0
    go_wp2
    go_ret
    exact ⟨rfl, fin⟩
end Go.Proofs.Ytphcbnbpbgmplaa
