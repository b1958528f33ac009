/- The contracts of Cut and of the reference's sum: the reference's sum is the same plain function. -/
import Derived.Test.YtbggjkokfbcbcaaDoorKOf
import Derived.Laws.BytesArg
namespace Go.Proofs.YtbggjkokfbcbcaaDoor
open Go.RowKit
set_option linter.unusedVariables false
set_option maxRecDepth 100000

/- A round of the reference: the number and the byte, each halved. -/
theorem ref_step (n c : Nat) : ((if (n + c) % 2 = 1 then n / 2 ^^^ Crc.poly else n / 2) ^^^ c / 2) = Crc.step (n ^^^ c) := by
  have hm := Crc.xor_mod_two n c
  have hd := Crc.xor_div_two n c
  by_cases h : (n + c) % 2 = 1
  · rw [if_pos h, Crc.step_odd (by omega), hd, Nat.xor_assoc, Nat.xor_assoc, Nat.xor_comm Crc.poly]
  · rw [if_neg h, Crc.step_even (by omega), hd]

set_option maxHeartbeats 400000 in
theorem ref_any (s : ByteArray) (w : World) (hs : s.size ≤ maxLen) :
    Calls Tryd.prog 14 #[.string s] w fun e w' => e = .returned (.int .u32 (Crc.crc s.data.toList : Nat)) ∧ w' = w := by
  unfold maxLen at hs
  go_enter Tryd.func14, Tryd.ntmps14
  go_wp2
  go_loop [3, 4] (fun n i => ∃ k : Nat, k ≤ s.size ∧ i = .int .i64 k ∧ n = .int .u32 (Crc.feed Crc.ones (s.data.toList.take k) : Nat)) (fun _ i => s.size - (intOf i).toNat)
  case atStart => exact ⟨0, Nat.zero_le _, rfl, rfl⟩
  case round =>
    obtain ⟨k, hk, rfl, rfl⟩ := hrel
    have hm := Crc.feed_lt (n := Crc.ones) (s.data.toList.take k) (by unfold Crc.ones; omega)
    by_cases hlt : k < s.size
    · have HS := hide (feed_snoc Crc.ones s k hlt)
      generalize Crc.feed Crc.ones (s.data.toList.take k) = m at *
      have hb := s[k].toNat_lt
      go_wp2
      go_loop [3, 5, 6] (fun n c i => ∃ j n' c' : Nat, j ≤ 8 ∧ i = .int .i64 j ∧ n = .int .u32 n' ∧ c = .int .u32 c' ∧ n' < 4294967296 ∧ c' = s[k].toNat / 2 ^ j ∧ n' ^^^ c' = Crc.steps j (m ^^^ s[k].toNat)) (fun _ _ i => 8 - (intOf i).toNat)
      case atStart => exact ⟨0, m, s[k].toNat, by omega, rfl, rfl, rfl, hm, by simp, rfl⟩
      case round =>
        obtain ⟨j, n', c', hj, rfl, rfl, rfl, hn', hc', hx⟩ := hrel
        have hc256 : c' < 256 := by
          rw [hc']; exact Nat.lt_of_le_of_lt (Nat.div_le_self _ _) (by omega)
        have HC := hide hc'
        have HX := hide hx
        clear hc' hx
        by_cases hjl : j < 8
        · have hrs := ref_step n' c'
          have hc2 : c' / 2 = s[k].toNat / 2 ^ (j + 1) := by rw [unhide HC, Nat.div_div_eq_div_mul, Nat.pow_succ]
          have HC2 := hide hc2
          clear hc2
          have hst := Crc.steps_succ j (m ^^^ s[k].toNat)
          rw [← unhide HX] at hst
          by_cases ho : (n' + c') % 2 = 1
          · rw [if_pos ho] at hrs
            rw [← hrs] at hst
            have HR := hide hst
            have ht : (((n' : Int) + (c' : Int)) % 2 == 1) = true := by rw [beq_iff_eq]; omega
            have hx2 : bits .xor .u32 ((n' : Int) / 2) 3988292384 = ((n' / 2 ^^^ Crc.poly : Nat) : Int) := xor_poly (n' / 2) (by omega)
            clear hrs ho hst
            go_wp2
            exact ⟨⟨j + 1, n' / 2 ^^^ Crc.poly, c' / 2, by omega, by go_num, rfl, by go_num, Crc.xor_lt (by omega) Crc.poly_lt, unhide HC2, (unhide HR).symm⟩, by simp [intOf]; omega⟩
          · rw [if_neg ho] at hrs
            rw [← hrs] at hst
            have HR := hide hst
            have ht : (((n' : Int) + (c' : Int)) % 2 == 1) = false := by rw [beq_eq_false_iff_ne]; omega
            clear hrs ho hst
            go_wp2
            exact ⟨⟨j + 1, n' / 2, c' / 2, by omega, by go_num, by go_num, by go_num, by omega, unhide HC2, (unhide HR).symm⟩, by simp [intOf]; omega⟩
        · have : j = 8 := by omega
          subst this
          have e0 : c' = 0 := by rw [unhide HC]; exact Nat.div_eq_of_lt hb
          have e1 := unhide HX
          rw [e0, Nat.xor_zero, ← unhide HS] at e1
          have E := hide e1
          clear e0 e1
          go_wp2
          exact ⟨⟨k + 1, by omega, by go_num, by rw [unhide E]⟩, by simp [intOf]; omega⟩
    · have : k = s.size := by omega
      subst this
      have e : s.data.toList.take s.size = s.data.toList := List.take_of_length_le (by simp)
      rw [e] at hm ⊢
      have hc : Crc.crc s.data.toList = Crc.ones - Crc.feed Crc.ones s.data.toList := rfl
      generalize Crc.feed Crc.ones s.data.toList = m at *
      have HC := hide hc
      clear hc e
      go_wp2
      go_ret
      rw [unhide HC]
      unfold Crc.ones
      exact ⟨by go_num, rfl⟩

theorem four_back (w : World) (a b c d : Int) :
    (convert 50 9 (.slice (some ⟨w.heap.size, 0, none⟩) 4 4)).run Tryd.prog (w.alloc (.cells #[.int .u8 a, .int .u8 b, .int .u8 c, .int .u8 d] 5)) =
      .ok (.string (strOfNums [a, b, c, d])) (w.alloc (.cells #[.int .u8 a, .int .u8 b, .int .u8 c, .int .u8 d] 5)) := by
  refine run_convert_bytes_arg _ 50 5 under37 under5 w.heap.size 0 4 4 [a, b, c, d] rfl ?_ 9 under9
  intro i hi
  obtain rfl | rfl | rfl | rfl : i = 0 ∨ i = 1 ∨ i = 2 ∨ i = 3 := by omega
  all_goals simp

def four (n : Nat) : ByteArray := strOfNums [(n : Int) % 256, (n : Int) / 256 % 256, (n : Int) / 65536 % 256, (n : Int) / 16777216]

set_option maxHeartbeats 400000 in
theorem bytes_any (n : Nat) (w : World) (hn : n < 4294967296) :
    Calls Tryd.prog 16 #[.int .u32 n] w fun e w' => e = .returned (.string (four n)) ∧ Below w.heap.size w w' := by
  have kc := four_back w ((n : Int) % 256) ((n : Int) / 256 % 256) ((n : Int) / 65536 % 256) ((n : Int) / 16777216)
  go_enter Tryd.func16, Tryd.ntmps16
  go_wp2
  go_ret
  exact ⟨rfl, Below.alloc (Below.refl _ _) (Nat.le_refl _) _⟩

set_option maxHeartbeats 400000 in
theorem refBytes_any (n : Nat) (w : World) (hn : n < 4294967296) :
    Calls Tryd.prog 13 #[.int .u32 n] w fun e w' => e = .returned (.string (four n)) ∧ Below w.heap.size w w' := by
  have kc := four_back w ((n : Int) % 256) ((n : Int) / 256 % 256) ((n : Int) / 65536 % 256) ((n : Int) / 16777216)
  go_enter Tryd.func13, Tryd.ntmps13
  go_wp2
  go_ret
  exact ⟨rfl, Below.alloc (Below.refl _ _) (Nat.le_refl _) _⟩
end Go.Proofs.YtbggjkokfbcbcaaDoor
