/- The contracts of Cut and of the reference's U; the walk of the law CodecOne: for every text the call returns true, and nothing that was there has turned. -/
import Derived.Test.YthchnfgokkcepaaDoorCOut2
import Derived.Test.YthchnfgokkcepaaDoorCOneMath
namespace Go.Proofs.YthchnfgokkcepaaDoor
open Go.RowKit
set_option linter.unusedVariables false
set_option maxRecDepth 100000

set_option maxHeartbeats 400000 in
theorem cut_any (s : ByteArray) (n : Nat) (w : World) (hs : s.size ≤ maxLen) :
    Calls Tryd.prog 19 #[.string s, .int .i64 n] w fun e w' => e = .returned (.string (S (s.data.toList.take n))) ∧ w' = w := by
  unfold maxLen at hs
  have ht : s.extract 0 n = S (s.data.toList.take n) := S_take s.data.toList n
  by_cases h : n < s.size
  · go_enter Tryd.func19, Tryd.ntmps19
    go_wp2
    go_ret
    exact ⟨rfl, rfl⟩
  · have e : S (s.data.toList.take n) = s := by
      rw [List.take_of_length_le (by show s.size ≤ n; omega)]; rfl
    rw [e]
    clear e ht
    go_enter Tryd.func19, Tryd.ntmps19
    go_wp2
    go_ret
    exact ⟨rfl, rfl⟩

theorem one_back (w : World) (a : UInt8) :
    (convert 70 9 (.slice (some ⟨w.heap.size, 0, none⟩) 1 1)).run Tryd.prog (w.alloc (.cells #[.int .u8 (a.toNat : Int)] 5)) =
      .ok (.string (S [a])) (w.alloc (.cells #[.int .u8 (a.toNat : Int)] 5)) := by
  refine run_convert_bytes_back _ 70 9 5 ⟨w.heap.size, 0, none⟩ 1 [a] under_bytes under_byte under_string ?_
  intro j hj
  simp at hj
  subst hj
  rw [plain_add]
  simp

theorem S_append (a b : List UInt8) : S a ++ S b = S (a ++ b) := by
  apply ByteArray.ext
  simp [S]

set_option maxRecDepth 100000 in
set_option maxHeartbeats 400000 in
theorem refU_any (n : Nat) (w : World) (hn : n < 18446744073709551616) :
    Calls Tryd.prog 64 #[.int .u64 n] w fun e w' => e = .returned (.string (S (Codec.enc n))) ∧ Below w.heap.size w w' := by
  have hb8 := Codec.blen_le n hn
  go_enter Tryd.func64, Tryd.ntmps64
  go_wp2_with fail
  go_loopw [0, 3, 4] (fun x s i wr => ∃ k : Nat, k ≤ Codec.blen n ∧ i = .int .i64 k ∧ x = .int .u64 (n / 256 ^ k : Nat) ∧ s = .string (S (Codec.be k n)) ∧ Below w.heap.size w wr) (fun _ _ i _ => 8 - (intOf i).toNat)
  case atStart => exact ⟨0, Nat.zero_le _, rfl, by simp, rfl, Below.refl _ _⟩
  case round =>
    obtain ⟨k, hk, rfl, rfl, rfl, hbw⟩ := hrel
    have hlf := Codec.left_iff n k hn
    have hsz : (S (Codec.be k n)).size = k := by rw [S_size, Codec.be_length]
    by_cases hlt : k < Codec.blen n
    · have hpos := hlf.2 hlt
      have HBC := hide (Codec.be_cons k n)
      have HDD : Hid (n / 256 ^ (k + 1) = n / 256 ^ k / 256) := by
        show _ = _
        rw [Nat.pow_succ, Nat.div_div_eq_div_mul]
      have hxl : n / 256 ^ k < 18446744073709551616 := Nat.lt_of_le_of_lt (Nat.div_le_self _ _) hn
      generalize n / 256 ^ k = x at *
      have hbyte := Codec.byte_of x
      have hb2 : ((x : Int) % 256) = ((UInt8.ofNat (x % 256)).toNat : Int) := by rw [hbyte]; omega
      have k1 := one_back wr (UInt8.ofNat (x % 256))
      rw [← hb2] at k1
      have hap := S_append [UInt8.ofNat (x % 256)] (Codec.be k n)
      have hz1 : (S [UInt8.ofNat (x % 256)]).size = 1 := rfl
      clear hbyte hb2 hlf
      go_wp2
      exact ⟨⟨k + 1, by omega, by go_num, by rw [unhide HDD]; go_num, by rw [unhide HBC], hbw.alloc hbw.size _⟩, by simp [intOf]; omega⟩
    · have hkb : k = Codec.blen n := by omega
      have hx0 : n / 256 ^ k = 0 := by
        rcases Nat.eq_zero_or_pos (n / 256 ^ k) with h | h
        · exact h
        · exact absurd (hlf.1 h) hlt
      have HE : Hid (Codec.enc n = UInt8.ofNat k :: Codec.be k n) := by
        show _ = _
        unfold Codec.enc; rw [hkb]
      rw [hx0]
      have hk8 : k ≤ 8 := by omega
      clear hlf hx0 hlt hk hb8 hkb
      have hb2 : ((k : Nat) : Int) = ((UInt8.ofNat k).toNat : Int) := u8_of k (by omega)
      have k1 := one_back wr (UInt8.ofNat k)
      rw [← hb2] at k1
      have hap := S_append [UInt8.ofNat k] (Codec.be k n)
      have hz1 : (S [UInt8.ofNat k]).size = 1 := rfl
      clear hb2
      by_cases hk7 : k < 8
      · go_wp2
        go_ret
        exact ⟨ret_string (by rw [unhide HE]), hbw.alloc hbw.size _⟩
      · go_wp2
        go_ret
        exact ⟨ret_string (by rw [unhide HE]), hbw.alloc hbw.size _⟩

end Go.Proofs.YthchnfgokkcepaaDoor
