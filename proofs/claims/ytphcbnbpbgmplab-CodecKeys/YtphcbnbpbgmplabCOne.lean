/- The contracts of Cut and of the reference's U; the walk of the law CodecOne: for every text the call returns true, and nothing that was there has turned. -/
import Derived.Test.YtphcbnbpbgmplabCOut2
import Derived.Test.YtphcbnbpbgmplabCOneMath
namespace Go.Proofs.Ytphcbnbpbgmplab
open Go.RowKit
set_option linter.unusedVariables false

set_option maxHeartbeats 400000 in
theorem cut_any (s : ByteArray) (n : Nat) (w : World) (hs : s.size ≤ maxLen) :
    Calls Try.prog 8 #[.string s, .int .i64 n] w fun e w' => e = .returned (.string (S (s.data.toList.take n))) ∧ w' = w := by
  unfold maxLen at hs
  have ht : s.extract 0 n = S (s.data.toList.take n) := S_take s.data.toList n
  by_cases h : n < s.size
  · go_enter Try.func8, Try.ntmps8
    go_wp2
    go_ret
    exact ⟨rfl, rfl⟩
  · have e : S (s.data.toList.take n) = s := by
      rw [List.take_of_length_le (by show s.size ≤ n; omega)]; rfl
    rw [e]
    clear e ht
    go_enter Try.func8, Try.ntmps8
    go_wp2
    go_ret
    exact ⟨rfl, rfl⟩

theorem one_back (w : World) (a : UInt8) :
    (convert 25 9 (.slice (some ⟨w.heap.size, 0, none⟩) 1 1)).run Try.prog (w.alloc (.cells #[.int .u8 (a.toNat : Int)] 5)) =
      .ok (.string (S [a])) (w.alloc (.cells #[.int .u8 (a.toNat : Int)] 5)) := by
  refine run_convert_bytes_back _ 25 9 5 ⟨w.heap.size, 0, none⟩ 1 [a] under_bytes under_byte under_string ?_
  intro j hj
  simp at hj
  subst hj
  rw [plain_add]
  simp

theorem S_append (a b : List UInt8) : S a ++ S b = S (a ++ b) := by
  apply ByteArray.ext
  simp [S]

set_option maxHeartbeats 400000 in
theorem refU_any (n : Nat) (w : World) (hn : n < 18446744073709551616) :
    Calls Try.prog 15 #[.int .u64 n] w fun e w' => e = .returned (.string (S (Codec.enc n))) ∧ Below w.heap.size w w' := by
  have hb8 := Codec.blen_le n hn
  go_enter Try.func15, Try.ntmps15
  go_wp2_with fail
  go_loopw [0, 3, 4] (fun x s i wr => ∃ k : Nat, k ≤ Codec.blen n ∧ i = .int .i64 k ∧ x = .int .u64 (n / 256 ^ k : Nat) ∧ s = .string (S (Codec.be k n)) ∧ Below w.heap.size w wr) (fun _ _ i _ => 8 - (intOf i).toNat)
  case atStart => exact ⟨0, Nat.zero_le _, rfl, by simp, rfl, Below.refl _ _⟩
  case round =>
    obtain ⟨k, hk, rfl, rfl, rfl, hbw⟩ := hrel
    have hlf := Codec.left_iff n k hn
    have hsz : (S (Codec.be k n)).size = k := by rw [S_size, Codec.be_length]
    by_cases hlt : k < Codec.blen n
    · have hpos := hlf.2 hlt
      have HBC := hide (Codec.be_cons k n)
      have HDD : Hid (n / 256 ^ (k + 1) = n / 256 ^ k / 256) := by
        show _ = _
        rw [Nat.pow_succ, Nat.div_div_eq_div_mul]
      have hxl : n / 256 ^ k < 18446744073709551616 := Nat.lt_of_le_of_lt (Nat.div_le_self _ _) hn
      generalize n / 256 ^ k = x at *
      have hbyte := Codec.byte_of x
      have hb2 : ((x : Int) % 256) = ((UInt8.ofNat (x % 256)).toNat : Int) := by rw [hbyte]; omega
      have k1 := one_back wr (UInt8.ofNat (x % 256))
      rw [← hb2] at k1
      have hap := S_append [UInt8.ofNat (x % 256)] (Codec.be k n)
      have hz1 : (S [UInt8.ofNat (x % 256)]).size = 1 := rfl
      clear hbyte hb2 hlf
      go_wp2
      exact ⟨⟨k + 1, by omega, by go_num, by rw [unhide HDD]; go_num, by rw [unhide HBC], hbw.alloc hbw.size _⟩, by simp [intOf]; omega⟩
    · have hkb : k = Codec.blen n := by omega
      have hx0 : n / 256 ^ k = 0 := by
        rcases Nat.eq_zero_or_pos (n / 256 ^ k) with h | h
        · exact h
        · exact absurd (hlf.1 h) hlt
      have HE : Hid (Codec.enc n = UInt8.ofNat k :: Codec.be k n) := by
        show _ = _
        unfold Codec.enc; rw [hkb]
      rw [hx0]
      have hk8 : k ≤ 8 := by omega
      clear hlf hx0 hlt hk hb8 hkb
      have hb2 : ((k : Nat) : Int) = ((UInt8.ofNat k).toNat : Int) := u8_of k (by omega)
      have k1 := one_back wr (UInt8.ofNat k)
      rw [← hb2] at k1
      have hap := S_append [UInt8.ofNat k] (Codec.be k n)
      have hz1 : (S [UInt8.ofNat k]).size = 1 := rfl
      clear hb2
      by_cases hk7 : k < 8
      · go_wp2
        go_ret
        exact ⟨ret_string (by rw [unhide HE]), hbw.alloc hbw.size _⟩
      · go_wp2
        go_ret
        exact ⟨ret_string (by rw [unhide HE]), hbw.alloc hbw.size _⟩

set_option maxHeartbeats 400000 in
theorem codecOne_walk (a0 : ByteArray) (w0 : a0.size ≤ maxLen) (w : World) :
    Calls Try.prog 4 #[.string a0] w fun e w' => e = .returned (.bool true) ∧ Below w.heap.size w w' := by
  have hcut := hide (cut_any a0 12 w w0)
  have hl12 : (a0.data.toList.take 12).length ≤ 12 := by simp; omega
  clear w0
  generalize a0.data.toList.take 12 = l at *
  have HRD := hide (read_any l w (by omega))
  have hone := Codec.takeU_one l
  have hul := Codec.takeU_lt (l, 0)
  go_enter Try.func4, Try.ntmps4
  go_wp2_with fail
  refine (unhide hcut).mono ?_
  rintro e w' ⟨rfl, rfl⟩
  clear hcut
  go_wp2_with fail
  refine (unhide HRD).mono ?_
  rintro e w1 ⟨rfl, hin1, hb1, hz1⟩
  clear HRD
  go_wp2_with fail
  refine (awake_any _).mono ?_
  rintro e w2 ⟨rfl, hb2⟩
  have HU := hide (u_any _ _ w2 (hin1.later hb2))
  have HE := hide (fun wx hx => err_any w'.heap.size (Codec.takeU (l, 0)).2 wx hx)
  have HL := hide (fun wx hx => len_any w'.heap.size (Codec.takeU (l, 0)).2 wx hx)
  have HRU := hide (fun wx => refU_any (Codec.takeU (l, 0)).1 wx hul)
  have hbb : Below w'.heap.size w' w2 := hb1.trans (hb2.mono hb1.size)
  clear hin1 hb1 hb2 hz1
  generalize Codec.takeU (l, 0) = p at *
  obtain ⟨n, st⟩ := p
  obtain ⟨rest, er⟩ := st
  simp only at HU HE HL HRU hone hul
  go_wp2_with fail
  refine (unhide HU).mono ?_
  rintro e w3 ⟨rfl, hin3, hbut3⟩
  have hb3 : Below w'.heap.size w' w3 := hbb.trans (hbut3.below (Nat.le_refl _) hbb.size)
  clear HU hbb hbut3
  go_wp2_with fail
  refine (unhide HE w3 hin3).mono ?_
  rintro e w4 ⟨rfl, rfl⟩
  clear HE
  by_cases her : er = 0
  · subst her
    have HLL := hide (hone.2 rfl)
    clear hone
    go_wp2_with fail
    refine (unhide HRU _).mono ?_
    rintro e w5 ⟨rfl, hb5⟩
    have hl := unhide HLL
    have hb6 : Below w'.heap.size w' w5 := hb3.trans (hb5.mono hb3.size)
    have HL5 := hide (unhide HL w5 (hin3.later hb5))
    clear HL hb5 hin3 hb3
    have hlen : l.length = (Codec.enc n).length + rest.length := by rw [hl, List.length_append]
    have hsl : (S l).size = l.length := S_size l
    have hse : (S (Codec.enc n)).size = (Codec.enc n).length := S_size _
    have hex : (S l).extract 0 (Codec.enc n).length = S (Codec.enc n) := by
      rw [S_take, hl]; simp
    have HLEN := hide hlen
    have hle : (Codec.enc n).length ≤ l.length := by omega
    clear hl hlen HLL HRU
    generalize Codec.enc n = en at *
    go_wp2_with fail
    refine (unhide HL5).mono ?_
    rintro e w6 ⟨rfl, rfl⟩
    have hq : (((rest.length : Nat) : Int) == ((l.length : Nat) : Int) - ((en.length : Nat) : Int)) = true := by
      have := unhide HLEN
      rw [beq_iff_eq]; omega
    go_wp2
    go_ret
    exact ⟨rfl, hb6⟩
  · have hn0 := hone.1 her
    have hne : (er != 0) = true := by rw [bne_iff_ne]; exact her
    subst hn0
    clear hone her
    go_wp2
    go_ret
    exact ⟨rfl, hb3⟩
end Go.Proofs.Ytphcbnbpbgmplab
