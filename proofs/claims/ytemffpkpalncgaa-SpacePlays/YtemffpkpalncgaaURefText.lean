/- The contract of the reference's Text. -/
import Derived.Test.YtemffpkpalncgaaURef
namespace Go.Proofs.Ytemffpkpalncgaa
open Go.RowKit
set_option linter.unusedVariables false

theorem uone_back (w : World) (z : Nat) (hz : z < 256) :
    (convert 56 9 (.slice (some ⟨w.heap.size, 0, none⟩) 1 1)).run Try.prog (w.alloc (.cells #[.int .u8 (z : Int)] 5)) =
      .ok (.string (S [UInt8.ofNat z])) (w.alloc (.cells #[.int .u8 (z : Int)] 5)) := by
  refine run_convert_bytes_back _ 56 9 5 ⟨w.heap.size, 0, none⟩ 1 [UInt8.ofNat z] under_bytes under_byte under_string ?_
  intro j hj
  simp at hj
  subst hj
  rw [plain_add]
  simp
  omega
theorem uS_append (a b : List UInt8) : S a ++ S b = S (a ++ b) := by
  apply ByteArray.ext
  simp [S]
/- The first q bytes. -/
def boT (l : List Nat) (q : Nat) : List UInt8 := (List.range q).map fun k => UInt8.ofNat (Sp.bo l l.length k)
theorem boT_length (l : List Nat) (q : Nat) : (boT l q).length = q := by simp [boT]
theorem boT_next (l : List Nat) (q : Nat) : boT l (q + 1) = boT l q ++ [UInt8.ofNat (Sp.bo l l.length q)] := by simp [boT, List.range_succ]
theorem boT_full (l : List Nat) : boT l ((l.length + 7) / 8) = Sp.txt l := rfl
theorem bo_next (l : List Nat) (q j : Nat) (hj : j < 8) (x : Nat) (hx : l.getD (8 * q + j) 0 = x) : Sp.bo l (8 * q + j + 1) q = Sp.bo l (8 * q + j) q + if x = 1 ∨ x = 2 then 2 ^ j else 0 := by
  show Sp.bo l (8 * q + j) q + _ = _
  rw [hx]
  have e1 : (8 * q + j) / 8 = q := by omega
  have e2 : (8 * q + j) % 8 = j := by omega
  rw [e1, e2]
  congr 1
  by_cases h : x = 1 ∨ x = 2
  · rw [if_pos h, if_pos ⟨rfl, by simpa [Sp.use] using h⟩]
  · rw [if_neg h, if_neg (by rintro ⟨_, h2⟩; exact h (by simpa [Sp.use] using h2))]

set_option maxHeartbeats 3200000 in
theorem rtext_any {base : Nat} {w : World} {v : Value} {l : List Nat} (h : w.ownsRow base 3 1 v l.length (nums l)) (hl : l.length ≤ 128) (hp : 0 < l.length) :
    Calls Try.prog 27 #[v] w fun e w' => e = .returned (.string (S (Sp.txt l))) ∧ Below w.heap.size w w' := by
  obtain ⟨g, c, rfl, _⟩ := row_some h hp
  have HH := hide h
  obtain ⟨n, hn⟩ : ∃ n, l.length = n := ⟨_, rfl⟩
  have HN := hide hn
  have HTX : Hid (boT l ((n + 7) / 8) = Sp.txt l) := by rw [← hn]; exact boT_full l
  have HNX := hide (fun q => boT_next l q)
  rw [hn] at hl HH hp HNX ⊢
  obtain ⟨T, hT⟩ : ∃ T, Sp.txt l = T := ⟨_, rfl⟩
  rw [hT] at HTX ⊢
  clear hn h hT
  go_enter Try.func27, Try.ntmps27
  go_wp2_with fail
  go_loopw [3, 4] (fun s i wr => ∃ q : Nat, 8 * q ≤ n + 7 ∧ i = .int .i64 ((8 * q : Nat) : Int) ∧ s = .string (S (boT l q)) ∧ Below w.heap.size w wr) (fun _ i _ => n + 8 - (intOf i).toNat)
  case atStart => exact ⟨0, by omega, rfl, rfl, Below.refl _ _⟩
  case round =>
    obtain ⟨q, hq, rfl, rfl, hbw⟩ := hrel
    have HBW := hide hbw
    by_cases hlt : 8 * q < n
    · have hq9 : q ≤ 17 := by omega
      obtain ⟨i, hi⟩ : ∃ i, 8 * q = i := ⟨_, rfl⟩
      rw [hi] at hlt hq ⊢
      have i1 : (i : Int) < (n : Int) := by omega
      have i0 : (0 : Int) ≤ (i : Int) := by omega
      have HI := hide hi
      have HBN := hide (fun j hj x hx => bo_next l q j hj x hx)
      have HBL := hide (fun m => Sp.bo_lt l m q)
      have HB0 : Hid (Sp.bo l i q = 0) := Sp.bo_zero l i q (by omega)
      have HST := hide (Sp.bo_stop l q)
      rw [hi] at HBN HST
      clear hbw hi
      go_wp2_with fail
      go_loop [5, 6, 7] (fun a b k => ∃ j : Nat, j ≤ 8 ∧ i + j ≤ n ∧ k = .int .i64 ((i + j : Nat) : Int) ∧ b = .int .i64 ((2 ^ j : Nat) : Int) ∧ a = .int .i64 ((Sp.bo l (i + j) q : Nat) : Int)) (fun _ _ k => n + 8 - (intOf k).toNat)
      case atStart => exact ⟨0, by omega, by omega, rfl, rfl, by rw [Nat.add_zero, unhide HB0]; rfl⟩
      case round =>
        obtain ⟨j, hj, hjn, rfl, rfl, rfl⟩ := hrel
        obtain ⟨k, hk⟩ : ∃ k, i + j = k := ⟨_, rfl⟩
        have hbl := unhide HBL k
        have hpw : 2 ^ j ≤ 256 := by
          have : 2 ^ j ≤ 2 ^ 8 := Nat.pow_le_pow_right (by omega) hj
          omega
        rw [hk] at hjn ⊢
        have hki : (k : Int) = (i : Int) + (j : Int) := by omega
        have HK := hide hk
        by_cases hlt2 : j < 8 ∧ k < n
        · obtain ⟨hj8, hkn⟩ := hlt2
          have hkl : k < l.length := by rw [unhide HN]; exact hkn
          have hck : wr.cell? ⟨g, k, none⟩ = some (.int .i64 ((l[k]'hkl : Nat) : Int)) := nums_cell (ownsRow_below (unhide HH) (unhide HBW)) k hkl
          have HNE : Hid (Sp.bo l (k + 1) q = Sp.bo l k q + if l[k] = 1 ∨ l[k] = 2 then 2 ^ j else 0) := by
            have := unhide HBN j hj8 l[k] (by rw [hk]; simp [List.getD, hkl])
            rw [hk] at this
            exact this
          have HPS : Hid (2 ^ (j + 1) = 2 ^ j * 2) := Nat.pow_succ 2 j
          generalize l[k]'hkl = y at *
          obtain ⟨z, hz⟩ : ∃ z, Sp.bo l k q = z := ⟨_, rfl⟩
          rw [hz] at HNE hbl ⊢
          obtain ⟨P, hP⟩ : ∃ P, 2 ^ j = P := ⟨_, rfl⟩
          rw [hP] at HNE HPS hpw ⊢
          have k1 : (0 : Int) ≤ (k : Int) := by omega
          have k2 : (k : Int) < (n : Int) := by omega
          have k3 : (k : Int) < (i : Int) + 8 := by omega
          have HJ : Hid (i + (j + 1) = k + 1) := by show i + (j + 1) = k + 1; omega
          have HJ2 : Hid (j + 1 ≤ 8 ∧ i + (j + 1) ≤ n) := by show j + 1 ≤ 8 ∧ i + (j + 1) ≤ n; omega
          clear hk hz hP hki
          have hcas : (y = 1 ∨ y = 2) ∨ (¬y = 1 ∧ ¬y = 2) := by omega
          rcases hcas with hy | ⟨y1, y2⟩
          · have HNE2 := unhide HNE
            rw [if_pos hy] at HNE2
            replace HNE2 := hide HNE2
            clear HNE
            rcases hy with rfl | rfl
            all_goals
              go_wp2_with fail
              go_round
              case rel => exact ⟨j + 1, (unhide HJ2).1, (unhide HJ2).2, by rw [unhide HJ]; go_num, by rw [unhide HPS]; go_num, by rw [unhide HJ, unhide HNE2]; go_num⟩
              case measure => simp [intOf]; omega
          · have HNE2 := unhide HNE
            rw [if_neg (by omega)] at HNE2
            replace HNE2 := hide HNE2
            clear HNE
            have e1 : ((y : Int) == 1) = false := by simp; omega
            have e2 : ((y : Int) == 2) = false := by simp; omega
            go_wp2_with fail
            go_round
            case rel => exact ⟨j + 1, (unhide HJ2).1, (unhide HJ2).2, by rw [unhide HJ]; go_num, by rw [unhide HPS]; go_num, by rw [unhide HJ, unhide HNE2]; rfl⟩
            case measure => simp [intOf]; omega
        · have hfin : Sp.bo l k q = Sp.bo l n q := by
            by_cases h8 : j = 8
            · have e1 := unhide HST n (by rw [← h8, hk]; exact hjn)
              rw [e1, ← hk, h8]
            · have : k = n := by omega
              rw [this]
          have HBK := uone_back wr (Sp.bo l n q) (unhide HBL n)
          have HNQ : Hid (S (boT l q) ++ S [UInt8.ofNat (Sp.bo l n q)] = S (boT l (q + 1))) := by
            show S _ ++ S _ = _
            rw [uS_append, unhide HNX q]
          have hbn := unhide HBL n
          have hln := boT_length l q
          rw [hfin]
          have HBX : Hid (Below w.heap.size w (wr.alloc (.cells #[.int .u8 ((Sp.bo l n q : Nat) : Int)] 5))) := (unhide HBW).alloc (unhide HBW).size _
          generalize Sp.bo l n q = z at *
          have hsz : (S (boT l q)).size = q := by rw [S_size, hln]
          have hsz1 : (S [UInt8.ofNat z]).size = 1 := rfl
          generalize S [UInt8.ofNat z] = s1 at *
          generalize S (boT l q) = s0 at *
          have hwz : IntKind.u8.wrap (z : Int) = (z : Int) := by rw [IntKind.wrap_u8]; omega
          have hwz2 : (z : Int) % 256 = (z : Int) := by omega
          have k4 : (i : Int) + 8 ≤ (k : Int) ∨ ((k : Int) < (i : Int) + 8 ∧ (n : Int) ≤ (k : Int)) := by omega
          clear hfin hk hki hln
          rcases k4 with k4 | ⟨k4, k5⟩
          all_goals
            go_wp2_with fail
            go_roundw
            case rel => exact ⟨q + 1, by have := unhide HI; omega, by have := unhide HI; go_num, by rw [unhide HNQ], unhide HBX⟩
            case measure => simp [intOf]; omega
    · have hq2 : q = (n + 7) / 8 := by omega
      have HE : Hid (boT l q = T) := by show boT l q = T; rw [hq2]; exact unhide HTX
      have i1 : (n : Int) ≤ ((8 * q : Nat) : Int) := by omega
      generalize ((8 * q : Nat) : Int) = x at *
      rw [unhide HE]
      clear hbw
      go_wp2_with fail
      go_ret
      exact ⟨rfl, unhide HBW⟩
end Go.Proofs.Ytemffpkpalncgaa
