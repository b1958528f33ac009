/- Plain mathematics: numbers, whole numbers and texts there and back. No program is named here. -/
import Derived.Test.YthchnfgokkcepaaDoorCOneMath
namespace Codec

def fold (k : Int) : Nat := if 0 ≤ k then (2 * k).toNat else (-2 * k - 1).toNat

theorem fold_lt (k : Int) (h1 : -9223372036854775808 ≤ k) (h2 : k ≤ 9223372036854775807) : fold k < 18446744073709551616 := by
  unfold fold; split <;> omega
theorem unfold_fold (k : Int) : unfold (fold k) = k := by
  unfold unfold fold
  by_cases h : 0 ≤ k
  · rw [if_pos h, if_neg (by omega)]; omega
  · rw [if_neg h, if_pos (by omega)]; omega

theorem takeU_enc (n : Nat) (rest : List UInt8) (hn : n < 18446744073709551616) : takeU (enc n ++ rest, 0) = (n, (rest, 0)) := by
  have h8 := blen_le n hn
  have hb : (UInt8.ofNat (blen n)).toNat = blen n := by rw [UInt8.toNat_ofNat']; omega
  have t1 : take 1 (enc n ++ rest, 0) = ([UInt8.ofNat (blen n)], (be (blen n) n ++ rest, 0)) := by simp [take, enc]
  have s1 : size (enc n ++ rest, 0) = (blen n, (be (blen n) n ++ rest, 0)) := by
    unfold size; rw [t1]; dsimp only; rw [if_neg (by omega), hb]
  have d1 : digits (enc n ++ rest, 0) = (be (blen n) n, (rest, 0)) := by
    unfold digits; rw [s1]
    have hl := be_length (blen n) n
    have hle : blen n ≤ (be (blen n) n ++ rest).length := by rw [List.length_append, hl]; omega
    simp only [take, if_pos hle]
    rw [List.take_left' hl, List.drop_left' hl]
  have hv := val_be_blen n hn
  by_cases h0 : n = 0
  · have e : be (blen n) n = [] := by rw [h0, blen_zero]; rfl
    unfold takeU; rw [d1, e, h0]
  · obtain ⟨h1, h2⟩ := blen_ge n hn h0
    obtain ⟨k, hk⟩ : ∃ k, blen n = k + 1 := ⟨blen n - 1, by omega⟩
    have e : be (blen n) n = UInt8.ofNat (n / 256 ^ k % 256) :: be k n := by rw [hk, be_cons]
    unfold takeU
    rw [d1]
    have hne : (UInt8.ofNat (n / 256 ^ k % 256)).toNat ≠ 0 := by
      rw [byte_of]
      have hlt := blen_lt n hn
      rw [hk, Nat.pow_succ] at hlt
      have : n / 256 ^ k < 256 := Nat.div_lt_of_lt_mul hlt
      rw [Nat.mod_eq_of_lt this]
      have : 0 < n / 256 ^ k := by
        rw [hk] at h2
        exact Nat.div_pos h2 (Nat.pow_pos (by decide))
      omega
    rw [hv]
    rw [e]
    dsimp only
    rw [if_neg hne]

theorem takeI_enc (k : Int) (rest : List UInt8) (h1 : -9223372036854775808 ≤ k) (h2 : k ≤ 9223372036854775807) : takeI (enc (fold k) ++ rest, 0) = (k, (rest, 0)) := by
  unfold takeI
  rw [takeU_enc _ _ (fold_lt k h1 h2)]
  dsimp only
  rw [unfold_fold]

def encS (s : List UInt8) : List UInt8 := enc s.length ++ s

theorem takeS_enc (s rest : List UInt8) (hs : s.length ≤ 40) : takeS 40 (encS s ++ rest, 0) = (s, (rest, 0)) := by
  have e : takeN 40 (encS s ++ rest, 0) = (s.length, (s ++ rest, 0)) := by
    unfold takeN encS
    rw [List.append_assoc, takeU_enc _ _ (by omega)]
    dsimp only
    rw [if_pos (by omega)]
  unfold takeS
  rw [e]
  simp [take]

theorem enc_short (n : Nat) (h : n < 18446744073709551616) : (enc n).length ≤ 9 := by
  have := blen_le n h
  rw [enc_length]; omega

end Codec
