/- Plain mathematics of codec's numbers: how many bytes a number has, these bytes, the number that bytes make. No program is named here. -/
import Derived.Lib.ItoaNum
namespace Codec
open Go

def blen (n : Nat) : Nat := (Lib.bitLen n + 7) / 8
/- The k lowest bytes of n, the highest first. -/
def be (k n : Nat) : List UInt8 := (List.range k).map fun j => UInt8.ofNat (n / 256 ^ (k - 1 - j) % 256)
def enc (n : Nat) : List UInt8 := UInt8.ofNat (blen n) :: be (blen n) n
def val (l : List UInt8) : Nat := l.foldl (fun a b => a * 256 + b.toNat) 0

theorem be_length (k n : Nat) : (be k n).length = k := by simp [be]
theorem be_zero (n : Nat) : be 0 n = [] := rfl
theorem be_cons (k n : Nat) : be (k + 1) n = UInt8.ofNat (n / 256 ^ k % 256) :: be k n := by
  unfold be
  rw [List.range_succ_eq_map, List.map_cons, List.map_map]
  congr 1
  apply List.map_congr_left
  intro j hj
  simp only [Function.comp]
  congr 3
  simp at hj
  congr 1
  omega
theorem be_take (k n j : Nat) (h : j < k) : (be k n).take (j + 1) = (be k n).take j ++ [UInt8.ofNat (n / 256 ^ (k - 1 - j) % 256)] := by
  rw [List.take_succ_eq_append_getElem (by rw [be_length]; exact h)]
  simp [be]

theorem byte_of (n : Nat) : (UInt8.ofNat (n % 256)).toNat = n % 256 := by rw [UInt8.toNat_ofNat']; omega

theorem val_fold (l : List UInt8) (a : Nat) : l.foldl (fun a b => a * 256 + b.toNat) a = a * 256 ^ l.length + val l := by
  induction l generalizing a with
  | nil => simp [val]
  | cons b l ih =>
    have e : val (b :: l) = b.toNat * 256 ^ l.length + val l := by
      show List.foldl (fun a b => a * 256 + b.toNat) (0 * 256 + b.toNat) l = _
      rw [ih, Nat.zero_mul, Nat.zero_add]
    rw [List.foldl_cons, ih, e, List.length_cons, Nat.pow_succ, Nat.add_mul, Nat.mul_assoc, Nat.mul_comm 256, Nat.add_assoc]
theorem val_cons (b : UInt8) (l : List UInt8) : val (b :: l) = b.toNat * 256 ^ l.length + val l := by
  rw [val, List.foldl_cons, val_fold, Nat.zero_mul, Nat.zero_add]
theorem val_snoc (l : List UInt8) (b : UInt8) : val (l ++ [b]) = val l * 256 + b.toNat := by simp [val]
theorem val_lt (l : List UInt8) : val l < 256 ^ l.length := by
  induction l with
  | nil => simp [val]
  | cons b l ih =>
    rw [val_cons, List.length_cons, Nat.pow_succ]
    have hb := b.toNat_lt
    have : b.toNat * 256 ^ l.length + 256 ^ l.length ≤ 256 ^ l.length * 256 := by
      rw [← Nat.succ_mul, Nat.mul_comm]
      exact Nat.mul_le_mul_left _ (by omega)
    omega
theorem val_be (k n : Nat) : val (be k n) = n % 256 ^ k := by
  induction k with
  | zero => simp [be_zero, val, Nat.mod_one]
  | succ k ih =>
    rw [be_cons, val_cons, be_length, ih, byte_of]
    rw [Nat.pow_succ, Nat.mod_mul, Nat.mul_comm, Nat.add_comm]

theorem bitLen_zero : Lib.bitLen 0 = 0 := by decide
theorem bitLen_bounds (n : Nat) (h : n < 18446744073709551616) (h0 : n ≠ 0) : 1 ≤ Lib.bitLen n ∧ 2 ^ (Lib.bitLen n - 1) ≤ n ∧ n < 2 ^ Lib.bitLen n :=
  Lib.bitLenAux_bounds 64 n h h0
theorem bitLen_le64 (n : Nat) (h : n < 18446744073709551616) : Lib.bitLen n ≤ 64 := Lib.bitLen_le n 64 (Nat.le_refl _) h
theorem blen_zero : blen 0 = 0 := by decide
theorem blen_le (n : Nat) (h : n < 18446744073709551616) : blen n ≤ 8 := by
  have := bitLen_le64 n h
  unfold blen; omega
theorem pow256 (k : Nat) : 256 ^ k = 2 ^ (8 * k) := by rw [show 256 = 2 ^ 8 by decide, ← Nat.pow_mul]
theorem blen_lt (n : Nat) (h : n < 18446744073709551616) : n < 256 ^ blen n := by
  by_cases h0 : n = 0
  · subst h0; rw [blen_zero]; decide
  · have hb := bitLen_bounds n h h0
    rw [pow256]
    refine Nat.lt_of_lt_of_le hb.2.2 (Nat.pow_le_pow_right (by decide) ?_)
    unfold blen; omega
theorem blen_ge (n : Nat) (h : n < 18446744073709551616) (h0 : n ≠ 0) : 1 ≤ blen n ∧ 256 ^ (blen n - 1) ≤ n := by
  have hb := bitLen_bounds n h h0
  refine ⟨by unfold blen; omega, ?_⟩
  rw [pow256]
  refine Nat.le_trans (Nat.pow_le_pow_right (by decide) ?_) hb.2.1
  unfold blen; omega
/- There is something left behind i bytes just as long as i is below how many there are. -/
theorem left_iff (n i : Nat) (h : n < 18446744073709551616) : 0 < n / 256 ^ i ↔ i < blen n := by
  constructor
  · intro hp
    rcases Nat.lt_or_ge i (blen n) with h1 | h1
    · exact h1
    · exfalso
      have := blen_lt n h
      have : n < 256 ^ i := Nat.lt_of_lt_of_le this (Nat.pow_le_pow_right (by decide) h1)
      rw [Nat.div_eq_of_lt this] at hp
      omega
  · intro hi
    have h0 : n ≠ 0 := by intro e; subst e; rw [blen_zero] at hi; omega
    have hg := blen_ge n h h0
    apply Nat.div_pos _ (Nat.pow_pos (by decide))
    exact Nat.le_trans (Nat.pow_le_pow_right (by decide) (by omega)) hg.2
theorem val_be_blen (n : Nat) (h : n < 18446744073709551616) : val (be (blen n) n) = n := by
  rw [val_be, Nat.mod_eq_of_lt (blen_lt n h)]
theorem enc_length (n : Nat) : (enc n).length = blen n + 1 := by simp [enc, be_length]

end Codec
