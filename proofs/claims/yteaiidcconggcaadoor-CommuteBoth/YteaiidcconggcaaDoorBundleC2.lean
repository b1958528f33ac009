/- Texts that this proof needs, one behind the other: CMath, CInMath, CIn. -/
import Derived.Lib.ItoaNum
import Derived.Test.YteaiidcconggcaaDoorBundleC1
/- Plain mathematics of codec's numbers: how many bytes a number has, these bytes, the number that bytes make. No program is named here. -/
namespace Codec
open Go

def blen (n : Nat) : Nat := (Lib.bitLen n + 7) / 8
/- The k lowest bytes of n, the highest first. -/
def be (k n : Nat) : List UInt8 := (List.range k).map fun j => UInt8.ofNat (n / 256 ^ (k - 1 - j) % 256)
def enc (n : Nat) : List UInt8 := UInt8.ofNat (blen n) :: be (blen n) n
def val (l : List UInt8) : Nat := l.foldl (fun a b => a * 256 + b.toNat) 0

theorem be_length (k n : Nat) : (be k n).length = k := by simp [be]
theorem be_zero (n : Nat) : be 0 n = [] := rfl
theorem be_cons (k n : Nat) : be (k + 1) n = UInt8.ofNat (n / 256 ^ k % 256) :: be k n := by
  unfold be
  rw [List.range_succ_eq_map, List.map_cons, List.map_map]
  congr 1
  apply List.map_congr_left
  intro j hj
  simp only [Function.comp]
  congr 3
  simp at hj
  congr 1
  omega
theorem be_take (k n j : Nat) (h : j < k) : (be k n).take (j + 1) = (be k n).take j ++ [UInt8.ofNat (n / 256 ^ (k - 1 - j) % 256)] := by
  rw [List.take_succ_eq_append_getElem (by rw [be_length]; exact h)]
  simp [be]

theorem byte_of (n : Nat) : (UInt8.ofNat (n % 256)).toNat = n % 256 := by rw [UInt8.toNat_ofNat']; omega

theorem val_fold (l : List UInt8) (a : Nat) : l.foldl (fun a b => a * 256 + b.toNat) a = a * 256 ^ l.length + val l := by
  induction l generalizing a with
  | nil => simp [val]
  | cons b l ih =>
    have e : val (b :: l) = b.toNat * 256 ^ l.length + val l := by
      show List.foldl (fun a b => a * 256 + b.toNat) (0 * 256 + b.toNat) l = _
      rw [ih, Nat.zero_mul, Nat.zero_add]
    rw [List.foldl_cons, ih, e, List.length_cons, Nat.pow_succ, Nat.add_mul, Nat.mul_assoc, Nat.mul_comm 256, Nat.add_assoc]
theorem val_cons (b : UInt8) (l : List UInt8) : val (b :: l) = b.toNat * 256 ^ l.length + val l := by
  rw [val, List.foldl_cons, val_fold, Nat.zero_mul, Nat.zero_add]
theorem val_snoc (l : List UInt8) (b : UInt8) : val (l ++ [b]) = val l * 256 + b.toNat := by simp [val]
theorem val_lt (l : List UInt8) : val l < 256 ^ l.length := by
  induction l with
  | nil => simp [val]
  | cons b l ih =>
    rw [val_cons, List.length_cons, Nat.pow_succ]
    have hb := b.toNat_lt
    have : b.toNat * 256 ^ l.length + 256 ^ l.length ≤ 256 ^ l.length * 256 := by
      rw [← Nat.succ_mul, Nat.mul_comm]
      exact Nat.mul_le_mul_left _ (by omega)
    omega
theorem val_be (k n : Nat) : val (be k n) = n % 256 ^ k := by
  induction k with
  | zero => simp [be_zero, val, Nat.mod_one]
  | succ k ih =>
    rw [be_cons, val_cons, be_length, ih, byte_of]
    rw [Nat.pow_succ, Nat.mod_mul, Nat.mul_comm, Nat.add_comm]

theorem bitLen_zero : Lib.bitLen 0 = 0 := by decide
theorem bitLen_bounds (n : Nat) (h : n < 18446744073709551616) (h0 : n ≠ 0) : 1 ≤ Lib.bitLen n ∧ 2 ^ (Lib.bitLen n - 1) ≤ n ∧ n < 2 ^ Lib.bitLen n :=
  Lib.bitLenAux_bounds 64 n h h0
theorem bitLen_le64 (n : Nat) (h : n < 18446744073709551616) : Lib.bitLen n ≤ 64 := Lib.bitLen_le n 64 (Nat.le_refl _) h
theorem blen_zero : blen 0 = 0 := by decide
theorem blen_le (n : Nat) (h : n < 18446744073709551616) : blen n ≤ 8 := by
  have := bitLen_le64 n h
  unfold blen; omega
theorem pow256 (k : Nat) : 256 ^ k = 2 ^ (8 * k) := by rw [show 256 = 2 ^ 8 by decide, ← Nat.pow_mul]
theorem blen_lt (n : Nat) (h : n < 18446744073709551616) : n < 256 ^ blen n := by
  by_cases h0 : n = 0
  · subst h0; rw [blen_zero]; decide
  · have hb := bitLen_bounds n h h0
    rw [pow256]
    refine Nat.lt_of_lt_of_le hb.2.2 (Nat.pow_le_pow_right (by decide) ?_)
    unfold blen; omega
theorem blen_ge (n : Nat) (h : n < 18446744073709551616) (h0 : n ≠ 0) : 1 ≤ blen n ∧ 256 ^ (blen n - 1) ≤ n := by
  have hb := bitLen_bounds n h h0
  refine ⟨by unfold blen; omega, ?_⟩
  rw [pow256]
  refine Nat.le_trans (Nat.pow_le_pow_right (by decide) ?_) hb.2.1
  unfold blen; omega
/- There is something left behind i bytes just as long as i is below how many there are. -/
theorem left_iff (n i : Nat) (h : n < 18446744073709551616) : 0 < n / 256 ^ i ↔ i < blen n := by
  constructor
  · intro hp
    rcases Nat.lt_or_ge i (blen n) with h1 | h1
    · exact h1
    · exfalso
      have := blen_lt n h
      have : n < 256 ^ i := Nat.lt_of_lt_of_le this (Nat.pow_le_pow_right (by decide) h1)
      rw [Nat.div_eq_of_lt this] at hp
      omega
  · intro hi
    have h0 : n ≠ 0 := by intro e; subst e; rw [blen_zero] at hi; omega
    have hg := blen_ge n h h0
    apply Nat.div_pos _ (Nat.pow_pos (by decide))
    exact Nat.le_trans (Nat.pow_le_pow_right (by decide) (by omega)) hg.2
theorem val_be_blen (n : Nat) (h : n < 18446744073709551616) : val (be (blen n) n) = n := by
  rw [val_be, Nat.mod_eq_of_lt (blen_lt n h)]
theorem enc_length (n : Nat) : (enc n).length = blen n + 1 := by simp [enc, be_length]

end Codec
/- Plain functions of an In: what is left and the error's number; what each call answers and leaves. No program is named here. -/
namespace Codec

abbrev St : Type := List UInt8 × Int
def fail (c : Int) (s : St) : St := if s.2 = 0 ∧ c ≠ 0 then ([], c) else s
def take (n : Nat) (s : St) : List UInt8 × St := if n ≤ s.1.length then (s.1.take n, (s.1.drop n, s.2)) else ([], fail 1 s)
def size (s : St) : Nat × St :=
  match (take 1 s).1 with
  | [] => (0, (take 1 s).2)
  | k :: _ => if 8 < k.toNat then (0, fail 2 (take 1 s).2) else (k.toNat, (take 1 s).2)
def digits (s : St) : List UInt8 × St := take (size s).1 (size s).2
def takeU (s : St) : Nat × St :=
  match (digits s).1 with
  | [] => (0, (digits s).2)
  | c :: _ => if c.toNat = 0 then (0, fail 2 (digits s).2) else (val (digits s).1, (digits s).2)

theorem size_le (s : St) : (size s).1 ≤ 8 := by
  unfold size
  split
  · exact Nat.zero_le _
  · split
    · exact Nat.zero_le _
    · simp; omega
theorem fail_length (c : Int) (s : St) : (fail c s).1.length ≤ s.1.length := by
  unfold fail; split
  · simp
  · exact Nat.le_refl _
theorem take_length (n : Nat) (s : St) : (take n s).1.length ≤ n ∧ (take n s).2.1.length ≤ s.1.length := by
  unfold take; split
  · simp; omega
  · exact ⟨by simp, fail_length 1 s⟩
theorem size_length (s : St) : (size s).2.1.length ≤ s.1.length := by
  have h := (take_length 1 s).2
  unfold size
  split
  · exact h
  · split
    · exact Nat.le_trans (fail_length 2 _) h
    · exact h
theorem digits_length (s : St) : (digits s).1.length ≤ 8 ∧ (digits s).2.1.length ≤ s.1.length := by
  have h1 := take_length (size s).1 (size s).2
  have h2 := size_le s
  have h3 := size_length s
  unfold digits
  exact ⟨by omega, by omega⟩
theorem takeU_length (s : St) : (takeU s).2.1.length ≤ s.1.length := by
  have h := (digits_length s).2
  unfold takeU
  split
  · exact h
  · split
    · exact Nat.le_trans (fail_length 2 _) h
    · exact h
theorem takeU_lt (s : St) : (takeU s).1 < 18446744073709551616 := by
  unfold takeU
  split
  · show 0 < 18446744073709551616
    decide
  · split
    · show 0 < 18446744073709551616
      decide
    · have h1 := val_lt (digits s).1
      have h2 := (digits_length s).1
      exact Nat.lt_of_lt_of_le h1 (Nat.le_trans (Nat.pow_le_pow_right (by decide) h2) (by decide))

/- A whole number out of a number. -/
def unfold (n : Nat) : Int := if n % 2 = 1 then -((n / 2 : Nat) : Int) - 1 else ((n / 2 : Nat) : Int)
def takeI (s : St) : Int × St := (unfold (takeU s).1, (takeU s).2)
def takeN (m : Int) (s : St) : Nat × St := if (takeU s).1 ≤ (max m 0).toNat then takeU s else (0, fail 3 (takeU s).2)
def takeS (m : Int) (s : St) : List UInt8 × St := take (takeN m s).1 (takeN m s).2
def endOf (s : St) : St := if 0 < s.1.length then fail 2 s else s

theorem unfold_bounds (n : Nat) (h : n < 18446744073709551616) : -9223372036854775808 ≤ unfold n ∧ unfold n ≤ 9223372036854775807 := by
  unfold unfold
  split <;> omega
theorem takeN_le (m : Int) (s : St) (hm : m ≤ 9223372036854775807) : (takeN m s).1 ≤ 9223372036854775807 := by
  unfold takeN
  split
  · omega
  · exact Nat.zero_le _

end Codec
/- The contracts of an In: what each call answers and leaves, by the plain functions. -/
namespace Go.Proofs.YteaiidcconggcaaDoor
open Go.RowKit
set_option linter.unusedVariables false
set_option maxRecDepth 100000

structure InAt (w : World) (b : Nat) (s : Codec.St) : Prop where
  lt : b < w.heap.size
  c0 : w.cell? ⟨b, 0, none⟩ = some (.string (S s.1))
  c1 : w.cell? ⟨b, 1, none⟩ = some (.int .i64 s.2)
  f0 : w.frozen? ⟨b, 0, none⟩ = false
  f1 : w.frozen? ⟨b, 1, none⟩ = false
  len : s.1.length ≤ 1099511627776

theorem InAt.set0 {w : World} {b : Nat} {s : Codec.St} (h : InAt w b s) (l : List UInt8) (hl : l.length ≤ s.1.length) : InAt (w.setCell ⟨b, 0, none⟩ (.string (S l))) b (l, s.2) :=
  ⟨by simpa using h.lt, by rw [World.cell?_setCell_same _ _ _ h.c0], by rw [World.cell?_setCell_other _ _ _ _ (by simp)]; exact h.c1, by rw [World.frozen?_setCell]; exact h.f0, by rw [World.frozen?_setCell]; exact h.f1, by have := h.len; simp only; omega⟩
theorem InAt.set1 {w : World} {b : Nat} {s : Codec.St} (h : InAt w b s) (e : Int) : InAt (w.setCell ⟨b, 1, none⟩ (.int .i64 e)) b (s.1, e) :=
  ⟨by simpa using h.lt, by rw [World.cell?_setCell_other _ _ _ _ (by simp)]; exact h.c0, by rw [World.cell?_setCell_same _ _ _ h.c1], by rw [World.frozen?_setCell]; exact h.f0, by rw [World.frozen?_setCell]; exact h.f1, h.len⟩
theorem InAt.later {w w' : World} {b : Nat} {s : Codec.St} (h : InAt w b s) (hb : Below w.heap.size w w') : InAt w' b s :=
  ⟨by have := h.lt; have := hb.size; omega, by rw [hb.cell (p := ⟨b, 0, none⟩) h.lt]; exact h.c0, by rw [hb.cell (p := ⟨b, 1, none⟩) h.lt]; exact h.c1, by rw [hb.frozen (p := ⟨b, 0, none⟩) h.lt]; exact h.f0, by rw [hb.frozen (p := ⟨b, 1, none⟩) h.lt]; exact h.f1, h.len⟩

theorem S_take (l : List UInt8) (n : Nat) : (S l).extract 0 n = S (l.take n) := by
  apply ByteArray.ext
  simp [S]
theorem S_drop (l : List UInt8) (n : Nat) : (S l).extract n (S l).size = S (l.drop n) := by
  apply ByteArray.ext
  simp [S, ByteArray.size]
  exact List.take_of_length_le (by simp)
theorem S_list (l : List UInt8) : (S l).toList = l := ByteArray.toList_eq (S l)

theorem S_isEmpty (l : List UInt8) : (S l).toList.isEmpty = l.isEmpty := by rw [S_list]

theorem shl_or (n : Nat) (b : UInt8) (h : n < 72057594037927936) : bits .or .u64 ((n : Int) * 256) (IntKind.u64.wrap (b.toNat : Int)) = ((n * 256 + b.toNat : Nat) : Int) := by
  have hb := b.toNat_lt
  rw [show IntKind.u64.wrap (b.toNat : Int) = (b.toNat : Int) from by rw [IntKind.wrap_u64]; omega]
  have e := u64_or_nat (n * 256) b.toNat (by omega) (by omega)
  rw [nat_join 8 (n * 256) b.toNat (by omega) (by omega)] at e
  rw [← e]
  simp

theorem val_take (d : List UInt8) (k : Nat) (h : k < d.length) : Codec.val (d.take (k + 1)) = Codec.val (d.take k) * 256 + (d[k]).toNat := by
  rw [List.take_succ_eq_append_getElem h, Codec.val_snoc]

theorem val_small (d : List UInt8) (k : Nat) (hd : d.length ≤ 8) (hk : k < d.length) : Codec.val (d.take k) < 72057594037927936 := by
  have h1 := Codec.val_lt (d.take k)
  have h2 : (d.take k).length ≤ 7 := by simp; omega
  exact Nat.lt_of_lt_of_le h1 (Nat.le_trans (Nat.pow_le_pow_right (by decide) h2) (by decide))

theorem bytes_cell (w : World) (s : ByteArray) (cap : Nat) (m : Nat × Nat) (k : Nat) (h : k < s.size) :
    (w.alloc (.cells (bytesRow s cap) 5 m)).cell? ⟨w.heap.size, k, none⟩ = some (.int .u8 (s[k].toNat : Int)) := by
  rw [World.cell?_alloc_mark, bytesRow_at s cap k h]; rfl

end Go.Proofs.YteaiidcconggcaaDoor
