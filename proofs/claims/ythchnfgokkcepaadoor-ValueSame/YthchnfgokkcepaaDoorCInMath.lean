/- Plain functions of an In: what is left and the error's number; what each call answers and leaves. No program is named here. -/
import Derived.Test.YthchnfgokkcepaaDoorCMath
namespace Codec

abbrev St : Type := List UInt8 × Int
def fail (c : Int) (s : St) : St := if s.2 = 0 ∧ c ≠ 0 then ([], c) else s
def take (n : Nat) (s : St) : List UInt8 × St := if n ≤ s.1.length then (s.1.take n, (s.1.drop n, s.2)) else ([], fail 1 s)
def size (s : St) : Nat × St :=
  match (take 1 s).1 with
  | [] => (0, (take 1 s).2)
  | k :: _ => if 8 < k.toNat then (0, fail 2 (take 1 s).2) else (k.toNat, (take 1 s).2)
def digits (s : St) : List UInt8 × St := take (size s).1 (size s).2
def takeU (s : St) : Nat × St :=
  match (digits s).1 with
  | [] => (0, (digits s).2)
  | c :: _ => if c.toNat = 0 then (0, fail 2 (digits s).2) else (val (digits s).1, (digits s).2)

theorem size_le (s : St) : (size s).1 ≤ 8 := by
  unfold size
  split
  · exact Nat.zero_le _
  · split
    · exact Nat.zero_le _
    · simp; omega
theorem fail_length (c : Int) (s : St) : (fail c s).1.length ≤ s.1.length := by
  unfold fail; split
  · simp
  · exact Nat.le_refl _
theorem take_length (n : Nat) (s : St) : (take n s).1.length ≤ n ∧ (take n s).2.1.length ≤ s.1.length := by
  unfold take; split
  · simp; omega
  · exact ⟨by simp, fail_length 1 s⟩
theorem size_length (s : St) : (size s).2.1.length ≤ s.1.length := by
  have h := (take_length 1 s).2
  unfold size
  split
  · exact h
  · split
    · exact Nat.le_trans (fail_length 2 _) h
    · exact h
theorem digits_length (s : St) : (digits s).1.length ≤ 8 ∧ (digits s).2.1.length ≤ s.1.length := by
  have h1 := take_length (size s).1 (size s).2
  have h2 := size_le s
  have h3 := size_length s
  unfold digits
  exact ⟨by omega, by omega⟩
theorem takeU_length (s : St) : (takeU s).2.1.length ≤ s.1.length := by
  have h := (digits_length s).2
  unfold takeU
  split
  · exact h
  · split
    · exact Nat.le_trans (fail_length 2 _) h
    · exact h
theorem takeU_lt (s : St) : (takeU s).1 < 18446744073709551616 := by
  unfold takeU
  split
  · show 0 < 18446744073709551616
    decide
  · split
    · show 0 < 18446744073709551616
      decide
    · have h1 := val_lt (digits s).1
      have h2 := (digits_length s).1
      exact Nat.lt_of_lt_of_le h1 (Nat.le_trans (Nat.pow_le_pow_right (by decide) h2) (by decide))

/- A whole number out of a number. -/
def unfold (n : Nat) : Int := if n % 2 = 1 then -((n / 2 : Nat) : Int) - 1 else ((n / 2 : Nat) : Int)
def takeI (s : St) : Int × St := (unfold (takeU s).1, (takeU s).2)
def takeN (m : Int) (s : St) : Nat × St := if (takeU s).1 ≤ (max m 0).toNat then takeU s else (0, fail 3 (takeU s).2)
def takeS (m : Int) (s : St) : List UInt8 × St := take (takeN m s).1 (takeN m s).2
def endOf (s : St) : St := if 0 < s.1.length then fail 2 s else s

theorem unfold_bounds (n : Nat) (h : n < 18446744073709551616) : -9223372036854775808 ≤ unfold n ∧ unfold n ≤ 9223372036854775807 := by
  unfold unfold
  split <;> omega
theorem takeN_le (m : Int) (s : St) (hm : m ≤ 9223372036854775807) : (takeN m s).1 ≤ 9223372036854775807 := by
  unfold takeN
  split
  · omega
  · exact Nat.zero_le _

end Codec
