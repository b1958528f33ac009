/- Plain mathematics: the sum of three texts of one length that are xored is what their sums are, xored. No program is named here. -/
import Derived.Test.YtphcbnbpbgmplaaMath
namespace Crc

def xorL (a b : List UInt8) : List UInt8 := List.zipWith (fun x y => x ^^^ y) a b

theorem num_xor (a b : List UInt8) (h : a.length = b.length) : num (xorL a b) = num a ^^^ num b := by
  induction a generalizing b with
  | nil =>
    cases b with
    | nil => rfl
    | cons y b => simp at h
  | cons x a ih =>
    cases b with
    | nil => simp at h
    | cons y b =>
      have e : xorL (x :: a) (y :: b) = (x ^^^ y) :: xorL a b := rfl
      rw [e, num, num, num, ih b (by simpa using h), UInt8.toNat_xor]
      have d : 2 ^ 8 * (num a ^^^ num b) = 2 ^ 8 * num a ^^^ 2 ^ 8 * num b := by
        rw [Nat.mul_comm, Nat.mul_comm _ (num a), Nat.mul_comm _ (num b), ← Nat.shiftLeft_eq, ← Nat.shiftLeft_eq, ← Nat.shiftLeft_eq, Nat.shiftLeft_xor_distrib]
      rw [d]
      ac_rfl

theorem xorL_length (a b : List UInt8) (h : a.length = b.length) : (xorL a b).length = a.length := by simp [xorL, h]

theorem crc_eq (l : List UInt8) : crc l = ones ^^^ steps (8 * l.length) (ones ^^^ num l) := by
  unfold crc
  rw [← ones_sub (feed_lt l (by unfold ones; omega)), feed_eq]

theorem xor_three (o q a b c : Nat) : (o ^^^ (q ^^^ a)) ^^^ (o ^^^ (q ^^^ b)) ^^^ (o ^^^ (q ^^^ c)) = o ^^^ (q ^^^ (a ^^^ b ^^^ c)) := by
  apply Nat.eq_of_testBit_eq
  intro i
  simp only [Nat.testBit_xor]
  cases o.testBit i <;> cases q.testBit i <;> cases a.testBit i <;> cases b.testBit i <;> cases c.testBit i <;> rfl

theorem crc_xor3 (a b c : List UInt8) (h1 : a.length = b.length) (h2 : b.length = c.length) :
    crc (xorL (xorL a b) c) = crc a ^^^ crc b ^^^ crc c := by
  have h3 := xorL_length a b h1
  rw [crc_eq, crc_eq a, crc_eq b, crc_eq c, xorL_length _ c (by omega), h3, num_xor _ c (by omega), num_xor a b h1, ← h2, ← h1]
  rw [steps_xor _ ones (num a), steps_xor _ ones (num b), steps_xor _ ones (num c), steps_xor _ ones, steps_xor _ _ (num c), steps_xor _ (num a), xor_three]

end Crc
