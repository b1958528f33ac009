/- Plain mathematics: a bit turned in a text is a bit turned in its number; up to 32 bits side by side that are otherwise make another sum. No program is named here. -/
import Derived.Test.YtbggjkokfbcbcabDoorKMath
namespace Crc

theorem mul_xor (k a b : Nat) : 2 ^ k * (a ^^^ b) = 2 ^ k * a ^^^ 2 ^ k * b := by
  rw [Nat.mul_comm, Nat.mul_comm _ a, Nat.mul_comm _ b, ← Nat.shiftLeft_eq, ← Nat.shiftLeft_eq, ← Nat.shiftLeft_eq, Nat.shiftLeft_xor_distrib]

theorem num_set (l : List UInt8) (j : Nat) (h : j < l.length) (v : UInt8) : num (l.set j (l[j] ^^^ v)) = num l ^^^ 2 ^ (8 * j) * v.toNat := by
  induction l generalizing j with
  | nil => simp at h
  | cons x l ih =>
    cases j with
    | zero =>
      simp only [List.set_cons_zero, List.getElem_cons_zero, num, UInt8.toNat_xor]
      simp only [Nat.mul_zero, Nat.pow_zero, Nat.one_mul]
      ac_rfl
    | succ j =>
      have e := ih j (by simpa using h)
      simp only [List.set_cons_succ, List.getElem_cons_succ, num]
      rw [e, mul_xor, ← Nat.mul_assoc, ← Nat.pow_add, show 8 + 8 * j = 8 * (j + 1) by omega, Nat.xor_assoc]

theorem num_inj : ∀ (a b : List UInt8), a.length = b.length → num a = num b → a = b
  | [], [], _, _ => rfl
  | [], y :: b, h, _ => by simp at h
  | x :: a, [], h, _ => by simp at h
  | x :: a, y :: b, h, e => by
    simp only [num] at e
    have hx := x.toNat_lt
    have hy := y.toNat_lt
    have m : ∀ (c : Nat) (n : Nat), c < 2 ^ 8 → (c ^^^ 2 ^ 8 * n) % 2 ^ 8 = c ∧ (c ^^^ 2 ^ 8 * n) / 2 ^ 8 = n := by
      intro c n hc
      constructor
      · rw [Nat.xor_mod_two_pow, Nat.mod_eq_of_lt hc, Nat.mul_mod_right, Nat.xor_zero]
      · rw [Nat.xor_div_two_pow, Nat.div_eq_of_lt hc, Nat.mul_div_cancel_left _ (by decide), Nat.zero_xor]
    obtain ⟨m1, m2⟩ := m x.toNat (num a) hx
    obtain ⟨m3, m4⟩ := m y.toNat (num b) hy
    rw [e] at m1 m2
    have e1 : x = y := UInt8.toNat_inj.1 (m1.symm.trans m3)
    have e2 : a = b := num_inj a b (by simpa using h) (m2.symm.trans m4)
    rw [e1, e2]

theorem crc_tells (s t : List UInt8) (at' q : Nat) (hl : t.length = s.length) (ha : at' < 8 * s.length) (hq : q < 4294967296) (hn : num t = num s ^^^ 2 ^ at' * q) :
    crc t = crc s → t = s := by
  intro e
  have f1 := feed_lt (n := ones) t (by unfold ones; omega)
  have f2 := feed_lt (n := ones) s (by unfold ones; omega)
  have e1 : feed ones t = feed ones s := by
    unfold crc at e
    unfold ones at *
    omega
  rw [feed_eq, feed_eq, hl, hn, ← Nat.xor_assoc, steps_xor _ (ones ^^^ num s)] at e1
  have e2 : steps (8 * s.length) (2 ^ at' * q) = 0 := by
    have h := congrArg (fun x => steps (8 * s.length) (ones ^^^ num s) ^^^ x) e1
    simp only [← Nat.xor_assoc, Nat.xor_self, Nat.zero_xor] at h
    exact h
  rw [show 8 * s.length = at' + (8 * s.length - at') by omega, steps_add, steps_pow] at e2
  have e3 := steps_eq_zero _ hq e2
  rw [e3, Nat.mul_zero, Nat.xor_zero] at hn
  exact num_inj t s hl hn

end Crc
