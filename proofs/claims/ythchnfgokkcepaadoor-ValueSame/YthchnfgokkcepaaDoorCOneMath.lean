/- Plain mathematics: what is taken as a number is that number's one spelling. No program is named here. -/
import Derived.Test.YthchnfgokkcepaaDoorCInMath
namespace Codec

theorem be_add (k c m : Nat) : be k (c * 256 ^ k + m) = be k m := by
  unfold be
  apply List.map_congr_left
  intro j hj
  simp at hj
  have e : c * 256 ^ k = 256 ^ (k - 1 - j) * (c * 256 ^ j * 256) := by
    have : 256 ^ k = 256 ^ (k - 1 - j) * 256 ^ j * 256 := by
      rw [← Nat.pow_add, ← Nat.pow_succ]; congr 1; omega
    rw [this]
    simp only [Nat.mul_assoc, Nat.mul_left_comm]
  rw [e, Nat.mul_add_div (Nat.pow_pos (by decide)), Nat.add_comm, Nat.add_mul_mod_self_right]

theorem be_val (d : List UInt8) : be d.length (val d) = d := by
  induction d with
  | nil => rfl
  | cons c r ih =>
    rw [List.length_cons, val_cons, be_cons, be_add, ih]
    have h := val_lt r
    have e : (c.toNat * 256 ^ r.length + val r) / 256 ^ r.length = c.toNat := by
      rw [Nat.mul_comm, Nat.mul_add_div (Nat.pow_pos (by decide)), Nat.div_eq_of_lt h, Nat.add_zero]
    rw [e, Nat.mod_eq_of_lt c.toNat_lt, UInt8.ofNat_toNat]

theorem blen_val (c : UInt8) (r : List UInt8) (hc : c.toNat ≠ 0) (hr : (c :: r).length ≤ 8) : blen (val (c :: r)) = (c :: r).length := by
  have h1 := val_lt (c :: r)
  have hlt : val (c :: r) < 18446744073709551616 := Nat.lt_of_lt_of_le h1 (Nat.le_trans (Nat.pow_le_pow_right (by decide) hr) (by decide))
  have h2 : ¬ (c :: r).length < blen (val (c :: r)) := by
    intro h
    have := (left_iff _ _ hlt).2 h
    rw [Nat.div_eq_of_lt h1] at this
    omega
  have h3 : r.length < blen (val (c :: r)) := by
    apply (left_iff _ _ hlt).1
    apply Nat.div_pos _ (Nat.pow_pos (by decide))
    rw [val_cons]
    have : 1 * 256 ^ r.length ≤ c.toNat * 256 ^ r.length := Nat.mul_le_mul_right _ (by omega)
    omega
  simp only [List.length_cons] at *
  omega

theorem enc_val (c : UInt8) (r : List UInt8) (hc : c.toNat ≠ 0) (hr : (c :: r).length ≤ 8) : enc (val (c :: r)) = UInt8.ofNat (c :: r).length :: (c :: r) := by
  unfold enc
  rw [blen_val c r hc hr, be_val]

theorem fail_err (c : Int) (l : List UInt8) (hc : c ≠ 0) : fail c (l, 0) = ([], c) := by simp [fail, hc]

theorem enc_zero : enc 0 = [0] := by decide

/- Taken without an error: it was the number's bytes. -/
theorem takeU_one (l : List UInt8) : ((takeU (l, 0)).2.2 ≠ 0 → (takeU (l, 0)).1 = 0) ∧ ((takeU (l, 0)).2.2 = 0 → l = enc (takeU (l, 0)).1 ++ (takeU (l, 0)).2.1) := by
  cases l with
  | nil =>
    have e : takeU ([], 0) = (0, ([], 1)) := by decide
    rw [e]
    exact ⟨fun _ => rfl, fun h => by simp at h⟩
  | cons k r =>
    have t1 : take 1 (k :: r, 0) = ([k], (r, 0)) := by simp [take]
    by_cases hk : 8 < k.toNat
    · have s1 : size (k :: r, 0) = (0, ([], 2)) := by unfold size; rw [t1]; dsimp only; rw [if_pos hk, fail_err 2 r (by decide)]
      have d1 : digits (k :: r, 0) = ([], ([], 2)) := by unfold digits; rw [s1]; rfl
      have e : takeU (k :: r, 0) = (0, ([], 2)) := by unfold takeU; rw [d1]
      rw [e]
      exact ⟨fun _ => rfl, fun h => by simp at h⟩
    · have s1 : size (k :: r, 0) = (k.toNat, (r, 0)) := by unfold size; rw [t1]; dsimp only; rw [if_neg hk]
      by_cases hr : k.toNat ≤ r.length
      · have d1 : digits (k :: r, 0) = (r.take k.toNat, (r.drop k.toNat, 0)) := by unfold digits; rw [s1]; simp [take, hr]
        have hlen : (r.take k.toNat).length = k.toNat := by simp; omega
        have hcat : r = r.take k.toNat ++ r.drop k.toNat := (List.take_append_drop _ _).symm
        generalize r.take k.toNat = d at *
        generalize r.drop k.toNat = rest at *
        cases d with
        | nil =>
          have e : takeU (k :: r, 0) = (0, (rest, 0)) := by unfold takeU; rw [d1]
          rw [e]
          refine ⟨fun h => rfl, fun _ => ?_⟩
          have hk0 : k = 0 := UInt8.toNat_inj.1 (by simpa using hlen.symm)
          show k :: r = enc 0 ++ rest
          rw [enc_zero, hk0, hcat]
          simp
        | cons c q =>
          by_cases hc : c.toNat = 0
          · have e : takeU (k :: r, 0) = (0, ([], 2)) := by unfold takeU; rw [d1]; dsimp only; rw [if_pos hc, fail_err 2 _ (by decide)]
            rw [e]
            exact ⟨fun _ => rfl, fun h => by simp at h⟩
          · have e : takeU (k :: r, 0) = (val (c :: q), (rest, 0)) := by unfold takeU; rw [d1]; dsimp only; rw [if_neg hc]
            rw [e]
            refine ⟨fun h => absurd rfl h, fun _ => ?_⟩
            show k :: r = enc (val (c :: q)) ++ rest
            rw [enc_val c q hc (by omega), hlen, UInt8.ofNat_toNat, hcat]
            rfl
      · have d1 : digits (k :: r, 0) = ([], ([], 1)) := by unfold digits; rw [s1]; simp [take, hr, fail]
        have e : takeU (k :: r, 0) = (0, ([], 1)) := by unfold takeU; rw [d1]
        rw [e]
        exact ⟨fun _ => rfl, fun h => by simp at h⟩

end Codec
