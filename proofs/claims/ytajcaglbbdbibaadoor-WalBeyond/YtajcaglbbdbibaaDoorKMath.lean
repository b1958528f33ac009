/- Plain mathematics of the sum: a step of one bit on numbers of any width, the sum of bytes as steps of the bytes' number, that it is linear and tells 32 bits side by side. No program is named here. -/
namespace Crc

def poly : Nat := 3988292384
def step (n : Nat) : Nat := if n % 2 = 1 then n / 2 ^^^ poly else n / 2
def steps : Nat → Nat → Nat
  | 0, n => n
  | k + 1, n => steps k (step n)
def feed1 (n : Nat) (b : UInt8) : Nat := steps 8 (n ^^^ b.toNat)
def feed (n : Nat) (l : List UInt8) : Nat := l.foldl feed1 n
def ones : Nat := 4294967295
def crc (l : List UInt8) : Nat := ones - feed ones l

theorem poly_lt : poly < 4294967296 := by decide

theorem xor_mod_two (a b : Nat) : (a ^^^ b) % 2 = (a + b) % 2 := by
  have h : (a ^^^ b).testBit 0 = (a.testBit 0 ^^ b.testBit 0) := Nat.testBit_xor _ _ _
  simp only [Nat.testBit_zero] at h
  rcases Nat.mod_two_eq_zero_or_one a with ha | ha <;> rcases Nat.mod_two_eq_zero_or_one b with hb | hb <;>
    rcases Nat.mod_two_eq_zero_or_one (a ^^^ b) with hc | hc <;> simp [ha, hb, hc] at h <;> omega

theorem xor_div_two (a b : Nat) : (a ^^^ b) / 2 = a / 2 ^^^ b / 2 := by
  have := Nat.xor_div_two_pow (n := 1) (a := a) (b := b)
  simpa using this

theorem step_xor (a b : Nat) : step (a ^^^ b) = step a ^^^ step b := by
  have hm := xor_mod_two a b
  have hd := xor_div_two a b
  unfold step
  rcases Nat.mod_two_eq_zero_or_one a with ha | ha <;> rcases Nat.mod_two_eq_zero_or_one b with hb | hb
  · rw [if_neg (by omega), if_neg (by omega), if_neg (by omega), hd]
  · rw [if_pos (by omega), if_neg (by omega), if_pos (by omega), hd, Nat.xor_assoc]
  · rw [if_pos (by omega), if_pos (by omega), if_neg (by omega), hd, Nat.xor_assoc, Nat.xor_assoc, Nat.xor_comm (b / 2)]
  · rw [if_neg (by omega), if_pos (by omega), if_pos (by omega), hd]
    have : a / 2 ^^^ poly ^^^ (b / 2 ^^^ poly) = a / 2 ^^^ b / 2 ^^^ (poly ^^^ poly) := by
      rw [Nat.xor_assoc, Nat.xor_assoc, ← Nat.xor_assoc poly, Nat.xor_comm poly, Nat.xor_assoc]
    rw [this, Nat.xor_self, Nat.xor_zero]

theorem steps_xor (k a b : Nat) : steps k (a ^^^ b) = steps k a ^^^ steps k b := by
  induction k generalizing a b with
  | zero => rfl
  | succ k ih => simp only [steps, step_xor, ih]

theorem steps_add (j k n : Nat) : steps (j + k) n = steps k (steps j n) := by
  induction j generalizing n with
  | zero => simp [steps]
  | succ j ih => rw [Nat.succ_add]; simp only [steps, ih]

theorem step_two (n : Nat) : step (2 * n) = n := by
  unfold step; rw [if_neg (by omega)]; omega

theorem steps_pow (k n : Nat) : steps k (2 ^ k * n) = n := by
  induction k with
  | zero => simp [steps]
  | succ k ih => simp only [steps]; rw [Nat.pow_succ, Nat.mul_comm (2 ^ k) 2, Nat.mul_assoc, step_two, ih]

theorem xor_lt {a b : Nat} (ha : a < 4294967296) (hb : b < 4294967296) : a ^^^ b < 4294967296 :=
  Nat.xor_lt_two_pow (n := 32) (by omega) (by omega)

theorem step_lt {n : Nat} (h : n < 4294967296) : step n < 4294967296 := by
  unfold step; split
  · exact xor_lt (by omega) poly_lt
  · omega

theorem steps_lt {n : Nat} (k : Nat) (h : n < 4294967296) : steps k n < 4294967296 := by
  induction k generalizing n with
  | zero => exact h
  | succ k ih => exact ih (step_lt h)

theorem feed1_lt {n : Nat} (b : UInt8) (h : n < 4294967296) : feed1 n b < 4294967296 :=
  steps_lt 8 (xor_lt h (by have := b.toNat_lt; omega))

theorem feed_lt {n : Nat} (l : List UInt8) (h : n < 4294967296) : feed n l < 4294967296 := by
  induction l generalizing n with
  | nil => exact h
  | cons b l ih => exact ih (feed1_lt b h)

theorem feed_append (n : Nat) (l m : List UInt8) : feed n (l ++ m) = feed (feed n l) m := by simp [feed]

theorem crc_lt (l : List UInt8) : crc l < 4294967296 := by unfold crc ones; omega

/-- The number that bytes make, the lowest first. -/
def num : List UInt8 → Nat
  | [] => 0
  | b :: l => b.toNat ^^^ (2 ^ 8 * num l)

theorem feed_eq (n : Nat) (l : List UInt8) : feed n l = steps (8 * l.length) (n ^^^ num l) := by
  induction l generalizing n with
  | nil => simp [feed, num, steps]
  | cons b l ih =>
    show feed (feed1 n b) l = _
    rw [ih, List.length_cons, Nat.mul_succ, Nat.add_comm, steps_add]
    congr 1
    unfold feed1
    rw [num, ← Nat.xor_assoc, steps_xor 8 _ (2 ^ 8 * num l), steps_pow]

theorem step_zero : step 0 = 0 := rfl
theorem steps_zero (k : Nat) : steps k 0 = 0 := by
  induction k with
  | zero => rfl
  | succ k ih => simp only [steps, step_zero, ih]

theorem step_eq_zero {n : Nat} (h : n < 4294967296) (e : step n = 0) : n = 0 := by
  unfold step at e
  split at e
  · exfalso
    have h1 : n / 2 = poly := by
      have := congrArg (· ^^^ poly) e
      simpa [Nat.xor_assoc] using this
    unfold poly at h1; omega
  · omega

theorem steps_eq_zero {n : Nat} (k : Nat) (h : n < 4294967296) (e : steps k n = 0) : n = 0 := by
  induction k generalizing n with
  | zero => exact e
  | succ k ih => exact step_eq_zero h (ih (step_lt h) e)

theorem ones_sub {n : Nat} (h : n < 4294967296) : ones ^^^ n = ones - n := by
  apply Nat.eq_of_testBit_eq
  intro i
  have e : ones - n = 2 ^ 32 - (n + 1) := by unfold ones; omega
  rw [e, Nat.testBit_two_pow_sub_succ (by omega), Nat.testBit_xor, show ones = 2 ^ 32 - 1 from by decide, Nat.testBit_two_pow_sub_one]
  by_cases hi : i < 32
  · simp [hi]
  · have : n.testBit i = false := Nat.testBit_lt_two_pow (Nat.lt_of_lt_of_le h (by
      have : 2 ^ 32 ≤ 2 ^ i := Nat.pow_le_pow_right (by omega) (by omega)
      simpa using this))
    simp [hi, this]

theorem steps_succ (k n : Nat) : steps (k + 1) n = step (steps k n) := by rw [steps_add]; rfl

theorem step_odd {n : Nat} (h : n % 2 = 1) : step n = n / 2 ^^^ poly := by unfold step; rw [if_pos h]
theorem step_even {n : Nat} (h : n % 2 = 0) : step n = n / 2 := by unfold step; rw [if_neg (by omega)]

end Crc
