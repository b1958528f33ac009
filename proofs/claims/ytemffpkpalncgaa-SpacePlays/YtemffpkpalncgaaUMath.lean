/- Plain mathematics of spaces: states of pages, what the calls do to them, their bytes. -/
namespace Go.Proofs.Ytemffpkpalncgaa.Sp
set_option linter.unusedVariables false

def use (x : Nat) : Bool := x == 1 || x == 2
def turn (a b : Nat) (l : List Nat) : List Nat := l.map fun x => if x = a then b else x
def keep (l : List Nat) : List Nat := turn 3 0 (turn 2 1 l)
def undo (l : List Nat) : List Nat := turn 3 1 (turn 2 0 l)
def first (l : List Nat) : Nat := l.findIdx (· == 0)
def taken (l : List Nat) : List Nat := l.set (first l) 2
def mayGive (l : List Nat) (i : Nat) : Bool := decide (i < l.length) && use (l.getD i 0)
def given (l : List Nat) (i : Nat) : List Nat := l.set i (if l.getD i 0 = 2 then 0 else 3)

theorem turn_length (a b : Nat) (l : List Nat) : (turn a b l).length = l.length := by simp [turn]
theorem keep_length (l : List Nat) : (keep l).length = l.length := by simp [keep, turn]
theorem undo_length (l : List Nat) : (undo l).length = l.length := by simp [undo, turn]
theorem taken_length (l : List Nat) : (taken l).length = l.length := by simp [taken]
theorem given_length (l : List Nat) (i : Nat) : (given l i).length = l.length := by simp [given]
theorem keep_eq (l : List Nat) (h : ∀ x ∈ l, x ≤ 3) : keep l = l.map fun x => if x = 1 ∨ x = 2 then 1 else 0 := by
  unfold keep turn
  rw [List.map_map]
  apply List.map_congr_left
  intro x hx
  have := h x hx
  have : x = 0 ∨ x = 1 ∨ x = 2 ∨ x = 3 := by omega
  rcases this with rfl | rfl | rfl | rfl <;> rfl
theorem undo_eq (l : List Nat) (h : ∀ x ∈ l, x ≤ 3) : undo l = l.map fun x => if x = 1 ∨ x = 3 then 1 else 0 := by
  unfold undo turn
  rw [List.map_map]
  apply List.map_congr_left
  intro x hx
  have := h x hx
  have : x = 0 ∨ x = 1 ∨ x = 2 ∨ x = 3 := by omega
  rcases this with rfl | rfl | rfl | rfl <;> rfl
theorem turn_le (a b : Nat) (l : List Nat) (hb : b ≤ 3) (h : ∀ x ∈ l, x ≤ 3) : ∀ x ∈ turn a b l, x ≤ 3 := by
  intro x hx
  simp only [turn, List.mem_map] at hx
  obtain ⟨y, hy, rfl⟩ := hx
  split
  · exact hb
  · exact h y hy
theorem keep_le (l : List Nat) (h : ∀ x ∈ l, x ≤ 3) : ∀ x ∈ keep l, x ≤ 3 := turn_le _ _ _ (by omega) (turn_le _ _ _ (by omega) h)
theorem undo_le (l : List Nat) (h : ∀ x ∈ l, x ≤ 3) : ∀ x ∈ undo l, x ≤ 3 := turn_le _ _ _ (by omega) (turn_le _ _ _ (by omega) h)
theorem set_le (l : List Nat) (i v : Nat) (hv : v ≤ 3) (h : ∀ x ∈ l, x ≤ 3) : ∀ x ∈ l.set i v, x ≤ 3 := by
  intro x hx
  rcases List.mem_or_eq_of_mem_set hx with h1 | h1
  · exact h x h1
  · omega
theorem taken_le (l : List Nat) (h : ∀ x ∈ l, x ≤ 3) : ∀ x ∈ taken l, x ≤ 3 := set_le _ _ _ (by omega) h
theorem given_le (l : List Nat) (i : Nat) (h : ∀ x ∈ l, x ≤ 3) : ∀ x ∈ given l i, x ≤ 3 := set_le _ _ _ (by split <;> omega) h
theorem first_lt (l : List Nat) (h : 0 ∈ l) : first l < l.length := List.findIdx_lt_length_of_exists ⟨0, h, by simp⟩
theorem first_get (l : List Nat) (h : 0 ∈ l) : l[first l]'(first_lt l h) = 0 := by
  have := List.findIdx_getElem (p := (· == 0)) (w := first_lt l h)
  exact eq_of_beq this
theorem first_not (l : List Nat) (j : Nat) (h : j < first l) (hl : j < l.length) : l[j] ≠ 0 := by
  have := List.not_of_lt_findIdx h
  simpa using this
theorem turn_take (a b : Nat) (l : List Nat) (k : Nat) (hk : k < l.length) : (turn a b (l.take k) ++ l.drop k).set k (if l[k] = a then b else l[k]) = turn a b (l.take (k + 1)) ++ l.drop (k + 1) := by
  have e : (turn a b (l.take k)).length = k := by simp [turn]; omega
  rw [List.set_append_right _ _ (by omega), e, Nat.sub_self, List.drop_eq_getElem_cons hk, List.set_cons_zero, List.take_succ_eq_append_getElem hk]
  unfold turn
  rw [List.map_append, List.append_assoc]
  rfl
theorem turn_at (a b : Nat) (l : List Nat) (k : Nat) (hk : k < l.length) : (turn a b (l.take k) ++ l.drop k)[k]? = some l[k] := by
  have e : (turn a b (l.take k)).length = k := by simp [turn]; omega
  rw [List.getElem?_append_right (by omega), e, Nat.sub_self, List.drop_eq_getElem_cons hk]
  rfl

/- How many are in a state. -/
def count (x : Nat) (l : List Nat) : Nat := l.count x
theorem count_take (x : Nat) (l : List Nat) (k : Nat) (hk : k < l.length) : count x (l.take (k + 1)) = count x (l.take k) + if l[k] = x then 1 else 0 := by
  unfold count
  rw [List.take_succ_eq_append_getElem hk, List.count_append, List.count_singleton]
  simp only [beq_iff_eq]
theorem count_le (x : Nat) (l : List Nat) : count x l ≤ l.length := List.count_le_length

/- Byte k of the bytes of the first m pages. -/
def bo (l : List Nat) : Nat → Nat → Nat
  | 0, _ => 0
  | m + 1, k => bo l m k + if m / 8 = k ∧ use (l.getD m 0) = true then 2 ^ (m % 8) else 0
def txt (l : List Nat) : List UInt8 := (List.range ((l.length + 7) / 8)).map fun k => UInt8.ofNat (bo l l.length k)
theorem txt_length (l : List Nat) : (txt l).length = (l.length + 7) / 8 := by simp [txt]
theorem bo_bound (l : List Nat) (k : Nat) : ∀ m, bo l m k < 2 ^ (min (m - 8 * k) 8)
  | 0 => by simp [bo]
  | m + 1 => by
    have ih := bo_bound l k m
    unfold bo
    by_cases h : m / 8 = k
    · have e1 : min (m - 8 * k) 8 = m % 8 := by omega
      have e2 : min (m + 1 - 8 * k) 8 = m % 8 + 1 := by omega
      rw [e1] at ih
      rw [e2, Nat.pow_succ]
      split <;> omega
    · rw [if_neg (by intro hh; exact h hh.1), Nat.add_zero]
      exact Nat.lt_of_lt_of_le ih (Nat.pow_le_pow_right (by omega) (by omega))
theorem bo_lt (l : List Nat) (m k : Nat) : bo l m k < 256 := by
  refine Nat.lt_of_lt_of_le (bo_bound l k m) ?_
  have : 2 ^ (min (m - 8 * k) 8) ≤ 2 ^ 8 := Nat.pow_le_pow_right (by omega) (by omega)
  simpa using this
theorem bo_low (l : List Nat) (m : Nat) : bo l m (m / 8) < 2 ^ (m % 8) := by
  have := bo_bound l (m / 8) m
  have e : min (m - 8 * (m / 8)) 8 = m % 8 := by omega
  rwa [e] at this
theorem bo_zero (l : List Nat) (m k : Nat) (h : m ≤ 8 * k) : bo l m k = 0 := by
  have := bo_bound l k m
  have e : min (m - 8 * k) 8 = 0 := by omega
  rw [e] at this
  omega
theorem bo_stop (l : List Nat) (k : Nat) : ∀ m, 8 * k + 8 ≤ m → bo l m k = bo l (8 * k + 8) k
  | 0, h => by omega
  | m + 1, h => by
    by_cases e : m + 1 = 8 * k + 8
    · rw [e]
    · rw [← bo_stop l k m (by omega)]
      show bo l m k + _ = _
      rw [if_neg (by intro hh; omega), Nat.add_zero]
theorem bo_bit (l : List Nat) (k j : Nat) : ∀ m, (bo l m k).testBit j = decide (j < 8 ∧ 8 * k + j < m ∧ use (l.getD (8 * k + j) 0) = true)
  | 0 => by simp [bo]
  | m + 1 => by
    have ih := bo_bit l k j m
    unfold bo
    by_cases h : m / 8 = k ∧ use (l.getD m 0) = true
    · rw [if_pos h]
      obtain ⟨h1, h2⟩ := h
      subst h1
      have hb := bo_low l m
      rw [Nat.add_comm]
      by_cases e : j = m % 8
      · subst e
        rw [Nat.testBit_two_pow_add_eq, Nat.testBit_lt_two_pow hb]
        have e2 : 8 * (m / 8) + m % 8 = m := by omega
        rw [e2]
        have e3 : m % 8 < 8 := by omega
        rw [decide_eq_true (⟨e3, by omega, h2⟩ : m % 8 < 8 ∧ m < m + 1 ∧ use (l.getD m 0) = true)]
        rfl
      · rcases Nat.lt_or_gt_of_ne e with h3 | h3
        · rw [Nat.testBit_two_pow_add_gt h3, ih]
          congr 1
          apply propext
          constructor <;> rintro ⟨a, b, c⟩ <;> exact ⟨a, by omega, c⟩
        · have hlt : 2 ^ (m % 8) + bo l m (m / 8) < 2 ^ j := by
            have : 2 ^ (m % 8 + 1) ≤ 2 ^ j := Nat.pow_le_pow_right (by omega) (by omega)
            rw [Nat.pow_succ] at this
            omega
          rw [Nat.testBit_lt_two_pow hlt]
          symm
          rw [decide_eq_false_iff_not]
          rintro ⟨a, b, c⟩
          omega
    · rw [if_neg h, Nat.add_zero, ih]
      congr 1
      apply propext
      constructor
      · rintro ⟨a, b, c⟩; exact ⟨a, by omega, c⟩
      · rintro ⟨a, b, c⟩
        refine ⟨a, ?_, c⟩
        rcases Nat.lt_or_ge (8 * k + j) m with h1 | h1
        · exact h1
        · exfalso
          have : 8 * k + j = m := by omega
          apply h
          rw [this] at c
          exact ⟨by omega, c⟩
theorem bo_ext (l : List Nat) (m k n : Nat) (hn : n < 256) (h : ∀ j, j < 8 → n.testBit j = decide (8 * k + j < m ∧ use (l.getD (8 * k + j) 0) = true)) : bo l m k = n := by
  apply Nat.eq_of_testBit_eq
  intro j
  rw [bo_bit]
  by_cases hj : j < 8
  · rw [h j hj]; simp [hj]
  · rw [Nat.testBit_lt_two_pow (x := n) (i := j) (by
      have : 2 ^ 8 ≤ 2 ^ j := Nat.pow_le_pow_right (by omega) (by omega)
      omega)]
    simp [hj]

/- The pages that bytes say. -/
def bit (t : List UInt8) (i : Nat) : Bool := ((t.getD (i / 8) 0).toNat).testBit (i % 8)
def prs (n : Nat) (t : List UInt8) : List Nat := (List.range n).map fun i => if bit t i then 1 else 0
theorem prs_length (n : Nat) (t : List UInt8) : (prs n t).length = n := by simp [prs]
theorem prs_le (n : Nat) (t : List UInt8) : ∀ x ∈ prs n t, x ≤ 3 := by
  intro x hx
  simp only [prs, List.mem_map] at hx
  obtain ⟨y, _, rfl⟩ := hx
  split <;> omega
theorem prs_get (n : Nat) (t : List UInt8) (i : Nat) (h : i < n) : (prs n t).getD i 0 = if bit t i then 1 else 0 := by
  simp [prs, List.getD, h]
theorem use_prs (n : Nat) (t : List UInt8) (i : Nat) (h : i < n) : use ((prs n t).getD i 0) = bit t i := by
  rw [prs_get n t i h]
  cases bit t i <;> rfl
theorem txt_bit (l : List Nat) (i : Nat) (h : i < l.length) : bit (txt l) i = use (l.getD i 0) := by
  unfold bit
  have hk : i / 8 < (l.length + 7) / 8 := by omega
  have e : (txt l).getD (i / 8) 0 = UInt8.ofNat (bo l l.length (i / 8)) := by simp [txt, List.getD, hk]
  rw [e]
  have e2 : (UInt8.ofNat (bo l l.length (i / 8))).toNat = bo l l.length (i / 8) := by
    have := bo_lt l l.length (i / 8)
    simp
    omega
  rw [e2, bo_bit]
  have e3 : 8 * (i / 8) + i % 8 = i := by omega
  rw [e3]
  have : i % 8 < 8 := by omega
  simp [this, h]
/- Bytes of which no bit of no page is 1 are written again. -/
theorem txt_prs (n : Nat) (t : List UInt8) (hl : t.length = (n + 7) / 8) (hz : n % 8 = 0 ∨ (t.getD (t.length - 1) 0).toNat / 2 ^ (n % 8) = 0) : txt (prs n t) = t := by
  apply List.ext_getElem
  · rw [txt_length, prs_length, hl]
  · intro k h1 h2
    have hb : bo (prs n t) n k = t[k].toNat := by
      apply bo_ext
      · exact t[k].toNat_lt
      · intro j hj
        by_cases hlt : 8 * k + j < n
        · rw [use_prs n t _ hlt]
          unfold bit
          have e1 : (8 * k + j) / 8 = k := by omega
          have e2 : (8 * k + j) % 8 = j := by omega
          rw [e1, e2]
          simp [hlt, List.getD, List.getElem?_eq_getElem h2]
        · have hk : k = t.length - 1 := by omega
          have hne : n % 8 ≠ 0 := by omega
          have hz2 := hz.resolve_left hne
          rw [← hk] at hz2
          simp only [List.getD, List.getElem?_eq_getElem h2, Option.getD_some] at hz2
          have hlow : t[k].toNat < 2 ^ j := by
            have h3 : t[k].toNat < 2 ^ (n % 8) := by
              rcases Nat.lt_or_ge t[k].toNat (2 ^ (n % 8)) with h | h
              · exact h
              · have := Nat.div_pos h (Nat.two_pow_pos (n % 8))
                omega
            have : 2 ^ (n % 8) ≤ 2 ^ j := Nat.pow_le_pow_right (by omega) (by omega)
            omega
          rw [Nat.testBit_lt_two_pow hlow]
          simp [hlt]
    simp only [txt, List.getElem_map, List.getElem_range, prs_length, hb]
    exact UInt8.ofNat_toNat
theorem txt_congr (l m : List Nat) (hl : l.length = m.length) (h : ∀ i, i < l.length → use (l.getD i 0) = use (m.getD i 0)) : txt l = txt m := by
  apply List.ext_getElem
  · rw [txt_length, txt_length, hl]
  · intro k h1 h2
    simp only [txt, List.getElem_map, List.getElem_range]
    congr 1
    apply bo_ext
    · exact bo_lt _ _ _
    · intro j hj
      rw [bo_bit, ← hl]
      by_cases hlt : 8 * k + j < l.length
      · rw [h _ hlt]; simp [hj, hlt]
      · simp [hlt]
/- Bytes, and back. -/
theorem txt_prs_txt (l : List Nat) : txt (prs l.length (txt l)) = txt l := by
  apply txt_congr
  · rw [prs_length]
  · intro i hi
    rw [prs_length] at hi
    rw [use_prs _ _ _ hi, txt_bit _ _ hi]
end Go.Proofs.Ytemffpkpalncgaa.Sp
