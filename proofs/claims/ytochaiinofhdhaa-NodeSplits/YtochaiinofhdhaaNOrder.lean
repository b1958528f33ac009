/- Plain mathematics: rows of texts that rise; sorted and made compact; where a text stands. No program is named here but the model's order of bytes. -/
import Derived.Test.YtochaiinofhdhaaCOrderMath
import Derived.Shelf.Slices.CompactS
import Derived.Shelf.Spec.SearchS
namespace Codec
open Go

theorem lt_trans (a b c : List UInt8) (h1 : lt a b = true) (h2 : lt b c = true) : lt a c = true := by
  induction a generalizing b c with
  | nil =>
    cases c with
    | nil => rw [lt_any_nil] at h2; exact absurd h2 (by decide)
    | cons z c => rfl
  | cons x a ih =>
    cases b with
    | nil => rw [lt_any_nil] at h1; exact absurd h1 (by decide)
    | cons y b =>
      cases c with
      | nil => rw [lt_any_nil] at h2; exact absurd h2 (by decide)
      | cons z c =>
        rcases u8_tri x y with hxy | hxy | hxy
        · rcases u8_tri y z with hyz | hyz | hyz
          · exact lt_less _ _ _ _ ((u8_lt _ _).2 (by have := (u8_lt _ _).1 hxy; have := (u8_lt _ _).1 hyz; omega))
          · subst hyz; exact lt_less _ _ _ _ hxy
          · rw [lt_more y z b c hyz] at h2; exact absurd h2 (by decide)
        · subst hxy
          rw [lt_same] at h1
          rcases u8_tri x z with hyz | hyz | hyz
          · exact lt_less _ _ _ _ hyz
          · subst hyz
            rw [lt_same] at h2 ⊢
            exact ih b c h1 h2
          · rw [lt_more x z b c hyz] at h2; exact absurd h2 (by decide)
        · rw [lt_more x y a b hxy] at h1; exact absurd h1 (by decide)
theorem lt_or (a b : List UInt8) : lt a b = true ∨ a = b ∨ lt b a = true := by
  cases h1 : lt a b
  · cases h2 : lt b a
    · exact Or.inr (Or.inl (lt_total a b h1 h2))
    · exact Or.inr (Or.inr rfl)
  · exact Or.inl rfl
theorem le_lt (a b c : List UInt8) (h1 : lt b a = false) (h2 : lt b c = true) : lt a c = true := by
  rcases lt_or a b with h | h | h
  · exact lt_trans _ _ _ h h2
  · rw [h]; exact h2
  · rw [h] at h1; exact absurd h1 (by decide)
theorem le_trans' (a b c : List UInt8) (h1 : lt b a = false) (h2 : lt c b = false) : lt c a = false := by
  cases h : lt c a
  · rfl
  · rcases lt_or a b with h3 | h3 | h3
    · rw [lt_trans _ _ _ h h3] at h2; exact absurd h2 (by decide)
    · rw [← h3, h] at h2; exact absurd h2 (by decide)
    · rw [h3] at h1; exact absurd h1 (by decide)
theorem dec_le (x y : List UInt8) : decide (x ≤ y) = !lt y x := by
  have e : lt y x = decide (y < x) := Go.Proofs.bytesLess_eq y x
  rw [e]
  by_cases h : y < x
  · simp [h, List.not_le.2 h]
  · simp [h, List.not_lt.1 h]

/- A row of texts that rise, each once. -/
def Rise (l : List (List UInt8)) : Prop := l.Pairwise fun x y => lt x y = true
def merged (l : List (List UInt8)) : List (List UInt8) := l.mergeSort fun x y => decide (x ≤ y)
def sorts (l : List (List UInt8)) : List (List UInt8) := Lib.compact (merged l)

theorem merged_pair (l : List (List UInt8)) : (merged l).Pairwise fun x y => lt y x = false := by
  have h := List.pairwise_mergeSort (le := fun (x y : List UInt8) => decide (x ≤ y)) (fun a b c h1 h2 => by
    rw [dec_le] at h1 h2 ⊢
    simp only [Bool.not_eq_true'] at h1 h2 ⊢
    exact le_trans' a b c h1 h2) (fun a b => by
    rw [dec_le, dec_le]
    cases h : lt b a
    · rfl
    · rw [lt_asym b a h]; rfl) l
  exact h.imp fun {a b} hab => by
    rw [dec_le] at hab
    simpa using hab
theorem merged_mem {l : List (List UInt8)} {x : List UInt8} : x ∈ merged l ↔ x ∈ l := List.mem_mergeSort
theorem merged_length (l : List (List UInt8)) : (merged l).length = l.length := List.length_mergeSort l

theorem getB (l : List (List UInt8)) (j : Nat) (h : j < l.length) : l.toArray[j]! = l[j]'h := by simp [getElem!_pos, h]

theorem upTo_spec (l : List (List UInt8)) (hp : l.Pairwise fun x y => lt y x = false) (m : Nat) (hm : m ≤ l.length) :
    Rise (Lib.compactUpTo l.toArray m) ∧ (∀ x ∈ Lib.compactUpTo l.toArray m, x ∈ l) ∧ (Lib.compactUpTo l.toArray m).length ≤ m ∧ (∀ x ∈ Lib.compactUpTo l.toArray m, ∀ h : m - 1 < l.length, lt (l[m - 1]'h) x = false) := by
  induction m with
  | zero => exact ⟨List.Pairwise.nil, by simp [Lib.compactUpTo], by simp [Lib.compactUpTo], by simp [Lib.compactUpTo]⟩
  | succ m ih =>
    obtain ⟨h1, h2, h3, h4⟩ := ih (by omega)
    rw [Lib.compactUpTo_succ]
    have hml : m < l.length := by omega
    have hstep : ∀ x ∈ Lib.compactUpTo l.toArray m, lt (l[m]'hml) x = false := fun x hx => by
      rcases Nat.eq_zero_or_pos m with h0 | h0
      · subst h0; simp [Lib.compactUpTo] at hx
      · have := h4 x hx (by omega)
        have h5 := List.pairwise_iff_getElem.1 hp (m - 1) m (by omega) hml (by omega)
        exact le_trans' x _ _ this h5
    by_cases hk : Lib.keeps l.toArray m = true
    · rw [if_pos hk, getB l m hml]
      refine ⟨?_, ?_, by simp; omega, ?_⟩
      · refine List.pairwise_append.2 ⟨h1, List.pairwise_singleton _ _, fun x hx y hy => ?_⟩
        rw [List.mem_singleton] at hy
        subst hy
        rcases Nat.eq_zero_or_pos m with h0 | h0
        · subst h0; simp [Lib.compactUpTo] at hx
        · have h6 := h4 x hx (by omega)
          have h5 := List.pairwise_iff_getElem.1 hp (m - 1) m (by omega) hml (by omega)
          have hne : l[m - 1]'(by omega) ≠ l[m]'hml := by
            unfold Lib.keeps at hk
            intro e
            rw [getB l m hml, getB l (m - 1) (by omega)] at hk
            simp [e] at hk
            omega
          have h7 : lt (l[m - 1]'(by omega)) (l[m]'hml) = true := by
            rcases lt_or (l[m - 1]'(by omega)) (l[m]'hml) with h | h | h
            · exact h
            · exact absurd h hne
            · rw [h] at h5; exact absurd h5 (by decide)
          exact le_lt x _ _ h6 h7
      · intro x hx
        rcases List.mem_append.1 hx with hx | hx
        · exact h2 x hx
        · rw [List.mem_singleton] at hx; subst hx; exact List.getElem_mem _
      · intro x hx h
        have e : m + 1 - 1 = m := by omega
        simp only [e]
        rcases List.mem_append.1 hx with hx | hx
        · exact hstep x hx
        · rw [List.mem_singleton] at hx; subst hx; exact lt_irr _
    · rw [if_neg hk, List.append_nil]
      refine ⟨h1, h2, by omega, ?_⟩
      intro x hx h
      have e : m + 1 - 1 = m := by omega
      simp only [e]
      exact hstep x hx
theorem sorts_rise (l : List (List UInt8)) : Rise (sorts l) := (upTo_spec (merged l) (merged_pair l) _ (Nat.le_refl _)).1
theorem sorts_mem (l : List (List UInt8)) (x : List UInt8) (h : x ∈ sorts l) : x ∈ l := merged_mem.1 ((upTo_spec (merged l) (merged_pair l) _ (Nat.le_refl _)).2.1 x h)
theorem sorts_length (l : List (List UInt8)) : (sorts l).length ≤ l.length := by
  have h := (upTo_spec (merged l) (merged_pair l) _ (Nat.le_refl _)).2.2.1
  rw [merged_length] at h
  unfold sorts Lib.compact
  rw [merged_length]
  exact h

/- How many texts of a row that rises are below one. -/
def below (l : List (List UInt8)) (x : List UInt8) : Nat := (l.takeWhile fun y => lt y x).length
theorem below_le (l : List (List UInt8)) (x : List UInt8) : below l x ≤ l.length := by
  unfold below
  exact List.Sublist.length_le (List.takeWhile_sublist _)
theorem below_spec (l : List (List UInt8)) (x : List UInt8) (h : Rise l) : (∀ j (hj : j < l.length), j < below l x → lt (l[j]'hj) x = true) ∧ (∀ j (hj : j < l.length), below l x ≤ j → lt (l[j]'hj) x = false) := by
  induction l with
  | nil => exact ⟨fun j hj => by simp at hj, fun j hj => by simp at hj⟩
  | cons y l ih =>
    have hr := List.pairwise_cons.1 h
    have ih := ih hr.2
    unfold below
    cases hy : lt y x
    · rw [List.takeWhile_cons_of_neg (by simp [hy])]
      refine ⟨fun j hj hl => by simp at hl, fun j hj _ => ?_⟩
      cases j with
      | zero => exact hy
      | succ j =>
        have h1 := hr.1 (l[j]'(by simpa using hj)) (List.getElem_mem _)
        show lt (l[j]'_) x = false
        cases h2 : lt (l[j]'(by simpa using hj)) x
        · rfl
        · rw [lt_trans _ _ _ h1 h2] at hy; exact absurd hy (by decide)
    · rw [List.takeWhile_cons_of_pos (by simp [hy])]
      refine ⟨fun j hj hl => ?_, fun j hj hl => ?_⟩
      · cases j with
        | zero => exact hy
        | succ j => exact ih.1 j (by simpa using hj) (by unfold below; simpa using hl)
      · cases j with
        | zero => simp at hl
        | succ j => exact ih.2 j (by simpa using hj) (by unfold below; simpa using hl)
theorem below_at (l : List (List UInt8)) (x : List UInt8) (h : Rise l) : x ∈ l ↔ ∃ hj : below l x < l.length, l[below l x]'hj = x := by
  constructor
  · intro hx
    obtain ⟨j, hj, e⟩ := List.getElem_of_mem hx
    have hs := below_spec l x h
    have h1 : ¬ j < below l x := fun hl => by
      have := hs.1 j hj hl
      rw [e, lt_irr] at this
      exact absurd this (by decide)
    have hlt : below l x < l.length := by omega
    refine ⟨hlt, ?_⟩
    by_cases hjb : j = below l x
    · subst hjb; exact e
    · have h2 := hs.2 (below l x) hlt (Nat.le_refl _)
      have h3 := List.pairwise_iff_getElem.1 h (below l x) j hlt hj (by omega)
      rw [e] at h3
      rw [h3] at h2
      exact absurd h2 (by decide)
  · rintro ⟨hj, e⟩
    rw [← e]
    exact List.getElem_mem _
end Codec
