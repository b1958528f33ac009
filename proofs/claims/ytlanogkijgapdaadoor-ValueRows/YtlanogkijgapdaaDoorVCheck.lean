/- The contracts of a state's numberFits, mostRows, keyFits, checkRow. -/
import Derived.Test.YtlanogkijgapdaaDoorVWords
import Derived.Test.YtlanogkijgapdaaDoorAFirst
import Derived.BigQuiet
namespace Go.Proofs.YtlanogkijgapdaaDoor
open Go.RowKit
set_option linter.unusedVariables false
set_option maxRecDepth 100000

def VS.numOk (s : VS) : Bool := if s.kind = 2 then decide (s.rows.length = 0) else if s.kind = 3 then decide (s.rows.length = 0) && decide (0 ≤ s.n) else decide (s.n = 0)
def VS.most (s : VS) : Nat := if s.kind = 1 then 1 else 8
def VS.key (s : VS) (i : Nat) : List UInt8 := (s.rows.getD i ([], [])).1
def VS.val (s : VS) (i : Nat) : List UInt8 := (s.rows.getD i ([], [])).2
def VS.keyOk (s : VS) (i : Nat) : Bool :=
  if s.kind = 1 then decide (s.key i ≠ [])
  else if s.kind = 4 ∨ s.kind = 5 then decide (i = 0) || Codec.lt (s.key (i - 1)) (s.key i)
  else if s.kind = 7 then decide (i = 0) || !Codec.lt (s.key i) (s.key (i - 1))
  else true
def VS.rowErr (s : VS) (i : Nat) : Int :=
  if 24 < (s.key i).length ∨ 24 < (s.val i).length then 3
  else if s.val i ≠ [] ∧ s.kind ≠ 5 ∨ s.keyOk i = false then 2 else 0
def VS.check (s : VS) : Int :=
  if s.kind < 1 ∨ 7 < s.kind then 6 else if s.numOk = false then 2 else if s.most < s.rows.length then 7 else first s.rowErr s.rows.length

theorem numFits_any {w : World} {v : Value} {s : VS} (h : StAt w v s) :
    Calls Tryd.prog 32 #[v] w fun e w' => e = .returned (.bool s.numOk) ∧ Below w.heap.size w w' := by
  obtain ⟨k, rfl, hr⟩ := h
  obtain ⟨a, c, rfl, hc, hm⟩ := hr.shape
  unfold VS.numOk
  unfold maxLen at hm
  clear hr
  obtain ⟨kd, n, rows⟩ := s
  dsimp only at *
  by_cases h2 : kd = 2
  · subst h2
    rw [if_pos rfl]
    go_enter Tryd.func32, Tryd.ntmps32
    go_wp2
    go_ret
    refine ⟨ret_bool ?_, under_box _⟩
    rw [Bool.eq_iff_iff, beq_iff_eq, decide_eq_true_eq]
    omega
  rw [if_neg h2]
  have e2 : (kd == 2) = false := by rw [beq_eq_false_iff_ne]; exact h2
  by_cases h3 : kd = 3
  · subst h3
    rw [if_pos rfl]
    by_cases h0 : rows.length = 0
    · have e0 : (((rows.length : Nat) : Int) == 0) = true := by rw [beq_iff_eq]; omega
      go_enter Tryd.func32, Tryd.ntmps32
      go_wp2
      go_ret
      refine ⟨ret_bool ?_, under_box _⟩
      simp [h0]
    · have e0 : (((rows.length : Nat) : Int) == 0) = false := by rw [beq_eq_false_iff_ne]; omega
      go_enter Tryd.func32, Tryd.ntmps32
      go_wp2
      go_ret
      refine ⟨ret_bool ?_, under_box _⟩
      simp [h0]
  rw [if_neg h3]
  have e3 : (kd == 3) = false := by rw [beq_eq_false_iff_ne]; exact h3
  go_enter Tryd.func32, Tryd.ntmps32
  go_wp2
  go_ret
  refine ⟨ret_bool ?_, under_box _⟩
  rw [Bool.eq_iff_iff, beq_iff_eq, decide_eq_true_eq]

theorem most_any {w : World} {v : Value} {s : VS} (h : StAt w v s) :
    Calls Tryd.prog 33 #[v] w fun e w' => e = .returned (.int .i64 ((s.most : Nat) : Int)) ∧ Below w.heap.size w w' := by
  obtain ⟨k, rfl, hr⟩ := h
  obtain ⟨a, c, rfl, hc, hm⟩ := hr.shape
  unfold VS.most
  clear hr hm
  obtain ⟨kd, n, rows⟩ := s
  dsimp only at *
  by_cases h2 : kd = 1
  · subst h2
    rw [if_pos rfl]
    go_enter Tryd.func33, Tryd.ntmps33
    go_wp2
    go_ret
    exact ⟨rfl, under_box _⟩
  · rw [if_neg h2]
    have e2 : (kd == 1) = false := by rw [beq_eq_false_iff_ne]; exact h2
    go_enter Tryd.func33, Tryd.ntmps33
    go_wp2
    go_ret
    exact ⟨rfl, under_box _⟩

theorem S_not_lt (a b : List UInt8) : (!Op.bytesLess (S a).toList (S b).toList) = !Codec.lt a b := by rw [S_lt]

set_option maxHeartbeats 3200000 in
theorem keyFits_any {w : World} {v : Value} {s : VS} (h : StAt w v s) (i : Nat) (hi : i < s.rows.length) :
    Calls Tryd.prog 55 #[v, .int .i64 (i : Int)] w fun e w' => e = .returned (.bool (s.keyOk i)) ∧ Below w.heap.size w w' := by
  obtain ⟨k, rfl, hr⟩ := h
  obtain ⟨a, c, rfl, hc, hm⟩ := hr.shape
  obtain ⟨b, off, rfl, hlt, hcell⟩ := hr.place (by omega)
  unfold maxLen at hm
  have hk1 : ∀ o, (w.alloc o).cell? ⟨b, off + i * 2, none⟩ = some (.string (S (s.key i))) := fun o => by
    rw [(under_box o).cell (p := ⟨b, off + i * 2, none⟩) hlt, (hcell i hi).1]
    simp [VS.key, List.getD, hi]
  have hk0 : 0 < i → ∀ o, (w.alloc o).cell? ⟨b, off + (i - 1) * 2, none⟩ = some (.string (S (s.key (i - 1)))) := fun h0 o => by
    have hi' : i - 1 < s.rows.length := by omega
    rw [(under_box o).cell (p := ⟨b, off + (i - 1) * 2, none⟩) hlt, (hcell (i - 1) hi').1]
    simp [VS.key, List.getD, hi']
  unfold VS.keyOk
  have hi0 : (0 : Int) ≤ (i : Int) := by omega
  have hi1 : (i : Int) < ((s.rows.length : Nat) : Int) := by omega
  have hne : w.heap.size ≠ b := by omega
  generalize s.key i = x at *
  clear hcell hr
  obtain ⟨kd, n, rows⟩ := s
  dsimp only at *
  by_cases c1 : kd = 1
  · subst c1
    rw [if_pos rfl]
    clear hk0
    go_enter Tryd.func55, Tryd.ntmps55
    go_wp2
    go_ret
    exact ⟨ret_bool (by rw [S_isEmpty]; cases x <;> simp), under_box _⟩
  rw [if_neg c1]
  have e1 : (kd == 1) = false := by rw [beq_eq_false_iff_ne]; exact c1
  by_cases c4 : kd = 4 ∨ kd = 5
  · rw [if_pos c4]
    have hg := S_gt x (VS.key ⟨kd, n, rows⟩ (i - 1))
    generalize VS.key ⟨kd, n, rows⟩ (i - 1) = y at *
    rcases Nat.eq_zero_or_pos i with h0 | h0
    · have z0 : ((i : Int) == 0) = true := by rw [beq_iff_eq]; omega
      rw [decide_eq_true h0, Bool.true_or]
      clear hk0 hg h0
      rcases c4 with rfl | rfl
      all_goals
        go_enter Tryd.func55, Tryd.ntmps55
        go_wp2
        go_ret
        exact ⟨rfl, under_box _⟩
    · have z0 : ((i : Int) == 0) = false := by rw [beq_eq_false_iff_ne]; omega
      rw [decide_eq_false (by omega), Bool.false_or, ← hg]
      have hc0 := hk0 h0
      have hw1 : IntKind.i64.wrap ((i : Int) - 1) = ((i - 1 : Nat) : Int) := by rw [IntKind.wrap_i64]; omega
      have hi2 : (0 : Int) ≤ ((i - 1 : Nat) : Int) := by omega
      have hi3 : ((i - 1 : Nat) : Int) < ((rows.length : Nat) : Int) := by omega
      clear hk0 hg h0
      rcases c4 with rfl | rfl
      all_goals
        go_enter Tryd.func55, Tryd.ntmps55
        go_wp2
        go_ret
        exact ⟨ret_bool (by simp), under_box _⟩
  rw [if_neg c4]
  have e4 : (kd == 4) = false := by rw [beq_eq_false_iff_ne]; exact fun h => c4 (Or.inl h)
  have e5 : (kd == 5) = false := by rw [beq_eq_false_iff_ne]; exact fun h => c4 (Or.inr h)
  by_cases c7 : kd = 7
  · subst c7
    rw [if_pos rfl]
    have hg := S_not_lt x (VS.key ⟨7, n, rows⟩ (i - 1))
    generalize VS.key ⟨7, n, rows⟩ (i - 1) = y at *
    rcases Nat.eq_zero_or_pos i with h0 | h0
    · have z0 : ((i : Int) == 0) = true := by rw [beq_iff_eq]; omega
      rw [decide_eq_true h0, Bool.true_or]
      clear hk0 hg h0
      go_enter Tryd.func55, Tryd.ntmps55
      go_wp2
      go_ret
      exact ⟨rfl, under_box _⟩
    · have z0 : ((i : Int) == 0) = false := by rw [beq_eq_false_iff_ne]; omega
      rw [decide_eq_false (by omega), Bool.false_or, ← hg]
      have hc0 := hk0 h0
      have hw1 : IntKind.i64.wrap ((i : Int) - 1) = ((i - 1 : Nat) : Int) := by rw [IntKind.wrap_i64]; omega
      have hi2 : (0 : Int) ≤ ((i - 1 : Nat) : Int) := by omega
      have hi3 : ((i - 1 : Nat) : Int) < ((rows.length : Nat) : Int) := by omega
      clear hk0 hg h0
      go_enter Tryd.func55, Tryd.ntmps55
      go_wp2
      go_ret
      exact ⟨rfl, under_box _⟩
  rw [if_neg c7]
  have e7 : (kd == 7) = false := by rw [beq_eq_false_iff_ne]; exact c7
  clear hk0
  go_enter Tryd.func55, Tryd.ntmps55
  go_wp2
  go_ret
  exact ⟨rfl, under_box _⟩

/- A box of three cells, and one of two behind it. -/
theorem box32 (w : World) (a b c d e : Value) (t t' : TypeId) : ((w.alloc (.cells #[a, b, c] t)).alloc (.cells #[d, e] t')).cell? ⟨w.heap.size, 0, none⟩ = some a ∧ ((w.alloc (.cells #[a, b, c] t)).alloc (.cells #[d, e] t')).cell? ⟨w.heap.size, 1, none⟩ = some b ∧ ((w.alloc (.cells #[a, b, c] t)).alloc (.cells #[d, e] t')).cell? ⟨w.heap.size, 2, none⟩ = some c := by
  refine ⟨?_, ?_, ?_⟩ <;> simp

set_option maxHeartbeats 3200000 in
theorem checkRow_any {w : World} {v : Value} {s : VS} (h : StAt w v s) (i : Nat) (hi : i < s.rows.length) :
    Calls Tryd.prog 34 #[v, .int .i64 (i : Int)] w fun e w' => e = .returned (.int .i64 (s.rowErr i)) ∧ Below w.heap.size w w' := by
  have HKF := hide (fun (w1 : World) (hb : Below w.heap.size w w1) => keyFits_any (h.later hb) i hi)
  obtain ⟨k, rfl, hr⟩ := h
  obtain ⟨a, c, rfl, hc, hm⟩ := hr.shape
  obtain ⟨b, off, rfl, hlt, hcell⟩ := hr.place (by omega)
  unfold maxLen at hm
  have hk1 : ∀ o, (w.alloc o).cell? ⟨b, off + i * 2, none⟩ = some (.string (S (s.key i))) := fun o => by
    rw [(under_box o).cell (p := ⟨b, off + i * 2, none⟩) hlt, (hcell i hi).1]
    simp [VS.key, List.getD, hi]
  have hv1 : ∀ o, (w.alloc o).cell? ⟨b, off + i * 2 + 1, none⟩ = some (.string (S (s.val i))) := fun o => by
    rw [(under_box o).cell (p := ⟨b, off + i * 2 + 1, none⟩) hlt, (hcell i hi).2]
    simp [VS.val, List.getD, hi]
  unfold VS.rowErr
  have hi0 : (0 : Int) ≤ (i : Int) := by omega
  have hi1 : (i : Int) < ((s.rows.length : Nat) : Int) := by omega
  have hne : w.heap.size ≠ b := by omega
  generalize s.keyOk i = kf at *
  generalize s.key i = x at *
  generalize s.val i = y at *
  clear hcell hr
  obtain ⟨kd, n, rows⟩ := s
  dsimp only at *
  have hsx : (S x).size = x.length := rfl
  have hsy : (S y).size = y.length := rfl
  by_cases b1 : 24 < x.length
  · rw [if_pos (Or.inl b1)]
    have hb1 : (24 : Int) < ((x.length : Nat) : Int) := by omega
    go_enter Tryd.func34, Tryd.ntmps34
    go_wp2
    go_ret
    exact ⟨rfl, under_two _ _ _⟩
  have hb1 : ¬ (24 : Int) < ((x.length : Nat) : Int) := by omega
  by_cases b2 : 24 < y.length
  · rw [if_pos (Or.inr b2)]
    have hb2 : (24 : Int) < ((y.length : Nat) : Int) := by omega
    go_enter Tryd.func34, Tryd.ntmps34
    go_wp2
    go_ret
    exact ⟨rfl, under_two _ _ _⟩
  have hb2 : ¬ (24 : Int) < ((y.length : Nat) : Int) := by omega
  rw [if_neg (by omega)]
  have HE := hide (S_isEmpty y)
  by_cases hy : y ≠ [] ∧ kd ≠ 5
  · rw [if_pos (Or.inl hy)]
    have he : (S y).toList.isEmpty = false := by rw [S_isEmpty]; cases y with | nil => exact absurd rfl hy.1 | cons _ _ => rfl
    have h5 : (kd != 5) = true := by rw [bne_iff_ne]; exact hy.2
    go_enter Tryd.func34, Tryd.ntmps34
    go_wp2
    go_ret
    exact ⟨rfl, under_two _ _ _⟩
  have hif : (if y ≠ [] ∧ kd ≠ 5 ∨ kf = false then (2 : Int) else 0) = if kf = true then 0 else 2 := by
    cases kf
    · rw [if_pos (Or.inr rfl)]; rfl
    · rw [if_neg (by rintro (h | h); exact hy h; cases h)]; rfl
  rw [hif]
  clear hif
  by_cases hyn : y = []
  · have he : (S y).toList.isEmpty = true := by rw [S_isEmpty, hyn]; rfl
    clear hyn hy
    cases kf
    all_goals
      go_enter Tryd.func34, Tryd.ntmps34
      go_wp2_with fail
      refine (unhide HKF _ (under_two _ _ _)).mono ?_
      rintro e w1 ⟨rfl, hb1⟩
      have HB := hide ((under_two _ _ _).trans (hb1.mono (by simp; omega)))
      clear hb1 HKF
      go_wp2
      go_ret
      exact ⟨rfl, unhide HB⟩
  · have he : (S y).toList.isEmpty = false := by rw [S_isEmpty]; cases y with | nil => exact absurd rfl hyn | cons _ _ => rfl
    have h5 : (kd != 5) = false := by
      by_cases h : kd = 5
      · subst h; rfl
      · exact absurd ⟨hyn, h⟩ hy
    clear hyn hy
    cases kf
    all_goals
      go_enter Tryd.func34, Tryd.ntmps34
      go_wp2_with fail
      refine (unhide HKF _ (under_two _ _ _)).mono ?_
      rintro e w1 ⟨rfl, hb1⟩
      have HB := hide ((under_two _ _ _).trans (hb1.mono (by simp; omega)))
      clear hb1 HKF
      go_wp2
      go_ret
      exact ⟨rfl, unhide HB⟩
end Go.Proofs.YtlanogkijgapdaaDoor
