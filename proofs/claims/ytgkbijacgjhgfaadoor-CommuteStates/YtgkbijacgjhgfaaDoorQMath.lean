/- Which steps commute, in plain words: the program's table, and that steps it lets pass are legal in either order, with the same end. -/
import Derived.Test.YtgkbijacgjhgfaaDoorTMath
import Derived.Test.YtgkbijacgjhgfaaDoorVLike
namespace Go.Proofs.YtgkbijacgjhgfaaDoor
open Go.RowKit
set_option linter.unusedVariables false
set_option maxRecDepth 100000

abbrev Stp := MC × MR
def kd (p : Stp) : Int := (mfact p.1.op).kind
def refM (p : Stp) : Bool := decide (p.2.code = 2)
def textM (p : Stp) : List UInt8 := if p.1.op = 2 then p.1.a else p.2.text
def spendM (x y : Stp) : Bool := if y.1.op = 7 then decide (x.1.n ≤ y.2.n) else if y.1.op = 6 then !refM y else false
def wasM (p : Stp) : Bool := if p.1.op = 8 ∨ p.1.op = 11 then refM p else !refM p
def upsM (x y : Stp) : Bool :=
  if mchanges x.1.op x.1.n x.2.code = false then false
  else if x.1.op = 2 then decide (textM y ≠ x.1.a)
  else if x.1.op = 3 then decide (y.1.op = 4)
  else if x.1.op = 5 then decide (y.1.op = 7) || (decide (y.1.op = 6) && refM y)
  else if x.1.op = 6 then spendM x y
  else if x.1.op = 8 ∨ x.1.op = 9 ∨ x.1.op = 11 ∨ x.1.op = 12 then decide (y.1.a = x.1.a) && (wasM y == wasM x)
  else if x.1.op = 14 then (decide (y.1.op = 14) && decide (y.1.a ≠ x.1.a)) || (decide (y.1.op = 15) && refM y)
  else if x.1.op = 16 then decide (y.1.op = 17) && refM y
  else decide (y.1.op = x.1.op) && decide (y.2 = x.2)
def posM (p : Stp) : Bool :=
  if p.1.op = 1 then decide (p.2 = ⟨1, p.2.text, 0⟩)
  else if p.1.op = 13 ∨ p.1.op = 15 ∨ p.1.op = 17 then decide (p.2 = ⟨1, p.2.text, 0⟩) || decide (p.2 = ⟨2, [], 0⟩)
  else if p.1.op = 4 then decide (p.2 = ⟨1, [], p.2.n⟩)
  else if p.1.op = 7 then decide (p.2 = ⟨1, [], p.2.n⟩) && decide (0 ≤ p.2.n)
  else if p.1.op = 6 ∨ p.1.op = 8 ∨ p.1.op = 9 ∨ p.1.op = 10 ∨ p.1.op = 11 ∨ p.1.op = 12 then decide (p.2 = ⟨1, [], 0⟩) || decide (p.2 = ⟨2, [], 0⟩)
  else if p.1.op = 2 ∨ p.1.op = 3 ∨ p.1.op = 5 ∨ p.1.op = 14 ∨ p.1.op = 16 then decide (p.2 = ⟨1, [], 0⟩)
  else false
def conM (x y : Stp) : Bool := posM x && posM y && decide (kd x = kd y) && (upsM x y || upsM y x)
def comM (s : VS) (x y : Stp) : Bool :=
  if legal s x.1 x.2 = true ∧ legal s y.1 y.2 = true then
    legal (apply2 s x.1 x.2) y.1 y.2 && (legal (apply2 s y.1 y.2) x.1 x.2 && (apply2 (apply2 s x.1 x.2) y.1 y.2).alike (apply2 (apply2 s y.1 y.2) x.1 x.2))
  else true

/- Rows that come and go. -/
abbrev Rw := List UInt8 × List UInt8
theorem putF_comm (r q : Rw) (h : r.1 ≠ q.1 ∨ r = q) : ∀ l : List Rw, putF r (putF q l) = putF q (putF r l) := by
  by_cases h0 : r = q
  · subst h0; intro l; rfl
  replace h := h.resolve_right h0
  intro l
  have tot : Codec.lt r.1 q.1 = !Codec.lt q.1 r.1 := by
    rcases Codec.ltt_or r.1 q.1 with g | g | g
    · rw [g, Codec.lt_asym _ _ g]; rfl
    · exact absurd g h
    · rw [g, Codec.lt_asym _ _ g]; rfl
  induction l with
  | nil =>
    show putF r [q] = putF q [r]
    unfold putF
    rw [tot]
    cases Codec.lt q.1 r.1 <;> simp [putF]
  | cons x t ih =>
    show putF r (if Codec.lt q.1 x.1 = true then q :: x :: t else x :: putF q t) = putF q (if Codec.lt r.1 x.1 = true then r :: x :: t else x :: putF r t)
    by_cases h1 : Codec.lt q.1 x.1 = true
    · by_cases h2 : Codec.lt r.1 x.1 = true
      · rw [if_pos h1, if_pos h2]
        show (if Codec.lt r.1 q.1 = true then r :: q :: x :: t else q :: putF r (x :: t)) = (if Codec.lt q.1 r.1 = true then q :: r :: x :: t else r :: putF q (x :: t))
        rw [tot]
        have e1 : putF r (x :: t) = r :: x :: t := by show (if _ then _ else _) = _; rw [if_pos h2]
        have e2 : putF q (x :: t) = q :: x :: t := by show (if _ then _ else _) = _; rw [if_pos h1]
        rw [e1, e2]
        cases Codec.lt q.1 r.1 <;> simp
      · rw [if_pos h1, if_neg h2]
        have hn : Codec.lt r.1 q.1 = false := by
          cases g : Codec.lt r.1 q.1 with
          | false => rfl
          | true => exact absurd (Codec.ltt_trans _ _ _ g h1) h2
        show (if Codec.lt r.1 q.1 = true then _ else q :: putF r (x :: t)) = (if Codec.lt q.1 x.1 = true then q :: x :: putF r t else _)
        rw [if_neg (by rw [hn]; simp), if_pos h1]
        have e1 : putF r (x :: t) = x :: putF r t := by show (if _ then _ else _) = _; rw [if_neg h2]
        rw [e1]
    · by_cases h2 : Codec.lt r.1 x.1 = true
      · rw [if_neg h1, if_pos h2]
        have hn : Codec.lt q.1 r.1 = false := by
          cases g : Codec.lt q.1 r.1 with
          | false => rfl
          | true => exact absurd (Codec.ltt_trans _ _ _ g h2) h1
        show (if Codec.lt r.1 x.1 = true then r :: x :: putF q t else _) = (if Codec.lt q.1 r.1 = true then _ else r :: putF q (x :: t))
        rw [if_pos h2, if_neg (by rw [hn]; simp)]
        have e1 : putF q (x :: t) = x :: putF q t := by show (if _ then _ else _) = _; rw [if_neg h1]
        rw [e1]
      · rw [if_neg h1, if_neg h2]
        show (if Codec.lt r.1 x.1 = true then _ else x :: putF r (putF q t)) = (if Codec.lt q.1 x.1 = true then _ else x :: putF q (putF r t))
        rw [if_neg h1, if_neg h2, ih]
def goneL (key : List UInt8) (l : List Rw) : List Rw := l.eraseIdx (hits key l)
theorem goneL_here (key : List UInt8) (x : Rw) (t : List Rw) (h : x.1 = key) : goneL key (x :: t) = t := by
  unfold goneL hits; rw [if_pos h]; rfl
theorem goneL_past (key : List UInt8) (x : Rw) (t : List Rw) (h : x.1 ≠ key) : goneL key (x :: t) = x :: goneL key t := by
  unfold goneL; rw [show hits key (x :: t) = hits key t + 1 by conv => lhs; unfold hits; rw [if_neg h]]; rfl
theorem goneL_sub (key : List UInt8) (l : List Rw) : ∀ y ∈ goneL key l, y ∈ l := fun y hy => (List.eraseIdx_sublist _ _).subset hy
theorem has_mem {key : List UInt8} {l : List Rw} (h : hits key l < l.length) : ∃ x ∈ l, x.1 = key := ⟨_, List.getElem_mem h, hits_key key l h⟩
theorem mem_has {key : List UInt8} {l : List Rw} {x : Rw} (hx : x ∈ l) (h : x.1 = key) : hits key l < l.length := by
  rcases Nat.lt_or_ge (hits key l) l.length with g | g
  · exact g
  · exact absurd h (hits_not key l (Nat.le_antisymm (hits_le key l) g) x hx)
theorem putF_head (r : Rw) : ∀ l : List Rw, (∀ y ∈ l, Codec.lt r.1 y.1 = true) → putF r l = r :: l
  | [], _ => rfl
  | y :: t, h => by
    show (if _ then _ else _) = _
    rw [if_pos (h y (List.mem_cons_self ..))]
theorem stand_lt {r x : Rw} {t : List Rw} (hs : Stand (x :: t)) (h : Codec.lt r.1 x.1 = true) : ∀ y ∈ x :: t, Codec.lt r.1 y.1 = true := by
  intro y hy
  rcases List.mem_cons.mp hy with rfl | hy
  · exact h
  · have h2 := (List.pairwise_cons.mp hs).1 y hy
    rcases Codec.ltt_or r.1 y.1 with g | g | g
    · exact g
    · rw [← g, h] at h2; cases h2
    · rw [Codec.ltt_trans _ _ _ g h] at h2; cases h2
theorem gone_put (r : Rw) (key : List UInt8) (hk : r.1 ≠ key ∨ True) : ∀ l : List Rw, Stand l → (r.1 ≠ key ∨ ∃ x ∈ l, x.1 = key) → goneL key (putF r l) = putF r (goneL key l)
  | [], _, h => by
    have h1 : r.1 ≠ key := by
      rcases h with h | ⟨x, hx, _⟩
      · exact h
      · cases hx
    show goneL key [r] = putF r []
    rw [goneL_past key r [] h1]
    rfl
  | x :: t, hs, h => by
    show goneL key (if Codec.lt r.1 x.1 = true then r :: x :: t else x :: putF r t) = _
    by_cases h1 : Codec.lt r.1 x.1 = true
    · rw [if_pos h1]
      have hall := stand_lt hs h1
      have hne : r.1 ≠ key := by
        rcases h with h | ⟨y, hy, e⟩
        · exact h
        · intro e2
          have := hall y hy
          rw [e, e2] at this
          have g := Codec.lt_asym _ _ this
          rw [this] at g
          cases g
      rw [goneL_past key r _ hne, putF_head r _ fun y hy => hall y (goneL_sub key _ y hy)]
    · rw [if_neg h1]
      by_cases e : x.1 = key
      · rw [goneL_here key x _ e, goneL_here key x _ e]
      · rw [goneL_past key x _ e, goneL_past key x _ e]
        have ht : r.1 ≠ key ∨ ∃ y ∈ t, y.1 = key := by
          rcases h with h | ⟨y, hy, e2⟩
          · exact Or.inl h
          · rcases List.mem_cons.mp hy with rfl | hy
            · exact absurd e2 e
            · exact Or.inr ⟨y, hy, e2⟩
        show x :: goneL key (putF r t) = (if Codec.lt r.1 x.1 = true then _ else x :: putF r (goneL key t))
        rw [if_neg h1, gone_put r key hk t (List.pairwise_cons.mp hs).2 ht]
theorem gone_comm (a b : List UInt8) (h : a ≠ b) : ∀ l : List Rw, goneL a (goneL b l) = goneL b (goneL a l)
  | [] => rfl
  | x :: t => by
    by_cases e1 : x.1 = a
    · have e2 : x.1 ≠ b := fun e => h (e1.symm.trans e)
      rw [goneL_past b x t e2, goneL_here a x _ e1, goneL_here a x _ e1]
    · by_cases e2 : x.1 = b
      · rw [goneL_past a x t e1, goneL_here b x _ e2, goneL_here b x _ e2]
      · rw [goneL_past a x t e1, goneL_past b x t e2, goneL_past a x _ e1, goneL_past b x _ e2, gone_comm a b h t]
theorem putF_mem_iff (r x : Rw) (l : List Rw) : x ∈ putF r l ↔ x = r ∨ x ∈ l := by
  refine ⟨putF_mem, fun h => ?_⟩
  induction l with
  | nil => simpa [putF] using h
  | cons y t ih =>
    show x ∈ (if _ then _ else _)
    split
    · rcases h with rfl | h
      · exact List.mem_cons_self ..
      · exact List.mem_cons_of_mem _ h
    · rcases h with h | h
      · exact List.mem_cons_of_mem _ (ih (Or.inl h))
      · rcases List.mem_cons.mp h with rfl | h
        · exact List.mem_cons_self ..
        · exact List.mem_cons_of_mem _ (ih (Or.inr h))
/- What is found behind a row that came, or went. -/
theorem hits_put (r : Rw) (key : List UInt8) (h : r.1 ≠ key) (l : List Rw) : decide (hits key (putF r l) < (putF r l).length) = decide (hits key l < l.length) := by
  rw [decide_eq_decide]
  constructor
  · intro g
    obtain ⟨x, hx, e⟩ := has_mem g
    rcases putF_mem hx with rfl | hx
    · exact absurd e h
    · exact mem_has hx e
  · intro g
    obtain ⟨x, hx, e⟩ := has_mem g
    exact mem_has ((putF_mem_iff r x l).2 (Or.inr hx)) e
theorem val_put (r : Rw) (key : List UInt8) (h : r.1 ≠ key) : ∀ l : List Rw, hits key l < l.length → ((putF r l).getD (hits key (putF r l)) ([], [])).2 = (l.getD (hits key l) ([], [])).2
  | [], g => by simp at g
  | x :: t, g => by
    show ((if Codec.lt r.1 x.1 = true then r :: x :: t else x :: putF r t).getD (hits key (if Codec.lt r.1 x.1 = true then r :: x :: t else x :: putF r t)) ([], [])).2 = _
    split
    · rw [show hits key (r :: x :: t) = hits key (x :: t) + 1 by conv => lhs; unfold hits; rw [if_neg h]]
      simp
    · by_cases e : x.1 = key
      · rw [show hits key (x :: putF r t) = 0 by unfold hits; rw [if_pos e], show hits key (x :: t) = 0 by unfold hits; rw [if_pos e]]
        simp
      · have e1 : ∀ l', hits key (x :: l') = hits key l' + 1 := fun l' => by conv => lhs; unfold hits; rw [if_neg e]
        rw [e1, e1]
        rw [e1] at g
        simpa using val_put r key h t (by simpa using g)
theorem gone_mem_other {key : List UInt8} {x : Rw} (h : x.1 ≠ key) : ∀ l : List Rw, x ∈ l → x ∈ goneL key l
  | y :: t, hx => by
    by_cases e : y.1 = key
    · rw [goneL_here key y t e]
      rcases List.mem_cons.mp hx with rfl | hx
      · exact absurd e h
      · exact hx
    · rw [goneL_past key y t e]
      rcases List.mem_cons.mp hx with rfl | hx
      · exact List.mem_cons_self ..
      · exact List.mem_cons_of_mem _ (gone_mem_other h t hx)
theorem hits_gone (a key : List UInt8) (h : a ≠ key) (l : List Rw) : decide (hits key (goneL a l) < (goneL a l).length) = decide (hits key l < l.length) := by
  rw [decide_eq_decide]
  constructor
  · intro g
    obtain ⟨x, hx, e⟩ := has_mem g
    exact mem_has (goneL_sub a l x hx) e
  · intro g
    obtain ⟨x, hx, e⟩ := has_mem g
    exact mem_has (gone_mem_other (fun e2 => h (e2.symm.trans e)) l hx) e
theorem val_gone (a key : List UInt8) (h : a ≠ key) : ∀ l : List Rw, hits key l < l.length → ((goneL a l).getD (hits key (goneL a l)) ([], [])).2 = (l.getD (hits key l) ([], [])).2
  | [], g => by simp at g
  | x :: t, g => by
    by_cases e0 : x.1 = a
    · have e : x.1 ≠ key := fun e => h (e0.symm.trans e)
      rw [goneL_here a x t e0, show hits key (x :: t) = hits key t + 1 by conv => lhs; unfold hits; rw [if_neg e]]
      simp
    · rw [goneL_past a x t e0]
      by_cases e : x.1 = key
      · rw [show hits key (x :: goneL a t) = 0 by unfold hits; rw [if_pos e], show hits key (x :: t) = 0 by unfold hits; rw [if_pos e]]
        simp
      · have e1 : ∀ l', hits key (x :: l') = hits key l' + 1 := fun l' => by conv => lhs; unfold hits; rw [if_neg e]
        rw [e1, e1]
        rw [e1] at g
        simpa using val_gone a key h t (by simpa using g)
/- What may be taken. -/
theorem tk_key {s : VS} : ∀ k r, r ∈ tk s k → ∃ j, j < k ∧ r = ⟨1, s.key j, 0⟩
  | 0, r, h => by cases h
  | k + 1, r, h => by
    unfold tk at h
    rcases List.mem_append.mp h with h | h
    · obtain ⟨j, hj, e⟩ := tk_key k r h
      exact ⟨j, by omega, e⟩
    · split at h
      · simp only [List.mem_singleton] at h
        exact ⟨k, by omega, h⟩
      · cases h
theorem key_tk {s : VS} : ∀ k j, j < k → (⟨1, s.key j, 0⟩ : MR) ∈ tk s k
  | 0, j, h => by omega
  | k + 1, j, h => by
    unfold tk
    by_cases e : j < k
    · exact List.mem_append_left _ (key_tk k j e)
    · have e2 : j = k := by omega
      subst e2
      by_cases hc : j = 0 ∨ s.key j ≠ s.key (j - 1)
      · rw [if_pos hc]
        exact List.mem_append_right _ (List.mem_singleton.mpr rfl)
      · have h0 : j ≠ 0 := fun e => hc (Or.inl e)
        have h1 : s.key j = s.key (j - 1) := by
          by_cases e : s.key j = s.key (j - 1)
          · exact e
          · exact absurd (Or.inr e) hc
        rw [h1]
        exact List.mem_append_left _ (key_tk j (j - 1) (by omega))
theorem takes_mem {s : VS} {r : MR} : r ∈ takes s ↔ (s.rows = [] ∧ r = okR false) ∨ ∃ x ∈ s.rows, r = ⟨1, x.1, 0⟩ := by
  unfold takes
  split
  · rename_i h
    have h0 : s.rows = [] := List.eq_nil_of_length_eq_zero h
    constructor
    · intro g
      exact Or.inl ⟨h0, List.mem_singleton.mp g⟩
    · rintro (⟨_, e⟩ | ⟨x, hx, _⟩)
      · exact List.mem_singleton.mpr e
      · rw [h0] at hx; cases hx
  · rename_i h
    constructor
    · intro g
      obtain ⟨j, hj, e⟩ := tk_key _ _ g
      refine Or.inr ⟨s.rows[j], List.getElem_mem hj, ?_⟩
      rw [e]
      simp [VS.key, List.getD, hj]
    · rintro (⟨e, _⟩ | ⟨x, hx, e⟩)
      · rw [e] at h; exact absurd rfl h
      · obtain ⟨j, hj, e2⟩ := List.getElem_of_mem hx
        have := key_tk (s := s) s.rows.length j hj
        rw [show s.key j = x.1 by rw [← e2]; simp [VS.key, List.getD, hj]] at this
        rw [e]
        exact this
end Go.Proofs.YtgkbijacgjhgfaaDoor
