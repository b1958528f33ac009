/- Texts that this proof needs, one behind the other: QMath, QState, QExact. -/
import Derived.Test.YteaiidcconggcaaDoorTMath
import Derived.Test.YteaiidcconggcaaDoorVLike
/- Which steps commute, in plain words: the program's table, and that steps it lets pass are legal in either order, with the same end. -/
namespace Go.Proofs.YteaiidcconggcaaDoor
open Go.RowKit
set_option linter.unusedVariables false
set_option maxRecDepth 100000

abbrev Stp := MC × MR
def kd (p : Stp) : Int := (mfact p.1.op).kind
def refM (p : Stp) : Bool := decide (p.2.code = 2)
def textM (p : Stp) : List UInt8 := if p.1.op = 2 then p.1.a else p.2.text
def spendM (x y : Stp) : Bool := if y.1.op = 7 then decide (x.1.n ≤ y.2.n) else if y.1.op = 6 then !refM y else false
def wasM (p : Stp) : Bool := if p.1.op = 8 ∨ p.1.op = 11 then refM p else !refM p
def upsM (x y : Stp) : Bool :=
  if mchanges x.1.op x.1.n x.2.code = false then false
  else if x.1.op = 2 then decide (textM y ≠ x.1.a)
  else if x.1.op = 3 then decide (y.1.op = 4)
  else if x.1.op = 5 then decide (y.1.op = 7) || (decide (y.1.op = 6) && refM y)
  else if x.1.op = 6 then spendM x y
  else if x.1.op = 8 ∨ x.1.op = 9 ∨ x.1.op = 11 ∨ x.1.op = 12 then decide (y.1.a = x.1.a) && (wasM y == wasM x)
  else if x.1.op = 14 then (decide (y.1.op = 14) && decide (y.1.a ≠ x.1.a)) || (decide (y.1.op = 15) && refM y)
  else if x.1.op = 16 then decide (y.1.op = 17) && refM y
  else decide (y.1.op = x.1.op) && decide (y.2 = x.2)
def posM (p : Stp) : Bool :=
  if p.1.op = 1 then decide (p.2 = ⟨1, p.2.text, 0⟩)
  else if p.1.op = 13 ∨ p.1.op = 15 ∨ p.1.op = 17 then decide (p.2 = ⟨1, p.2.text, 0⟩) || decide (p.2 = ⟨2, [], 0⟩)
  else if p.1.op = 4 then decide (p.2 = ⟨1, [], p.2.n⟩)
  else if p.1.op = 7 then decide (p.2 = ⟨1, [], p.2.n⟩) && decide (0 ≤ p.2.n)
  else if p.1.op = 6 ∨ p.1.op = 8 ∨ p.1.op = 9 ∨ p.1.op = 10 ∨ p.1.op = 11 ∨ p.1.op = 12 then decide (p.2 = ⟨1, [], 0⟩) || decide (p.2 = ⟨2, [], 0⟩)
  else if p.1.op = 2 ∨ p.1.op = 3 ∨ p.1.op = 5 ∨ p.1.op = 14 ∨ p.1.op = 16 then decide (p.2 = ⟨1, [], 0⟩)
  else false
def conM (x y : Stp) : Bool := posM x && posM y && decide (kd x = kd y) && (upsM x y || upsM y x)
def comM (s : VS) (x y : Stp) : Bool :=
  if legal s x.1 x.2 = true ∧ legal s y.1 y.2 = true then
    legal (apply2 s x.1 x.2) y.1 y.2 && (legal (apply2 s y.1 y.2) x.1 x.2 && (apply2 (apply2 s x.1 x.2) y.1 y.2).alike (apply2 (apply2 s y.1 y.2) x.1 x.2))
  else true

/- Rows that come and go. -/
abbrev Rw := List UInt8 × List UInt8
theorem putF_comm (r q : Rw) (h : r.1 ≠ q.1 ∨ r = q) : ∀ l : List Rw, putF r (putF q l) = putF q (putF r l) := by
  by_cases h0 : r = q
  · subst h0; intro l; rfl
  replace h := h.resolve_right h0
  intro l
  have tot : Codec.lt r.1 q.1 = !Codec.lt q.1 r.1 := by
    rcases Codec.ltt_or r.1 q.1 with g | g | g
    · rw [g, Codec.lt_asym _ _ g]; rfl
    · exact absurd g h
    · rw [g, Codec.lt_asym _ _ g]; rfl
  induction l with
  | nil =>
    show putF r [q] = putF q [r]
    unfold putF
    rw [tot]
    cases Codec.lt q.1 r.1 <;> simp [putF]
  | cons x t ih =>
    show putF r (if Codec.lt q.1 x.1 = true then q :: x :: t else x :: putF q t) = putF q (if Codec.lt r.1 x.1 = true then r :: x :: t else x :: putF r t)
    by_cases h1 : Codec.lt q.1 x.1 = true
    · by_cases h2 : Codec.lt r.1 x.1 = true
      · rw [if_pos h1, if_pos h2]
        show (if Codec.lt r.1 q.1 = true then r :: q :: x :: t else q :: putF r (x :: t)) = (if Codec.lt q.1 r.1 = true then q :: r :: x :: t else r :: putF q (x :: t))
        rw [tot]
        have e1 : putF r (x :: t) = r :: x :: t := by show (if _ then _ else _) = _; rw [if_pos h2]
        have e2 : putF q (x :: t) = q :: x :: t := by show (if _ then _ else _) = _; rw [if_pos h1]
        rw [e1, e2]
        cases Codec.lt q.1 r.1 <;> simp
      · rw [if_pos h1, if_neg h2]
        have hn : Codec.lt r.1 q.1 = false := by
          cases g : Codec.lt r.1 q.1 with
          | false => rfl
          | true => exact absurd (Codec.ltt_trans _ _ _ g h1) h2
        show (if Codec.lt r.1 q.1 = true then _ else q :: putF r (x :: t)) = (if Codec.lt q.1 x.1 = true then q :: x :: putF r t else _)
        rw [if_neg (by rw [hn]; simp), if_pos h1]
        have e1 : putF r (x :: t) = x :: putF r t := by show (if _ then _ else _) = _; rw [if_neg h2]
        rw [e1]
    · by_cases h2 : Codec.lt r.1 x.1 = true
      · rw [if_neg h1, if_pos h2]
        have hn : Codec.lt q.1 r.1 = false := by
          cases g : Codec.lt q.1 r.1 with
          | false => rfl
          | true => exact absurd (Codec.ltt_trans _ _ _ g h2) h1
        show (if Codec.lt r.1 x.1 = true then r :: x :: putF q t else _) = (if Codec.lt q.1 r.1 = true then _ else r :: putF q (x :: t))
        rw [if_pos h2, if_neg (by rw [hn]; simp)]
        have e1 : putF q (x :: t) = x :: putF q t := by show (if _ then _ else _) = _; rw [if_neg h1]
        rw [e1]
      · rw [if_neg h1, if_neg h2]
        show (if Codec.lt r.1 x.1 = true then _ else x :: putF r (putF q t)) = (if Codec.lt q.1 x.1 = true then _ else x :: putF q (putF r t))
        rw [if_neg h1, if_neg h2, ih]
def goneL (key : List UInt8) (l : List Rw) : List Rw := l.eraseIdx (hits key l)
theorem goneL_here (key : List UInt8) (x : Rw) (t : List Rw) (h : x.1 = key) : goneL key (x :: t) = t := by
  unfold goneL hits; rw [if_pos h]; rfl
theorem goneL_past (key : List UInt8) (x : Rw) (t : List Rw) (h : x.1 ≠ key) : goneL key (x :: t) = x :: goneL key t := by
  unfold goneL; rw [show hits key (x :: t) = hits key t + 1 by conv => lhs; unfold hits; rw [if_neg h]]; rfl
theorem goneL_sub (key : List UInt8) (l : List Rw) : ∀ y ∈ goneL key l, y ∈ l := fun y hy => (List.eraseIdx_sublist _ _).subset hy
theorem has_mem {key : List UInt8} {l : List Rw} (h : hits key l < l.length) : ∃ x ∈ l, x.1 = key := ⟨_, List.getElem_mem h, hits_key key l h⟩
theorem mem_has {key : List UInt8} {l : List Rw} {x : Rw} (hx : x ∈ l) (h : x.1 = key) : hits key l < l.length := by
  rcases Nat.lt_or_ge (hits key l) l.length with g | g
  · exact g
  · exact absurd h (hits_not key l (Nat.le_antisymm (hits_le key l) g) x hx)
theorem putF_head (r : Rw) : ∀ l : List Rw, (∀ y ∈ l, Codec.lt r.1 y.1 = true) → putF r l = r :: l
  | [], _ => rfl
  | y :: t, h => by
    show (if _ then _ else _) = _
    rw [if_pos (h y (List.mem_cons_self ..))]
theorem stand_lt {r x : Rw} {t : List Rw} (hs : Stand (x :: t)) (h : Codec.lt r.1 x.1 = true) : ∀ y ∈ x :: t, Codec.lt r.1 y.1 = true := by
  intro y hy
  rcases List.mem_cons.mp hy with rfl | hy
  · exact h
  · have h2 := (List.pairwise_cons.mp hs).1 y hy
    rcases Codec.ltt_or r.1 y.1 with g | g | g
    · exact g
    · rw [← g, h] at h2; cases h2
    · rw [Codec.ltt_trans _ _ _ g h] at h2; cases h2
theorem gone_put (r : Rw) (key : List UInt8) (hk : r.1 ≠ key ∨ True) : ∀ l : List Rw, Stand l → (r.1 ≠ key ∨ ∃ x ∈ l, x.1 = key) → goneL key (putF r l) = putF r (goneL key l)
  | [], _, h => by
    have h1 : r.1 ≠ key := by
      rcases h with h | ⟨x, hx, _⟩
      · exact h
      · cases hx
    show goneL key [r] = putF r []
    rw [goneL_past key r [] h1]
    rfl
  | x :: t, hs, h => by
    show goneL key (if Codec.lt r.1 x.1 = true then r :: x :: t else x :: putF r t) = _
    by_cases h1 : Codec.lt r.1 x.1 = true
    · rw [if_pos h1]
      have hall := stand_lt hs h1
      have hne : r.1 ≠ key := by
        rcases h with h | ⟨y, hy, e⟩
        · exact h
        · intro e2
          have := hall y hy
          rw [e, e2] at this
          have g := Codec.lt_asym _ _ this
          rw [this] at g
          cases g
      rw [goneL_past key r _ hne, putF_head r _ fun y hy => hall y (goneL_sub key _ y hy)]
    · rw [if_neg h1]
      by_cases e : x.1 = key
      · rw [goneL_here key x _ e, goneL_here key x _ e]
      · rw [goneL_past key x _ e, goneL_past key x _ e]
        have ht : r.1 ≠ key ∨ ∃ y ∈ t, y.1 = key := by
          rcases h with h | ⟨y, hy, e2⟩
          · exact Or.inl h
          · rcases List.mem_cons.mp hy with rfl | hy
            · exact absurd e2 e
            · exact Or.inr ⟨y, hy, e2⟩
        show x :: goneL key (putF r t) = (if Codec.lt r.1 x.1 = true then _ else x :: putF r (goneL key t))
        rw [if_neg h1, gone_put r key hk t (List.pairwise_cons.mp hs).2 ht]
theorem gone_comm (a b : List UInt8) (h : a ≠ b) : ∀ l : List Rw, goneL a (goneL b l) = goneL b (goneL a l)
  | [] => rfl
  | x :: t => by
    by_cases e1 : x.1 = a
    · have e2 : x.1 ≠ b := fun e => h (e1.symm.trans e)
      rw [goneL_past b x t e2, goneL_here a x _ e1, goneL_here a x _ e1]
    · by_cases e2 : x.1 = b
      · rw [goneL_past a x t e1, goneL_here b x _ e2, goneL_here b x _ e2]
      · rw [goneL_past a x t e1, goneL_past b x t e2, goneL_past a x _ e1, goneL_past b x _ e2, gone_comm a b h t]
theorem putF_mem_iff (r x : Rw) (l : List Rw) : x ∈ putF r l ↔ x = r ∨ x ∈ l := by
  refine ⟨putF_mem, fun h => ?_⟩
  induction l with
  | nil => simpa [putF] using h
  | cons y t ih =>
    show x ∈ (if _ then _ else _)
    split
    · rcases h with rfl | h
      · exact List.mem_cons_self ..
      · exact List.mem_cons_of_mem _ h
    · rcases h with h | h
      · exact List.mem_cons_of_mem _ (ih (Or.inl h))
      · rcases List.mem_cons.mp h with rfl | h
        · exact List.mem_cons_self ..
        · exact List.mem_cons_of_mem _ (ih (Or.inr h))
/- What is found behind a row that came, or went. -/
theorem hits_put (r : Rw) (key : List UInt8) (h : r.1 ≠ key) (l : List Rw) : decide (hits key (putF r l) < (putF r l).length) = decide (hits key l < l.length) := by
  rw [decide_eq_decide]
  constructor
  · intro g
    obtain ⟨x, hx, e⟩ := has_mem g
    rcases putF_mem hx with rfl | hx
    · exact absurd e h
    · exact mem_has hx e
  · intro g
    obtain ⟨x, hx, e⟩ := has_mem g
    exact mem_has ((putF_mem_iff r x l).2 (Or.inr hx)) e
theorem val_put (r : Rw) (key : List UInt8) (h : r.1 ≠ key) : ∀ l : List Rw, hits key l < l.length → ((putF r l).getD (hits key (putF r l)) ([], [])).2 = (l.getD (hits key l) ([], [])).2
  | [], g => by simp at g
  | x :: t, g => by
    show ((if Codec.lt r.1 x.1 = true then r :: x :: t else x :: putF r t).getD (hits key (if Codec.lt r.1 x.1 = true then r :: x :: t else x :: putF r t)) ([], [])).2 = _
    split
    · rw [show hits key (r :: x :: t) = hits key (x :: t) + 1 by conv => lhs; unfold hits; rw [if_neg h]]
      simp
    · by_cases e : x.1 = key
      · rw [show hits key (x :: putF r t) = 0 by unfold hits; rw [if_pos e], show hits key (x :: t) = 0 by unfold hits; rw [if_pos e]]
        simp
      · have e1 : ∀ l', hits key (x :: l') = hits key l' + 1 := fun l' => by conv => lhs; unfold hits; rw [if_neg e]
        rw [e1, e1]
        rw [e1] at g
        simpa using val_put r key h t (by simpa using g)
theorem gone_mem_other {key : List UInt8} {x : Rw} (h : x.1 ≠ key) : ∀ l : List Rw, x ∈ l → x ∈ goneL key l
  | y :: t, hx => by
    by_cases e : y.1 = key
    · rw [goneL_here key y t e]
      rcases List.mem_cons.mp hx with rfl | hx
      · exact absurd e h
      · exact hx
    · rw [goneL_past key y t e]
      rcases List.mem_cons.mp hx with rfl | hx
      · exact List.mem_cons_self ..
      · exact List.mem_cons_of_mem _ (gone_mem_other h t hx)
theorem hits_gone (a key : List UInt8) (h : a ≠ key) (l : List Rw) : decide (hits key (goneL a l) < (goneL a l).length) = decide (hits key l < l.length) := by
  rw [decide_eq_decide]
  constructor
  · intro g
    obtain ⟨x, hx, e⟩ := has_mem g
    exact mem_has (goneL_sub a l x hx) e
  · intro g
    obtain ⟨x, hx, e⟩ := has_mem g
    exact mem_has (gone_mem_other (fun e2 => h (e2.symm.trans e)) l hx) e
theorem val_gone (a key : List UInt8) (h : a ≠ key) : ∀ l : List Rw, hits key l < l.length → ((goneL a l).getD (hits key (goneL a l)) ([], [])).2 = (l.getD (hits key l) ([], [])).2
  | [], g => by simp at g
  | x :: t, g => by
    by_cases e0 : x.1 = a
    · have e : x.1 ≠ key := fun e => h (e0.symm.trans e)
      rw [goneL_here a x t e0, show hits key (x :: t) = hits key t + 1 by conv => lhs; unfold hits; rw [if_neg e]]
      simp
    · rw [goneL_past a x t e0]
      by_cases e : x.1 = key
      · rw [show hits key (x :: goneL a t) = 0 by unfold hits; rw [if_pos e], show hits key (x :: t) = 0 by unfold hits; rw [if_pos e]]
        simp
      · have e1 : ∀ l', hits key (x :: l') = hits key l' + 1 := fun l' => by conv => lhs; unfold hits; rw [if_neg e]
        rw [e1, e1]
        rw [e1] at g
        simpa using val_gone a key h t (by simpa using g)
/- What may be taken. -/
theorem tk_key {s : VS} : ∀ k r, r ∈ tk s k → ∃ j, j < k ∧ r = ⟨1, s.key j, 0⟩
  | 0, r, h => by cases h
  | k + 1, r, h => by
    unfold tk at h
    rcases List.mem_append.mp h with h | h
    · obtain ⟨j, hj, e⟩ := tk_key k r h
      exact ⟨j, by omega, e⟩
    · split at h
      · simp only [List.mem_singleton] at h
        exact ⟨k, by omega, h⟩
      · cases h
theorem key_tk {s : VS} : ∀ k j, j < k → (⟨1, s.key j, 0⟩ : MR) ∈ tk s k
  | 0, j, h => by omega
  | k + 1, j, h => by
    unfold tk
    by_cases e : j < k
    · exact List.mem_append_left _ (key_tk k j e)
    · have e2 : j = k := by omega
      subst e2
      by_cases hc : j = 0 ∨ s.key j ≠ s.key (j - 1)
      · rw [if_pos hc]
        exact List.mem_append_right _ (List.mem_singleton.mpr rfl)
      · have h0 : j ≠ 0 := fun e => hc (Or.inl e)
        have h1 : s.key j = s.key (j - 1) := by
          by_cases e : s.key j = s.key (j - 1)
          · exact e
          · exact absurd (Or.inr e) hc
        rw [h1]
        exact List.mem_append_left _ (key_tk j (j - 1) (by omega))
theorem takes_mem {s : VS} {r : MR} : r ∈ takes s ↔ (s.rows = [] ∧ r = okR false) ∨ ∃ x ∈ s.rows, r = ⟨1, x.1, 0⟩ := by
  unfold takes
  split
  · rename_i h
    have h0 : s.rows = [] := List.eq_nil_of_length_eq_zero h
    constructor
    · intro g
      exact Or.inl ⟨h0, List.mem_singleton.mp g⟩
    · rintro (⟨_, e⟩ | ⟨x, hx, _⟩)
      · exact List.mem_singleton.mpr e
      · rw [h0] at hx; cases hx
  · rename_i h
    constructor
    · intro g
      obtain ⟨j, hj, e⟩ := tk_key _ _ g
      refine Or.inr ⟨s.rows[j], List.getElem_mem hj, ?_⟩
      rw [e]
      simp [VS.key, List.getD, hj]
    · rintro (⟨e, _⟩ | ⟨x, hx, e⟩)
      · rw [e] at h; exact absurd rfl h
      · obtain ⟨j, hj, e2⟩ := List.getElem_of_mem hx
        have := key_tk (s := s) s.rows.length j hj
        rw [show s.key j = x.1 by rw [← e2]; simp [VS.key, List.getD, hj]] at this
        rw [e]
        exact this
end Go.Proofs.YteaiidcconggcaaDoor
/- Steps that the table lets pass are legal in either order, and come to the same. -/
namespace Go.Proofs.YteaiidcconggcaaDoor
open Go.RowKit
set_option linter.unusedVariables false
set_option maxRecDepth 100000

theorem ans_kind {s : VS} {c : MC} {r : MR} (h : r ∈ answers s c) : (mfact c.op).kind = s.kind := by
  unfold answers at h
  split at h
  · cases h
  · rename_i hk
    by_cases e : (mfact c.op).kind = s.kind
    · exact e
    · exact absurd e hk
theorem ops_of {op : Int} (h : okOp op) : ((mfact op).kind = 1 → op = 1 ∨ op = 2) ∧ ((mfact op).kind = 2 → op = 3 ∨ op = 4) ∧ ((mfact op).kind = 3 → op = 5 ∨ op = 6 ∨ op = 7) ∧ ((mfact op).kind = 4 → op = 8 ∨ op = 9 ∨ op = 10) ∧ ((mfact op).kind = 5 → op = 11 ∨ op = 12 ∨ op = 13) ∧ ((mfact op).kind = 6 → op = 14 ∨ op = 15) ∧ ((mfact op).kind = 7 → op = 16 ∨ op = 17) := by
  rcases op_cases h with rfl | rfl | rfl | rfl | rfl | rfl | rfl | rfl | rfl | rfl | rfl | rfl | rfl | rfl | rfl | rfl | rfl <;> decide
theorem kind_some {op : Int} (h : okOp op) : 1 ≤ (mfact op).kind ∧ (mfact op).kind ≤ 7 := by
  rcases op_cases h with rfl | rfl | rfl | rfl | rfl | rfl | rfl | rfl | rfl | rfl | rfl | rfl | rfl | rfl | rfl | rfl | rfl <;> decide
theorem ap_same {s : VS} {c : MC} {r : MR} (h : mchanges c.op c.n r.code = false) : apply2 s c r = s := by
  unfold apply2 applyBy
  rw [if_pos (Or.inr h)]
theorem ans_const {s s' : VS} (hk : s'.kind = s.kind) {c : MC} (h : c.op = 2 ∨ c.op = 3 ∨ c.op = 5 ∨ c.op = 14 ∨ c.op = 16) : answers s' c = answers s c := by
  unfold answers
  rw [hk]
  rcases h with h | h | h | h | h <;> rw [h] <;> rfl
section
variable {s : VS} {a b : List UInt8} {n : Int} {r : MR}
theorem ans1 (hk : s.kind = 1) : answers s ⟨1, a, b, n⟩ = [⟨1, s.key 0, 0⟩] := by unfold answers; rw [if_neg (by rw [hk]; dsimp only; decide)]; rfl
theorem ans4 (hk : s.kind = 2) : answers s ⟨4, a, b, n⟩ = [⟨1, [], s.n⟩] := by unfold answers; rw [if_neg (by rw [hk]; dsimp only; decide)]; rfl
theorem ans6 (hk : s.kind = 3) : answers s ⟨6, a, b, n⟩ = [okR (decide (n ≤ s.n))] := by unfold answers; rw [if_neg (by rw [hk]; dsimp only; decide)]; rfl
theorem ans7 (hk : s.kind = 3) : answers s ⟨7, a, b, n⟩ = [⟨1, [], s.n⟩] := by unfold answers; rw [if_neg (by rw [hk]; dsimp only; decide)]; rfl
theorem ans8 (hk : s.kind = 4) : answers s ⟨8, a, b, n⟩ = [okR (!s.has a)] := by unfold answers; rw [if_neg (by rw [hk]; dsimp only; decide)]; rfl
theorem ans9 (hk : s.kind = 4) : answers s ⟨9, a, b, n⟩ = [okR (s.has a)] := by unfold answers; rw [if_neg (by rw [hk]; dsimp only; decide)]; rfl
theorem ans10 (hk : s.kind = 4) : answers s ⟨10, a, b, n⟩ = [okR (s.has a)] := by unfold answers; rw [if_neg (by rw [hk]; dsimp only; decide)]; rfl
theorem ans11 (hk : s.kind = 5) : answers s ⟨11, a, b, n⟩ = [okR (!s.has a)] := by unfold answers; rw [if_neg (by rw [hk]; dsimp only; decide)]; rfl
theorem ans12 (hk : s.kind = 5) : answers s ⟨12, a, b, n⟩ = [okR (s.has a)] := by unfold answers; rw [if_neg (by rw [hk]; dsimp only; decide)]; rfl
theorem ans13 (hk : s.kind = 5) : answers s ⟨13, a, b, n⟩ = [lookR s a] := by unfold answers; rw [if_neg (by rw [hk]; dsimp only; decide)]; rfl
theorem ans15 (hk : s.kind = 6) : answers s ⟨15, a, b, n⟩ = [frontR s] := by unfold answers; rw [if_neg (by rw [hk]; dsimp only; decide)]; rfl
theorem ans17 (hk : s.kind = 7) : answers s ⟨17, a, b, n⟩ = takes s := by unfold answers; rw [if_neg (by rw [hk]; dsimp only; decide)]; rfl
theorem ansT (hk : s.kind = (mfact r.code).kind) {op : Int} (h : op = 2 ∨ op = 3 ∨ op = 5 ∨ op = 14 ∨ op = 16) (hk2 : (mfact op).kind = s.kind) : answers s ⟨op, a, b, n⟩ = [okR true] := by
  unfold answers
  rw [if_neg (by simp [hk2])]
  rcases h with rfl | rfl | rfl | rfl | rfl <;> rfl
theorem apOp {op : Int} (hk : (mfact op).kind = s.kind) (hc : mchanges op n r.code = true) : apply2 s ⟨op, a, b, n⟩ r =
    if op = 2 then (if a = [] then ⟨s.kind, s.n, []⟩ else VS.rwith ⟨s.kind, s.n, []⟩ (a, []))
    else if op = 3 ∨ op = 5 then ⟨s.kind, wrap64 (s.n + n), s.rows⟩
    else if op = 6 then ⟨s.kind, wrap64 (s.n - n), s.rows⟩
    else if op = 8 ∨ op = 11 ∨ op = 14 ∨ op = 16 then s.rwith (a, b)
    else if op = 9 ∨ op = 12 then s.gone a
    else s.gone r.text := by
  unfold apply2 applyBy
  rw [if_neg (by simp [hk, hc])]
end
theorem may_n {c : MC} (h : c.may) (h5 : c.op = 5 ∨ c.op = 6) : 1 ≤ c.n ∧ c.n ≤ 1048576 := by
  have h0 := h.1
  unfold MC.check at h0
  rw [if_neg (by simpa using MC.may_op h)] at h0
  split at h0
  · cases h0
  split at h0
  · cases h0
  split at h0
  · cases h0
  · rename_i g
    rcases Int.lt_or_le c.n 1 with g1 | g1
    · exact absurd ⟨h5, Or.inl g1⟩ g
    rcases Int.lt_or_le 1048576 c.n with g2 | g2
    · exact absurd ⟨h5, Or.inr g2⟩ g
    exact ⟨g1, g2⟩
theorem may_nob {c : MC} (h : c.may) (hne : c.op ≠ 11) : c.b = [] := by
  have h0 := h.1
  unfold MC.check at h0
  rw [if_neg (by simpa using MC.may_op h)] at h0
  split at h0
  · cases h0
  rename_i g
  cases hb : c.b with
  | nil => rfl
  | cons u t =>
    refine absurd (Or.inr (Or.inl ⟨by rw [hb]; simp, ?_⟩)) g
    unfold hasB
    exact decide_eq_false hne
theorem okR_one {b : Bool} {r : MR} (h : r = okR b) : r.code = 1 ↔ b = true := by
  subst h
  cases b <;> decide
theorem okR_two {b : Bool} {r : MR} (h : r = okR b) : r.code = 2 ↔ b = false := by
  subst h
  cases b <;> decide
theorem ref_false {p : Stp} (h : refM p = false) : ¬ p.2.code = 2 := by unfold refM at h; simpa using h
theorem wasM_8 {s : VS} {p : Stp} {a : List UInt8} (ho : p.1.op = 8 ∨ p.1.op = 11) (h : p.2 = okR (!s.has a)) : wasM p = s.has a := by
  unfold wasM refM
  rw [if_pos ho]
  cases hb : s.has a <;> rw [hb] at h <;> rw [h] <;> decide
theorem wasM_9 {s : VS} {p : Stp} {a : List UInt8} (ho : ¬ (p.1.op = 8 ∨ p.1.op = 11)) (h : p.2 = okR (s.has a)) : wasM p = s.has a := by
  unfold wasM refM
  rw [if_neg ho]
  cases hb : s.has a <;> rw [hb] at h <;> rw [h] <;> decide
theorem wasM_13 {s : VS} {p : Stp} {a : List UInt8} (ho : ¬ (p.1.op = 8 ∨ p.1.op = 11)) (h : p.2 = lookR s a) : wasM p = s.has a := by
  unfold wasM refM
  rw [if_neg ho]
  unfold lookR at h
  cases hb : s.has a <;> rw [hb] at h <;> rw [h] <;> simp [okR]
/- Of a set, of a directory: was it there. -/
theorem was_is {s : VS} {p : Stp} (hop : okOp p.1.op) (hk : s.kind = 4 ∨ s.kind = 5) (h : p.2 ∈ answers s p.1) : wasM p = s.has p.1.a := by
  have hkk := ans_kind h
  obtain ⟨⟨op, a, b, n⟩, r⟩ := p
  obtain ⟨_, _, _, o4, o5, _, _⟩ := ops_of hop
  dsimp only at *
  rcases hk with hk | hk
  · rcases o4 (by omega) with rfl | rfl | rfl
    · rw [ans8 hk] at h; exact wasM_8 (Or.inl rfl) (List.mem_singleton.mp h)
    · rw [ans9 hk] at h; exact wasM_9 (by simp) (List.mem_singleton.mp h)
    · rw [ans10 hk] at h; exact wasM_9 (by simp) (List.mem_singleton.mp h)
  · rcases o5 (by omega) with rfl | rfl | rfl
    · rw [ans11 hk] at h; exact wasM_8 (Or.inr rfl) (List.mem_singleton.mp h)
    · rw [ans12 hk] at h; exact wasM_9 (by simp) (List.mem_singleton.mp h)
    · rw [ans13 hk] at h; exact wasM_13 (by simp) (List.mem_singleton.mp h)
/- Two that meet in a set and don't upset each other: they are about unlike keys. -/
theorem keys_apart {s : VS} {x y : Stp} (hx : okOp x.1.op) (hy : okOp y.1.op) (hk : s.kind = 4 ∨ s.kind = 5) (lx : x.2 ∈ answers s x.1) (ly : y.2 ∈ answers s y.1) (hc : mchanges x.1.op x.1.n x.2.code = true) (hu : upsM x y = false) : x.1.a ≠ y.1.a := by
  intro e
  have w1 := was_is hx hk lx
  have w2 := was_is hy hk ly
  have hkk := ans_kind lx
  have ho : x.1.op = 8 ∨ x.1.op = 9 ∨ x.1.op = 11 ∨ x.1.op = 12 := by
    obtain ⟨_, _, _, o4, o5, _, _⟩ := ops_of hx
    rcases hk with hk | hk
    · rcases o4 (by omega) with h | h | h
      · omega
      · omega
      · rw [h] at hc; simp [mchanges] at hc
    · rcases o5 (by omega) with h | h | h
      · omega
      · omega
      · rw [h] at hc; simp [mchanges] at hc
  unfold upsM at hu
  rw [if_neg (by rw [hc]; simp), if_neg (by omega), if_neg (by omega), if_neg (by omega), if_neg (by omega), if_pos ho, w1, w2, e] at hu
  simp at hu
theorem rwith_has {s : VS} (hk : s.kind = 4 ∨ s.kind = 5) {r : Rw} {key : List UInt8} (h : r.1 ≠ key) : (s.rwith r).has key = s.has key := by
  have e : (s.rwith r).rows = putF r s.rows := by
    show putG _ _ _ = _
    unfold putG
    rw [if_neg (by omega)]
  unfold VS.has
  rw [e]
  exact hits_put r key h s.rows
theorem rwith_look {s : VS} (hk : s.kind = 4 ∨ s.kind = 5) {r : Rw} {key : List UInt8} (h : r.1 ≠ key) : lookR (s.rwith r) key = lookR s key := by
  have e : (s.rwith r).rows = putF r s.rows := by
    show putG _ _ _ = _
    unfold putG
    rw [if_neg (by omega)]
  unfold lookR
  rw [rwith_has hk h]
  split
  · rename_i g
    unfold VS.has at g
    unfold VS.val
    rw [e, val_put r key h s.rows (by simpa using g)]
  · rfl
theorem gone_rows (s : VS) (key : List UInt8) : (s.gone key).rows = goneL key s.rows := rfl
theorem gone_has {s : VS} {a key : List UInt8} (h : a ≠ key) : (s.gone a).has key = s.has key := by
  unfold VS.has
  rw [gone_rows]
  exact hits_gone a key h s.rows
theorem gone_look {s : VS} {a key : List UInt8} (h : a ≠ key) : lookR (s.gone a) key = lookR s key := by
  unfold lookR
  rw [gone_has h]
  split
  · rename_i g
    unfold VS.has at g
    unfold VS.val
    rw [gone_rows, val_gone a key h s.rows (by simpa using g)]
  · rfl
theorem ans_keyed {s s' : VS} (hk : s.kind = 4 ∨ s.kind = 5) (hk' : s'.kind = s.kind) {c : MC} (hop : okOp c.op) (h1 : s'.has c.a = s.has c.a) (h2 : lookR s' c.a = lookR s c.a) : answers s' c = answers s c := by
  unfold answers
  rw [hk', h1, h2]
  by_cases e : (mfact c.op).kind = s.kind
  · have hne : ¬ ((mfact c.op).kind ≠ s.kind) := fun h => h e
    rw [if_neg hne, if_neg hne]
    obtain ⟨_, _, _, o4, o5, _, _⟩ := ops_of hop
    rcases hk with hk | hk
    · rcases o4 (by omega) with h | h | h <;> rw [h] <;> rfl
    · rcases o5 (by omega) with h | h | h <;> rw [h] <;> rfl
  · rw [if_pos e, if_pos e]
/- One of two that don't upset each other leaves the other legal. -/
theorem half {s : VS} (hf : s.fit) (hm : s.kind = 3 → 0 ≤ s.n ∧ s.n ≤ 1152921504606846976) {x y : Stp} (hx : x.1.may) (hy : y.1.may) (lx : x.2 ∈ answers s x.1) (ly : y.2 ∈ answers s y.1) (hu : upsM x y = false) : y.2 ∈ answers (apply2 s x.1 x.2) y.1 := by
  have hox := MC.may_op hx
  have hoy := MC.may_op hy
  have kx := ans_kind lx
  have ky := ans_kind ly
  by_cases hc : mchanges x.1.op x.1.n x.2.code = false
  · rw [ap_same hc]; exact ly
  have hc1 : mchanges x.1.op x.1.n x.2.code = true := by simpa using hc
  by_cases hcy : y.1.op = 2 ∨ y.1.op = 3 ∨ y.1.op = 5 ∨ y.1.op = 14 ∨ y.1.op = 16
  · rw [ans_const (apply_kind _ _ _) hcy]; exact ly
  have hks := kind_some hox
  obtain ⟨x1, x2, x3, x4, x5, x6, x7⟩ := ops_of hox
  obtain ⟨y1, y2, y3, y4, y5, y6, y7⟩ := ops_of hoy
  rw [kx] at x1 x2 x3 x4 x5 x6 x7 hks
  rw [ky] at y1 y2 y3 y4 y5 y6 y7
  by_cases hk45 : s.kind = 4 ∨ s.kind = 5
  · have hne := keys_apart hox hoy hk45 lx ly hc1 hu
    have key : answers (apply2 s x.1 x.2) y.1 = answers s y.1 := by
      have ho : x.1.op = 8 ∨ x.1.op = 11 ∨ x.1.op = 9 ∨ x.1.op = 12 := by
        rcases hk45 with hk | hk
        · rcases x4 hk with h | h | h
          · omega
          · omega
          · rw [h] at hc1; simp [mchanges] at hc1
        · rcases x5 hk with h | h | h
          · omega
          · omega
          · rw [h] at hc1; simp [mchanges] at hc1
      obtain ⟨⟨op, a, b, n⟩, r⟩ := x
      dsimp only at *
      refine ans_keyed hk45 (apply_kind _ _ _) hoy ?_ ?_
      · rw [apOp kx hc1]
        rcases ho with rfl | rfl | rfl | rfl
        · exact rwith_has hk45 hne
        · exact rwith_has hk45 hne
        · exact gone_has hne
        · exact gone_has hne
      · rw [apOp kx hc1]
        rcases ho with rfl | rfl | rfl | rfl
        · exact rwith_look hk45 hne
        · exact rwith_look hk45 hne
        · exact gone_look hne
        · exact gone_look hne
    rw [key]
    exact ly
  have hkc : s.kind = 1 ∨ s.kind = 2 ∨ s.kind = 3 ∨ s.kind = 6 ∨ s.kind = 7 := by omega
  have nx := fun h => may_n hx h
  have ny := fun h => may_n hy h
  obtain ⟨⟨op, a, b, n⟩, r⟩ := x
  obtain ⟨⟨op', a', b', n'⟩, r'⟩ := y
  have hk2 := apply_kind s ⟨op, a, b, n⟩ r
  dsimp only at *
  unfold upsM at hu
  rw [if_neg (by dsimp only; rw [hc1]; simp)] at hu
  dsimp only at hu
  rcases hkc with hk | hk | hk | hk | hk
  · rcases x1 hk with rfl | rfl
    · simp [mchanges] at hc1
    rcases y1 hk with rfl | rfl
    rotate_left
    · exact absurd (Or.inl rfl) hcy
    rw [ans1 hk] at ly
    rw [ans1 (hk2.trans hk)]
    have e := List.mem_singleton.mp ly
    rw [if_pos rfl] at hu
    unfold textM at hu
    dsimp only at hu
    rw [if_neg (by decide)] at hu
    have ha : r'.text = a := by simpa using hu
    refine List.mem_singleton.mpr ?_
    rw [e]
    have e2 : s.key 0 = a := by rw [← ha, e]
    rw [apOp (op := 2) (by rw [hk]; decide) rfl, if_pos rfl, e2]
    split
    · rename_i h0
      subst h0
      rfl
    · show _ = (⟨1, (List.getD (putG s.kind (a, []) []) 0 ([], [])).1, 0⟩ : MR)
      unfold putG
      rw [if_neg (by omega)]
      rfl
  · rcases x2 hk with rfl | rfl
    rotate_left
    · simp [mchanges] at hc1
    rcases y2 hk with rfl | rfl
    · exact absurd (Or.inr (Or.inl rfl)) hcy
    · rw [if_neg (by decide), if_pos rfl] at hu
      simp at hu
  · obtain ⟨m1, m2⟩ := hm hk
    rcases x3 hk with rfl | rfl | rfl
    · rw [if_neg (by decide), if_neg (by decide), if_pos rfl] at hu
      have hn := nx (Or.inl rfl)
      rcases y3 hk with rfl | rfl | rfl
      · exact absurd (Or.inr (Or.inr (Or.inl rfl))) hcy
      · rw [ans6 hk] at ly
        rw [ans6 (hk2.trans hk)]
        have e := List.mem_singleton.mp ly
        have h2 : ¬ r'.code = 2 := ref_false (p := (⟨6, a', b', n'⟩, r')) (by simpa using hu)
        have h1 : decide (n' ≤ s.n) = true := by
          cases g : decide (n' ≤ s.n) with
          | true => rfl
          | false => exact absurd ((okR_two e).2 g) h2
        rw [h1] at e
        have h3 : n' ≤ s.n := by simpa using h1
        rw [apOp (op := 5) (by rw [hk]; decide) rfl, if_neg (by decide), if_pos (by decide)]
        dsimp only
        rw [show decide (n' ≤ wrap64 (s.n + n)) = true by unfold wrap64; simp; omega]
        exact List.mem_singleton.mpr e
      · simp at hu
    · have hn := nx (Or.inr rfl)
      have hr1 : r.code = 1 := by simpa [mchanges] using hc1
      rw [ans6 hk] at lx
      have hle : n ≤ s.n := by simpa using (okR_one (List.mem_singleton.mp lx)).1 hr1
      rw [if_neg (by decide), if_neg (by decide), if_neg (by decide), if_pos rfl] at hu
      unfold spendM at hu
      dsimp only at hu
      rcases y3 hk with rfl | rfl | rfl
      · exact absurd (Or.inr (Or.inr (Or.inl rfl))) hcy
      · rw [ans6 hk] at ly
        rw [ans6 (hk2.trans hk)]
        have e := List.mem_singleton.mp ly
        rw [if_neg (by decide), if_pos rfl] at hu
        have h2 : r'.code = 2 := by unfold refM at hu; simpa using hu
        have h1 := (okR_two e).1 h2
        rw [h1] at e
        have h3 : ¬ n' ≤ s.n := by simpa using h1
        rw [apOp (op := 6) (by rw [hk]; decide) hc1, if_neg (by decide), if_neg (by decide), if_pos rfl]
        dsimp only
        rw [show decide (n' ≤ wrap64 (s.n - n)) = false by unfold wrap64; simp; omega]
        exact List.mem_singleton.mpr e
      · rw [ans7 hk] at ly
        have e := List.mem_singleton.mp ly
        rw [if_pos rfl, e] at hu
        simp at hu
        omega
    · simp [mchanges] at hc1
  · rcases y6 hk with rfl | rfl
    · exact absurd (Or.inr (Or.inr (Or.inr (Or.inl rfl)))) hcy
    rw [ans15 hk] at ly
    rw [ans15 (hk2.trans hk)]
    have e := List.mem_singleton.mp ly
    rcases x6 hk with rfl | rfl
    · rw [if_neg (by decide), if_neg (by decide), if_neg (by decide), if_neg (by decide), if_neg (by decide), if_pos rfl] at hu
      have h2 : ¬ r'.code = 2 := ref_false (p := (⟨15, a', b', n'⟩, r')) (by simpa using hu)
      have hne : ¬ s.rows.length = 0 := fun h0 => by
        unfold frontR at e
        rw [if_pos h0] at e
        exact h2 ((okR_two e).2 rfl)
      rw [apOp (op := 14) (by rw [hk]; decide) rfl, if_neg (by decide), if_neg (by decide), if_neg (by decide), if_pos (by decide)]
      refine List.mem_singleton.mpr ?_
      rw [e]
      have er : (s.rwith (a, b)).rows = s.rows ++ [(a, b)] := by
        show putG _ _ _ = _
        unfold putG
        rw [if_pos hk]
      unfold frontR VS.key
      rw [if_neg hne, er, if_neg (by simp)]
      obtain ⟨u, t, hut⟩ : ∃ u t, s.rows = u :: t := by
        cases hs : s.rows with
        | nil => rw [hs] at hne; exact absurd rfl hne
        | cons u t => exact ⟨u, t, rfl⟩
      rw [hut]
      rfl
    · rw [ans15 hk] at lx
      have e1 := List.mem_singleton.mp lx
      rw [if_neg (by decide), if_neg (by decide), if_neg (by decide), if_neg (by decide), if_neg (by decide), if_neg (by decide), if_neg (by decide), e, e1] at hu
      simp at hu
  · rcases y7 hk with rfl | rfl
    · exact absurd (Or.inr (Or.inr (Or.inr (Or.inr rfl)))) hcy
    rw [ans17 hk] at ly
    rw [ans17 (hk2.trans hk)]
    rcases x7 hk with rfl | rfl
    · rw [if_neg (by decide), if_neg (by decide), if_neg (by decide), if_neg (by decide), if_neg (by decide), if_neg (by decide), if_pos rfl] at hu
      have h2 : ¬ r'.code = 2 := ref_false (p := (⟨17, a', b', n'⟩, r')) (by simpa using hu)
      rcases takes_mem.1 ly with ⟨_, e⟩ | ⟨z, hz, e⟩
      · exact absurd ((okR_two e).2 rfl) h2
      · refine takes_mem.2 (Or.inr ⟨z, ?_, e⟩)
        rw [apOp (op := 16) (by rw [hk]; decide) rfl, if_neg (by decide), if_neg (by decide), if_neg (by decide), if_pos (by decide)]
        show z ∈ putG _ _ _
        unfold putG
        rw [if_neg (by omega)]
        exact (putF_mem_iff _ _ _).2 (Or.inr hz)
    · rw [if_neg (by decide), if_neg (by decide), if_neg (by decide), if_neg (by decide), if_neg (by decide), if_neg (by decide), if_neg (by decide)] at hu
      have hr1 : r.code = 1 := by simpa [mchanges] using hc1
      have hne : r' ≠ r := by simpa using hu
      rw [ans17 hk] at lx
      rcases takes_mem.1 lx with ⟨_, e⟩ | ⟨u, hu2, e⟩
      · exact absurd ((okR_one e).1 hr1) (by decide)
      rcases takes_mem.1 ly with ⟨h0, _⟩ | ⟨z, hz, e'⟩
      · rw [h0] at hu2; cases hu2
      have hk3 : z.1 ≠ r.text := fun h => hne (by rw [e', e]; rw [e] at h; rw [h])
      refine takes_mem.2 (Or.inr ⟨z, ?_, e'⟩)
      rw [apOp (op := 17) (by rw [hk]; decide) hc1, if_neg (by decide), if_neg (by decide), if_neg (by decide), if_neg (by decide), if_neg (by decide)]
      rw [gone_rows]
      exact gone_mem_other hk3 _ hz
theorem vs_same {s t : VS} (h1 : s.kind = t.kind) (h2 : s.n = t.n) (h3 : s.rows = t.rows) : s = t := by
  cases s
  cases t
  simp_all
theorem putG_rows (s : VS) (r : Rw) (h : s.kind ≠ 6) : (s.rwith r).rows = putF r s.rows := by
  show putG _ _ _ = _
  unfold putG
  rw [if_neg h]
theorem wrap_add (x y z : Int) : wrap64 (wrap64 (x + y) + z) = wrap64 (wrap64 (x + z) + y) := by unfold wrap64; omega
theorem wrap_sub (x y z : Int) : wrap64 (wrap64 (x - y) - z) = wrap64 (wrap64 (x - z) - y) := by unfold wrap64; omega
theorem wrap_mix (x y z : Int) : wrap64 (wrap64 (x + y) - z) = wrap64 (wrap64 (x - z) + y) := by unfold wrap64; omega
theorem with_with {s : VS} (hk : s.kind ≠ 6) {r q : Rw} (h : r.1 ≠ q.1 ∨ r = q) : (s.rwith r).rwith q = (s.rwith q).rwith r := by
  refine vs_same rfl rfl ?_
  rw [putG_rows (s.rwith r) q hk, putG_rows s r hk, putG_rows (s.rwith q) r hk, putG_rows s q hk]
  exact (putF_comm r q h s.rows).symm
theorem with_gone {s : VS} (hk : s.kind ≠ 6) (hs : Stand s.rows) {r : Rw} {key : List UInt8} (h : r.1 ≠ key ∨ ∃ x ∈ s.rows, x.1 = key) : (s.rwith r).gone key = (s.gone key).rwith r := by
  refine vs_same rfl rfl ?_
  rw [gone_rows, putG_rows s r hk, putG_rows (s.gone key) r hk, gone_rows]
  exact gone_put r key (Or.inr trivial) s.rows hs h
theorem gone_gone (s : VS) {a b : List UInt8} (h : a ≠ b) : (s.gone a).gone b = (s.gone b).gone a := by
  refine vs_same rfl rfl ?_
  rw [gone_rows, gone_rows, gone_rows, gone_rows]
  exact gone_comm b a (Ne.symm h) s.rows
/- Both change the state: the order doesn't matter to what they come to. -/
theorem both {s : VS} (hf : s.fit) {x y : Stp} (hx : x.1.may) (hy : y.1.may) (lx : x.2 ∈ answers s x.1) (ly : y.2 ∈ answers s y.1) (hu : upsM x y = false) (hv : upsM y x = false) : apply2 (apply2 s x.1 x.2) y.1 y.2 = apply2 (apply2 s y.1 y.2) x.1 x.2 := by
  have hox := MC.may_op hx
  have hoy := MC.may_op hy
  have kx := ans_kind lx
  have ky := ans_kind ly
  by_cases hc : mchanges x.1.op x.1.n x.2.code = false
  · rw [ap_same hc, ap_same hc]
  have hc1 : mchanges x.1.op x.1.n x.2.code = true := by simpa using hc
  by_cases hd : mchanges y.1.op y.1.n y.2.code = false
  · rw [ap_same hd, ap_same hd]
  have hd1 : mchanges y.1.op y.1.n y.2.code = true := by simpa using hd
  have hks := kind_some hox
  obtain ⟨x1, x2, x3, x4, x5, x6, x7⟩ := ops_of hox
  obtain ⟨y1, y2, y3, y4, y5, y6, y7⟩ := ops_of hoy
  rw [kx] at x1 x2 x3 x4 x5 x6 x7 hks
  rw [ky] at y1 y2 y3 y4 y5 y6 y7
  have hkc : s.kind = 1 ∨ s.kind = 2 ∨ s.kind = 3 ∨ s.kind = 4 ∨ s.kind = 5 ∨ s.kind = 6 ∨ s.kind = 7 := by omega
  have hbx := may_nob hx
  have hby := may_nob hy
  have hne45 := fun h => keys_apart hox hoy h lx ly hc1 hu
  obtain ⟨⟨op, a, b, n⟩, r⟩ := x
  obtain ⟨⟨op', a', b', n'⟩, r'⟩ := y
  have k2 := apply_kind s ⟨op, a, b, n⟩ r
  have k3 := apply_kind s ⟨op', a', b', n'⟩ r'
  dsimp only at *
  rw [apOp (s := apply2 s ⟨op, a, b, n⟩ r) (op := op') (by rw [k2]; exact ky) hd1, apOp (s := apply2 s ⟨op', a', b', n'⟩ r') (op := op) (by rw [k3]; exact kx) hc1, apOp (op := op) kx hc1, apOp (op := op') ky hd1]
  clear k2 k3 hc hd
  unfold upsM at hu hv
  dsimp only at hu hv
  rw [if_neg (by rw [hc1]; simp)] at hu
  rw [if_neg (by rw [hd1]; simp)] at hv
  rcases hkc with hk | hk | hk | hk | hk | hk | hk
  · rcases x1 hk with rfl | rfl
    · simp [mchanges] at hc1
    rcases y1 hk with rfl | rfl
    · simp [mchanges] at hd1
    rw [if_pos rfl] at hu
    unfold textM at hu
    dsimp only at hu
    rw [if_pos rfl] at hu
    have ha : a' = a := by simpa using hu
    subst ha
    by_cases h0 : a' = []
    · simp only [if_pos h0]; rfl
    · simp only [if_neg h0]; rfl
  · rcases x2 hk with rfl | rfl
    · rcases y2 hk with rfl | rfl
      · exact vs_same rfl (wrap_add s.n n n') rfl
      · simp [mchanges] at hd1
    · simp [mchanges] at hc1
  · rcases x3 hk with rfl | rfl | rfl
    · rcases y3 hk with rfl | rfl | rfl
      · exact vs_same rfl (wrap_add s.n n n') rfl
      · exact vs_same rfl (wrap_mix s.n n n') rfl
      · simp [mchanges] at hd1
    · rcases y3 hk with rfl | rfl | rfl
      · exact vs_same rfl (wrap_mix s.n n' n).symm rfl
      · exact vs_same rfl (wrap_sub s.n n n') rfl
      · simp [mchanges] at hd1
    · simp [mchanges] at hc1
  · have hne := hne45 (Or.inl hk)
    have hst := hf.stand.resolve_left (by omega)
    rcases x4 hk with rfl | rfl | rfl
    · rcases y4 hk with rfl | rfl | rfl
      · exact with_with (by omega) (Or.inl hne)
      · exact with_gone (by omega) hst (Or.inl hne)
      · simp [mchanges] at hd1
    · rcases y4 hk with rfl | rfl | rfl
      · exact (with_gone (by omega) hst (Or.inl (Ne.symm hne))).symm
      · exact gone_gone s hne
      · simp [mchanges] at hd1
    · simp [mchanges] at hc1
  · have hne := hne45 (Or.inr hk)
    have hst := hf.stand.resolve_left (by omega)
    rcases x5 hk with rfl | rfl | rfl
    · rcases y5 hk with rfl | rfl | rfl
      · exact with_with (by omega) (Or.inl hne)
      · exact with_gone (by omega) hst (Or.inl hne)
      · simp [mchanges] at hd1
    · rcases y5 hk with rfl | rfl | rfl
      · exact (with_gone (by omega) hst (Or.inl (Ne.symm hne))).symm
      · exact gone_gone s hne
      · simp [mchanges] at hd1
    · simp [mchanges] at hc1
  · rcases x6 hk with rfl | rfl
    · rcases y6 hk with rfl | rfl
      · have hb1 := hbx (by decide)
        have hb2 := hby (by decide)
        rw [if_neg (by decide), if_neg (by decide), if_neg (by decide), if_neg (by decide), if_neg (by decide), if_pos rfl] at hu
        have ha : a' = a := by simpa using hu
        subst ha
        rw [hb1, hb2]
        rfl
      · rw [ans15 hk] at ly
        have e := List.mem_singleton.mp ly
        have hr1 : r'.code = 1 := by simpa [mchanges] using hd1
        obtain ⟨u, t, hut⟩ : ∃ u t, s.rows = u :: t := by
          cases hs : s.rows with
          | nil =>
            unfold frontR at e
            rw [hs, if_pos (show ([] : List Rw).length = 0 from rfl)] at e
            exact absurd ((okR_one e).1 hr1) (by decide)
          | cons u t => exact ⟨u, t, rfl⟩
        have et : r'.text = u.1 := by
          unfold frontR VS.key at e
          rw [hut, if_neg (by simp)] at e
          rw [e]; rfl
        refine vs_same rfl rfl ?_
        show goneL r'.text (putG s.kind (a, b) s.rows) = putG s.kind (a, b) (goneL r'.text s.rows)
        unfold putG
        simp only [if_pos hk]
        rw [hut, et]
        show goneL u.1 (u :: (t ++ [(a, b)])) = goneL u.1 (u :: t) ++ [(a, b)]
        rw [goneL_here u.1 u _ rfl, goneL_here u.1 u _ rfl]
    · rcases y6 hk with rfl | rfl
      · rw [ans15 hk] at lx
        have e := List.mem_singleton.mp lx
        have hr1 : r.code = 1 := by simpa [mchanges] using hc1
        obtain ⟨u, t, hut⟩ : ∃ u t, s.rows = u :: t := by
          cases hs : s.rows with
          | nil =>
            unfold frontR at e
            rw [hs, if_pos (show ([] : List Rw).length = 0 from rfl)] at e
            exact absurd ((okR_one e).1 hr1) (by decide)
          | cons u t => exact ⟨u, t, rfl⟩
        have et : r.text = u.1 := by
          unfold frontR VS.key at e
          rw [hut, if_neg (by simp)] at e
          rw [e]; rfl
        refine vs_same rfl rfl ?_
        show putG s.kind (a', b') (goneL r.text s.rows) = goneL r.text (putG s.kind (a', b') s.rows)
        unfold putG
        simp only [if_pos hk]
        rw [hut, et]
        show goneL u.1 (u :: t) ++ [(a', b')] = goneL u.1 (u :: (t ++ [(a', b')]))
        rw [goneL_here u.1 u _ rfl, goneL_here u.1 u _ rfl]
      · rw [ans15 hk] at lx ly
        have e1 := List.mem_singleton.mp lx
        have e2 := List.mem_singleton.mp ly
        rw [e1, e2]
        rfl
  · have hst := hf.stand.resolve_left (by omega)
    rcases x7 hk with rfl | rfl
    · rcases y7 hk with rfl | rfl
      · have hb1 := hbx (by decide)
        have hb2 := hby (by decide)
        refine with_with (by omega) ?_
        by_cases ha : a = a'
        · exact Or.inr (by rw [ha, hb1, hb2])
        · exact Or.inl ha
      · have hr1 : r'.code = 1 := by simpa [mchanges] using hd1
        rw [ans17 hk] at ly
        rcases takes_mem.1 ly with ⟨_, e⟩ | ⟨z, hz, e⟩
        · exact absurd ((okR_one e).1 hr1) (by decide)
        · exact with_gone (by omega) hst (Or.inr ⟨z, hz, by rw [e]⟩)
    · rcases y7 hk with rfl | rfl
      · have hr1 : r.code = 1 := by simpa [mchanges] using hc1
        rw [ans17 hk] at lx
        rcases takes_mem.1 lx with ⟨_, e⟩ | ⟨z, hz, e⟩
        · exact absurd ((okR_one e).1 hr1) (by decide)
        · exact (with_gone (by omega) hst (Or.inr ⟨z, hz, by rw [e]⟩)).symm
      · rw [if_neg (by decide), if_neg (by decide), if_neg (by decide), if_neg (by decide), if_neg (by decide), if_neg (by decide), if_neg (by decide)] at hu
        have hne : r' ≠ r := by simpa using hu
        have hr1 : r.code = 1 := by simpa [mchanges] using hc1
        have hr2 : r'.code = 1 := by simpa [mchanges] using hd1
        rw [ans17 hk] at lx ly
        rcases takes_mem.1 lx with ⟨_, e⟩ | ⟨u, _, e⟩
        · exact absurd ((okR_one e).1 hr1) (by decide)
        rcases takes_mem.1 ly with ⟨_, e2⟩ | ⟨z, _, e2⟩
        · exact absurd ((okR_one e2).1 hr2) (by decide)
        refine gone_gone s fun h => hne ?_
        rw [e, e2] at h ⊢
        dsimp only at h
        rw [h]
/- What is legal in some state is possible. -/
theorem pos_legal {s : VS} (hm : s.kind = 3 → 0 ≤ s.n) {x : Stp} (hox : okOp x.1.op) (lx : x.2 ∈ answers s x.1) : posM x = true := by
  have kx := ans_kind lx
  have hks := kind_some hox
  obtain ⟨x1, x2, x3, x4, x5, x6, x7⟩ := ops_of hox
  rw [kx] at x1 x2 x3 x4 x5 x6 x7 hks
  have hkc : s.kind = 1 ∨ s.kind = 2 ∨ s.kind = 3 ∨ s.kind = 4 ∨ s.kind = 5 ∨ s.kind = 6 ∨ s.kind = 7 := by omega
  have okb : ∀ b : Bool, okR b = ⟨1, [], 0⟩ ∨ okR b = ⟨2, [], 0⟩ := fun b => by cases b <;> simp [okR]
  obtain ⟨⟨op, a, b, n⟩, r⟩ := x
  unfold posM
  dsimp only at *
  have hT : ∀ {o : Int}, (o = 2 ∨ o = 3 ∨ o = 5 ∨ o = 14 ∨ o = 16) → (mfact o).kind = s.kind → r ∈ answers s ⟨o, a, b, n⟩ → r = ⟨1, [], 0⟩ := fun {o} ho hk2 h => by
    unfold answers at h
    dsimp only at h
    rw [if_neg (by simp [hk2])] at h
    rcases ho with rfl | rfl | rfl | rfl | rfl <;> exact List.mem_singleton.mp h
  rcases hkc with hk | hk | hk | hk | hk | hk | hk
  · rcases x1 hk with rfl | rfl
    · rw [ans1 hk] at lx
      rw [List.mem_singleton.mp lx]; simp
    · rw [hT (Or.inl rfl) kx lx]; simp
  · rcases x2 hk with rfl | rfl
    · rw [hT (by simp) kx lx]; simp
    · rw [ans4 hk] at lx
      rw [List.mem_singleton.mp lx]; simp
  · rcases x3 hk with rfl | rfl | rfl
    · rw [hT (by simp) kx lx]; simp
    · rw [ans6 hk] at lx
      rw [List.mem_singleton.mp lx]
      rcases okb (decide (n ≤ s.n)) with e | e <;> rw [e] <;> simp
    · rw [ans7 hk] at lx
      rw [List.mem_singleton.mp lx]
      simp [hm hk]
  · rcases x4 hk with rfl | rfl | rfl
    · rw [ans8 hk] at lx
      rw [List.mem_singleton.mp lx]
      rcases okb (!s.has a) with e | e <;> rw [e] <;> simp
    · rw [ans9 hk] at lx
      rw [List.mem_singleton.mp lx]
      rcases okb (s.has a) with e | e <;> rw [e] <;> simp
    · rw [ans10 hk] at lx
      rw [List.mem_singleton.mp lx]
      rcases okb (s.has a) with e | e <;> rw [e] <;> simp
  · rcases x5 hk with rfl | rfl | rfl
    · rw [ans11 hk] at lx
      rw [List.mem_singleton.mp lx]
      rcases okb (!s.has a) with e | e <;> rw [e] <;> simp
    · rw [ans12 hk] at lx
      rw [List.mem_singleton.mp lx]
      rcases okb (s.has a) with e | e <;> rw [e] <;> simp
    · rw [ans13 hk] at lx
      have e := List.mem_singleton.mp lx
      unfold lookR at e
      split at e <;> (rw [e]; simp [okR])
  · rcases x6 hk with rfl | rfl
    · rw [hT (by simp) kx lx]; simp
    · rw [ans15 hk] at lx
      have e := List.mem_singleton.mp lx
      unfold frontR at e
      split at e <;> (rw [e]; simp [okR])
  · rcases x7 hk with rfl | rfl
    · rw [hT (by simp) kx lx]; simp
    · rw [ans17 hk] at lx
      rcases takes_mem.1 lx with ⟨_, e⟩ | ⟨z, _, e⟩
      · rw [e]; simp [okR]
      · rw [e]; simp
theorem legal_mem {s : VS} {c : MC} {r : MR} : legal s c r = true ↔ r ∈ answers s c := by unfold legal; exact decide_eq_true_iff
/- Of steps that don't conflict the order doesn't matter. -/
theorem comm_ok {s : VS} (hf : s.fit) (hm : s.kind = 3 → 0 ≤ s.n ∧ s.n ≤ 1152921504606846976) {x y : Stp} (hx : x.1.may) (hy : y.1.may) (h : conM x y = false) : comM s x y = true := by
  unfold comM
  split
  · rename_i hl
    have lx := legal_mem.1 hl.1
    have ly := legal_mem.1 hl.2
    have p1 := pos_legal (fun e => (hm e).1) (MC.may_op hx) lx
    have p2 := pos_legal (fun e => (hm e).1) (MC.may_op hy) ly
    have hkk : kd x = kd y := (ans_kind lx).trans (ans_kind ly).symm
    unfold conM at h
    rw [p1, p2, decide_eq_true hkk] at h
    have hu : upsM x y = false := by cases g : upsM x y <;> simp [g] at h ⊢
    have hv : upsM y x = false := by cases g : upsM y x <;> simp [g] at h ⊢
    rw [legal_mem.2 (half hf hm hx hy lx ly hu), legal_mem.2 (half hf hm hy hx ly lx hv), both hf hx hy lx ly hu hv]
    simp [VS.alike]
  · rfl
end Go.Proofs.YteaiidcconggcaaDoor
/- A state that shows that two steps conflict, among those in which they may meet; and one in which a call is answered so. -/
namespace Go.Proofs.YteaiidcconggcaaDoor
open Go.RowKit
set_option linter.unusedVariables false
set_option maxRecDepth 100000

/- A step as the law draws it: a call that may be, an answer that is possible. -/
structure Gv (p : Stp) : Prop where
  may : p.1.may
  pos : posM p = true
  len : p.2.text.length ≤ 24
  bal : p.1.op = 7 → p.2.n ≤ 1125899906842624
  i64 : I64 p.2.n
/- The states in which two steps may meet: what holds of all of them, and which ones are there. -/
structure Sts (k : Int) (p q : Stp) (L : List VS) : Prop where
  kind : ∀ s ∈ L, s.kind = k
  fit : ∀ s ∈ L, s.fit
  num3 : ∀ s ∈ L, k = 3 → 0 ≤ s.n ∧ s.n ≤ 1125899906842624
  few : ∀ s ∈ L, s.rows.length ≤ 2
  bare : k ≠ 2 → k ≠ 3 → (⟨k, 0, []⟩ : VS) ∈ L
  text : k = 1 → ∀ t, t = p.1.a ∨ t = q.1.a ∨ t = p.2.text ∨ t = q.2.text → t ≠ [] → (⟨k, 0, [(t, [])]⟩ : VS) ∈ L
  nums : k = 2 ∨ k = 3 → ∀ n, n = 0 ∨ n = p.1.n ∨ n = q.1.n ∨ n = wrap64 (p.1.n - 1) ∨ n = wrap64 (q.1.n - 1) ∨ n = p.2.n ∨ n = q.2.n → k = 2 ∨ 0 ≤ n ∧ n ≤ 1125899906842624 → (⟨k, n, []⟩ : VS) ∈ L
  key : k = 4 ∨ k = 6 ∨ k = 7 → ∀ t, t = p.1.a ∨ t = q.1.a ∨ t = p.2.text ∨ t = q.2.text → (⟨k, 0, [(t, [])]⟩ : VS) ∈ L
  dir : k = 5 → ∀ t, t = p.1.a ∨ t = q.1.a → ∀ v, v = [] ∨ v = p.2.text ∨ v = q.2.text → (⟨k, 0, [(t, v)]⟩ : VS) ∈ L
theorem Sts.symm {k : Int} {p q : Stp} {L : List VS} (h : Sts k p q L) : Sts k q p L where
  kind := h.kind
  fit := h.fit
  num3 := h.num3
  few := h.few
  bare := h.bare
  text := fun e t ht => h.text e t (by rcases ht with h | h | h | h <;> simp [h])
  nums := fun e n hn => h.nums e n (by rcases hn with h | h | h | h | h | h | h <;> simp [h])
  key := fun e t ht => h.key e t (by rcases ht with h | h | h | h <;> simp [h])
  dir := fun e t ht v hv => h.dir e t (by rcases ht with h | h <;> simp [h]) v (by rcases hv with h | h | h <;> simp [h])

theorem legF {s : VS} {c : MC} {r : MR} (h : r ∉ answers s c) : legal s c r = false := by
  unfold legal
  exact decide_eq_false h
theorem comF {s : VS} {p q : Stp} (l1 : p.2 ∈ answers s p.1) (l2 : q.2 ∈ answers s q.1) (h : q.2 ∉ answers (apply2 s p.1 p.2) q.1 ∨ p.2 ∉ answers (apply2 s q.1 q.2) p.1 ∨ apply2 (apply2 s p.1 p.2) q.1 q.2 ≠ apply2 (apply2 s q.1 q.2) p.1 p.2) : comM s p q = false := by
  unfold comM
  rw [if_pos ⟨legal_mem.2 l1, legal_mem.2 l2⟩]
  rcases h with h | h | h
  · rw [legF h]; rfl
  · rw [legF h]; simp
  · have : (apply2 (apply2 s p.1 p.2) q.1 q.2).alike (apply2 (apply2 s q.1 q.2) p.1 p.2) = false := by
      unfold VS.alike
      exact decide_eq_false fun e => h (vs_same e.1 e.2.1 e.2.2)
    rw [this]; simp
theorem alike_comm (s t : VS) : s.alike t = t.alike s := by
  unfold VS.alike
  rw [decide_eq_decide]
  exact ⟨fun h => ⟨h.1.symm, h.2.1.symm, h.2.2.symm⟩, fun h => ⟨h.1.symm, h.2.1.symm, h.2.2.symm⟩⟩
theorem comM_symm (s : VS) (p q : Stp) : comM s p q = comM s q p := by
  unfold comM
  rw [alike_comm]
  by_cases h : legal s p.1 p.2 = true ∧ legal s q.1 q.2 = true
  · rw [if_pos h, if_pos ⟨h.2, h.1⟩]
    cases legal (apply2 s p.1 p.2) q.1 q.2 <;> cases legal (apply2 s q.1 q.2) p.1 p.2 <;> simp
  · rw [if_neg h, if_neg fun g => h ⟨g.2, g.1⟩]
/- Small states. -/
theorem has_nil (k n : Int) (a : List UInt8) : (⟨k, n, []⟩ : VS).has a = false := by simp [VS.has, hits]
theorem has_one (k n : Int) (a v : List UInt8) : (⟨k, n, [(a, v)]⟩ : VS).has a = true := by simp [VS.has, hits]
theorem gone_one (k n : Int) (a v : List UInt8) : (⟨k, n, [(a, v)]⟩ : VS).gone a = ⟨k, n, []⟩ := by simp [VS.gone, VS.without, hits]
theorem with_nil (k n : Int) (r : Rw) : (⟨k, n, []⟩ : VS).rwith r = ⟨k, n, [r]⟩ := by
  show (⟨k, n, putG k r []⟩ : VS) = _
  unfold putG
  split <;> rfl
theorem look_one (k n : Int) (a v : List UInt8) : lookR ⟨k, n, [(a, v)]⟩ a = ⟨1, v, 0⟩ := by
  unfold lookR
  rw [has_one]
  simp [VS.val, hits]
theorem look_nil (k n : Int) (a : List UInt8) : lookR ⟨k, n, []⟩ a = ⟨2, [], 0⟩ := by
  unfold lookR
  rw [has_nil]
  rfl
theorem check_nil (k : Int) (h1 : 1 ≤ k) (h7 : k ≤ 7) : (⟨k, 0, []⟩ : VS).check = 0 := by
  unfold VS.check VS.numOk
  simp [first]
  omega
theorem check_num (k n : Int) (h : k = 2 ∨ k = 3 ∧ 0 ≤ n) : (⟨k, n, []⟩ : VS).check = 0 := by
  unfold VS.check VS.numOk
  rcases h with rfl | ⟨rfl, h⟩ <;> simp [first, *]
theorem check_one (k : Int) (a v : List UInt8) (hk : k = 1 ∨ k = 4 ∨ k = 5 ∨ k = 6 ∨ k = 7) (h1 : k = 1 → a ≠ []) (ha : a.length ≤ 24) (hv : v.length ≤ 24) (h5 : v ≠ [] → k = 5) : (⟨k, 0, [(a, v)]⟩ : VS).check = 0 := by
  have hr : (⟨k, 0, [(a, v)]⟩ : VS).rowErr 0 = 0 := by
    unfold VS.rowErr VS.keyOk VS.key VS.val
    simp only [List.getD_cons_zero]
    rw [if_neg (by omega), if_neg]
    intro h
    rcases h with h | h
    · exact h.2 (h5 h.1)
    · rcases hk with rfl | rfl | rfl | rfl | rfl <;> simp at h
      exact h1 rfl h
  unfold VS.check VS.numOk VS.most
  rw [if_neg (by dsimp only; omega), if_neg (by rcases hk with rfl | rfl | rfl | rfl | rfl <;> simp), if_neg (by split <;> simp)]
  show first _ 1 = 0
  simp [first, hr]
/- What the answers of possible steps are. -/
theorem okR_yes : okR true = ⟨1, [], 0⟩ := rfl
theorem okR_no : okR false = ⟨2, [], 0⟩ := rfl
theorem ansC {s : VS} {a b : List UInt8} {n : Int} {op : Int} (h : op = 2 ∨ op = 3 ∨ op = 5 ∨ op = 14 ∨ op = 16) (hk2 : (mfact op).kind = s.kind) : answers s ⟨op, a, b, n⟩ = [okR true] := by
  unfold answers
  rw [if_neg (by simp [hk2])]
  rcases h with rfl | rfl | rfl | rfl | rfl <;> rfl
theorem wrap_off {m n : Int} (hm : I64 m) (hn : I64 n) (h : n ≠ 0) : wrap64 (m + n) ≠ m := by
  unfold I64 at hm hn
  unfold wrap64
  omega
theorem pos_yn {op code m n : Int} {a b t : List UInt8} (h : posM (⟨op, a, b, n⟩, ⟨code, t, m⟩) = true) (ho : op = 6 ∨ op = 8 ∨ op = 9 ∨ op = 10 ∨ op = 11 ∨ op = 12) : (code = 1 ∨ code = 2) ∧ t = [] ∧ m = 0 := by
  rcases ho with rfl | rfl | rfl | rfl | rfl | rfl <;> simp [posM] at h <;> rcases h with h | h <;> simp [h]
theorem pos_text {op code m n : Int} {a b t : List UInt8} (h : posM (⟨op, a, b, n⟩, ⟨code, t, m⟩) = true) (ho : op = 13 ∨ op = 15 ∨ op = 17) : m = 0 ∧ (code = 1 ∨ code = 2 ∧ t = []) := by
  rcases ho with rfl | rfl | rfl <;> simp [posM] at h <;> rcases h with h | h <;> simp [h]
theorem pos_yes {op code m n : Int} {a b t : List UInt8} (h : posM (⟨op, a, b, n⟩, ⟨code, t, m⟩) = true) (ho : op = 2 ∨ op = 3 ∨ op = 5 ∨ op = 14 ∨ op = 16) : code = 1 ∧ t = [] ∧ m = 0 := by
  rcases ho with rfl | rfl | rfl | rfl | rfl <;> simpa [posM] using h
set_option maxHeartbeats 6400000 in
theorem ups_shows {p q : Stp} {L : List VS} (hL : Sts (kd p) p q L) (gp : Gv p) (gq : Gv q) (hk : kd p = kd q) (hu : upsM p q = true) : ∃ s ∈ L, s.check = 0 ∧ comM s p q = false := by
  have hop := MC.may_op gp.may
  have hoq := ops_of (MC.may_op gq.may)
  have hla := MC.may_len gp.may
  have hlb := MC.may_len gq.may
  have hnp := fun h => may_n gp.may h
  have hnq := fun h => may_n gq.may h
  have hbp := fun h => may_nob gp.may h
  have hbq := fun h => may_nob gq.may h
  obtain ⟨gp1, gp2, gp3, gp4, gp5⟩ := gp
  obtain ⟨gq1, gq2, gq3, gq4, gq5⟩ := gq
  have hpi := gp1.2
  obtain ⟨⟨op, a, b, n⟩, ⟨code, t, m⟩⟩ := p
  obtain ⟨⟨op', a', b', n'⟩, ⟨code', t', m'⟩⟩ := q
  unfold kd at hk hL
  dsimp only at *
  clear gp1 gq1
  rcases op_cases hop with rfl | rfl | rfl | rfl | rfl | rfl | rfl | rfl | rfl | rfl | rfl | rfl | rfl | rfl | rfl | rfl | rfl
  case inl => simp [upsM, mchanges] at hu
  · -- Write
    have hl : Sts 1 _ _ L := hL
    obtain ⟨rfl, rfl, rfl⟩ := pos_yes gp2 (by simp)
    rcases hoq.1 hk.symm with rfl | rfl
    · have hr : (code' = 1 ∧ m' = 0) := by simpa [posM] using gq2
      obtain ⟨rfl, rfl⟩ := hr
      have hne : t' ≠ a := by simpa [upsM, mchanges, textM] using hu
      by_cases ht : t' = []
      · subst ht
        refine ⟨_, hl.bare (by decide) (by decide), check_nil 1 (by decide) (by decide), comF ?_ ?_ (Or.inl ?_)⟩
        · rw [ansC (by simp) rfl]; simp [okR]
        · rw [ans1 rfl]; simp [VS.key]
        · rw [apOp rfl rfl, if_pos rfl, if_neg (fun e => hne e.symm), with_nil, ans1 rfl]
          simp [VS.key]
          exact fun e => hne e.symm
      · refine ⟨_, hl.text rfl t' (by simp) ht, check_one 1 _ _ (by simp) (fun _ => ht) gq3 (by simp) (by simp), comF ?_ ?_ (Or.inl ?_)⟩
        · rw [ansC (by simp) rfl]; simp [okR]
        · rw [ans1 rfl]; simp [VS.key]
        · rw [apOp rfl rfl, if_pos rfl]
          split
          · rw [ans1 rfl]; simp [VS.key]; exact ht
          · rw [with_nil, ans1 rfl]; simp [VS.key]; exact hne
    · obtain ⟨rfl, rfl, rfl⟩ := pos_yes gq2 (by simp)
      have hne : a' ≠ a := by simpa [upsM, mchanges, textM] using hu
      refine ⟨_, hl.bare (by decide) (by decide), check_nil 1 (by decide) (by decide), comF ?_ ?_ (Or.inr (Or.inr ?_))⟩
      · rw [ansC (by simp) rfl]; simp [okR]
      · rw [ansC (by simp) rfl]; simp [okR]
      · have e1 : ∀ (z : VS) (x y : List UInt8), z.kind = 1 → z.n = 0 → apply2 z ⟨2, x, y, n'⟩ ⟨1, [], 0⟩ = if x = [] then ⟨1, 0, []⟩ else ⟨1, 0, [(x, [])]⟩ := fun z x y h1 h2 => by
          rw [apOp (by rw [h1]; rfl) rfl, if_pos rfl, h1, h2, with_nil]
        have e2 : ∀ (z : VS) (x y : List UInt8), z.kind = 1 → z.n = 0 → apply2 z ⟨2, x, y, n⟩ ⟨1, [], 0⟩ = if x = [] then ⟨1, 0, []⟩ else ⟨1, 0, [(x, [])]⟩ := fun z x y h1 h2 => by
          rw [apOp (by rw [h1]; rfl) rfl, if_pos rfl, h1, h2, with_nil]
        rw [e2 ⟨1, 0, []⟩ a b rfl rfl, e1 ⟨1, 0, []⟩ a' b' rfl rfl, e1 _ a' b' (by split <;> rfl) (by split <;> rfl), e2 _ a b (by split <;> rfl) (by split <;> rfl)]
        intro e
        split at e <;> split at e <;> simp at e <;> simp_all
  · -- Add
    have hl : Sts 2 _ _ L := hL
    obtain ⟨rfl, rfl, rfl⟩ := pos_yes gp2 (by simp)
    rcases hoq.2.1 hk.symm with rfl | rfl
    · simp [upsM, mchanges] at hu
    · obtain ⟨rfl, rfl⟩ : code' = 1 ∧ t' = [] := by simpa [posM] using gq2
      have hn0 : n ≠ 0 := by
        intro e
        subst e
        simp [upsM, mchanges] at hu
      refine ⟨_, hl.nums (Or.inl rfl) m' (by simp) (Or.inl rfl), check_num 2 m' (Or.inl rfl), comF ?_ ?_ (Or.inl ?_)⟩
      · rw [ansC (by simp) rfl]; simp [okR]
      · rw [ans4 rfl]; simp
      · rw [apOp rfl (by simp [mchanges, hn0]), if_neg (by decide), if_pos (by decide), ans4 rfl]
        simp
        exact fun e => wrap_off gq5 hpi hn0 e.symm
  case inr.inr.inr.inl => simp [upsM, mchanges] at hu
  · -- Credit
    have hl : Sts 3 _ _ L := hL
    obtain ⟨rfl, rfl, rfl⟩ := pos_yes gp2 (by simp)
    have h1 := hnp (Or.inl rfl)
    rcases hoq.2.2.1 hk.symm with rfl | rfl | rfl
    · simp [upsM, mchanges] at hu
    · obtain ⟨hc, rfl, rfl⟩ := pos_yn gq2 (by simp)
      have hc2 : code' = 2 := by simpa [upsM, mchanges, refM] using hu
      subst hc2
      have h2 := hnq (Or.inr rfl)
      have hw : wrap64 (n' - 1) = n' - 1 := by unfold wrap64; omega
      refine ⟨_, hl.nums (Or.inr rfl) (n' - 1) (by simp [hw]) (Or.inr (by omega)), check_num 3 _ (Or.inr ⟨rfl, by omega⟩), comF ?_ ?_ (Or.inl ?_)⟩
      · rw [ansC (by simp) rfl]; simp [okR]
      · rw [ans6 rfl, decide_eq_false (by dsimp only; omega)]; simp [okR]
      · rw [apOp rfl rfl, if_neg (by decide), if_pos (by decide), ans6 rfl, decide_eq_true (by show n' ≤ wrap64 (n' - 1 + n); unfold wrap64; omega)]
        simp [okR]
    · obtain ⟨⟨rfl, rfl⟩, h0⟩ : (code' = 1 ∧ t' = []) ∧ 0 ≤ m' := by simpa [posM] using gq2
      have h50 := gq4 rfl
      refine ⟨_, hl.nums (Or.inr rfl) m' (by simp) (Or.inr ⟨h0, h50⟩), check_num 3 m' (Or.inr ⟨rfl, h0⟩), comF ?_ ?_ (Or.inl ?_)⟩
      · rw [ansC (by simp) rfl]; simp [okR]
      · rw [ans7 rfl]; simp
      · rw [apOp rfl rfl, if_neg (by decide), if_pos (by decide), ans7 rfl]
        simp
        unfold wrap64
        omega
  · -- Debit
    have hl : Sts 3 _ _ L := hL
    obtain ⟨hc, rfl, rfl⟩ := pos_yn gp2 (by simp)
    have h1 := hnp (Or.inr rfl)
    have hc1 : code = 1 := by
      rcases hc with h | h
      · exact h
      · subst h; simp [upsM, mchanges] at hu
    subst hc1
    rcases hoq.2.2.1 hk.symm with rfl | rfl | rfl
    · simp [upsM, mchanges, spendM] at hu
    · obtain ⟨hc', rfl, rfl⟩ := pos_yn gq2 (by simp)
      have hc2 : code' = 1 := by
        rcases hc' with h | h
        · exact h
        · subst h; simp [upsM, mchanges, spendM, refM] at hu
      subst hc2
      have h2 := hnq (Or.inr rfl)
      by_cases hle : n ≤ n'
      · refine ⟨_, hl.nums (Or.inr rfl) n' (by simp) (Or.inr (by omega)), check_num 3 _ (Or.inr ⟨rfl, by omega⟩), comF ?_ ?_ (Or.inr (Or.inl ?_))⟩
        · rw [ans6 rfl, decide_eq_true (by dsimp only; omega)]; simp [okR]
        · rw [ans6 rfl, decide_eq_true (by dsimp only; omega)]; simp [okR]
        · rw [apOp rfl rfl, if_neg (by decide), if_neg (by decide), if_pos rfl, ans6 rfl, decide_eq_false (by show ¬ n ≤ wrap64 (n' - n'); unfold wrap64; omega)]
          simp [okR]
      · refine ⟨_, hl.nums (Or.inr rfl) n (by simp) (Or.inr (by omega)), check_num 3 _ (Or.inr ⟨rfl, by omega⟩), comF ?_ ?_ (Or.inl ?_)⟩
        · rw [ans6 rfl, decide_eq_true (by dsimp only; omega)]; simp [okR]
        · rw [ans6 rfl, decide_eq_true (by dsimp only; omega)]; simp [okR]
        · rw [apOp rfl rfl, if_neg (by decide), if_neg (by decide), if_pos rfl, ans6 rfl, decide_eq_false (by show ¬ n' ≤ wrap64 (n - n); unfold wrap64; omega)]
          simp [okR]
    · obtain ⟨⟨rfl, rfl⟩, h0⟩ : (code' = 1 ∧ t' = []) ∧ 0 ≤ m' := by simpa [posM] using gq2
      have h50 := gq4 rfl
      have hle : n ≤ m' := by simpa [upsM, mchanges, spendM] using hu
      refine ⟨_, hl.nums (Or.inr rfl) m' (by simp) (Or.inr ⟨h0, h50⟩), check_num 3 m' (Or.inr ⟨rfl, h0⟩), comF ?_ ?_ (Or.inl ?_)⟩
      · rw [ans6 rfl, decide_eq_true (by dsimp only; omega)]; simp [okR]
      · rw [ans7 rfl]; simp
      · rw [apOp rfl rfl, if_neg (by decide), if_neg (by decide), if_pos rfl, ans7 rfl]
        simp
        unfold wrap64
        omega
  case inr.inr.inr.inr.inr.inr.inl => simp [upsM, mchanges] at hu
  · -- Insert
    have hl : Sts 4 _ _ L := hL
    obtain ⟨hc, rfl, rfl⟩ := pos_yn gp2 (by simp)
    have hc1 : code = 1 := by
      rcases hc with h | h
      · exact h
      · subst h; simp [upsM, mchanges] at hu
    subst hc1
    have hap : apply2 (⟨4, 0, []⟩ : VS) ⟨8, a, b, n⟩ ⟨1, [], 0⟩ = ⟨4, 0, [(a, b)]⟩ := by
      rw [apOp rfl rfl, if_neg (by decide), if_neg (by decide), if_neg (by decide), if_pos (by decide), with_nil]
    refine ⟨_, hl.bare (by decide) (by decide), check_nil 4 (by decide) (by decide), comF ?_ ?_ (Or.inl ?_)⟩
    · rw [ans8 rfl, has_nil]; simp [okR]
    · rcases hoq.2.2.2.1 hk.symm with rfl | rfl | rfl <;> obtain ⟨hc', rfl, rfl⟩ := pos_yn gq2 (by simp) <;> rcases hc' with rfl | rfl <;> simp [upsM, mchanges, wasM, refM] at hu
      · rw [ans8 rfl, has_nil]; simp [okR]
      · rw [ans9 rfl, has_nil]; simp [okR]
      · rw [ans10 rfl, has_nil]; simp [okR]
    · rw [hap]
      rcases hoq.2.2.2.1 hk.symm with rfl | rfl | rfl <;> obtain ⟨hc', rfl, rfl⟩ := pos_yn gq2 (by simp) <;> rcases hc' with rfl | rfl <;> simp [upsM, mchanges, wasM, refM] at hu
      · rw [ans8 rfl, hu, has_one]; simp [okR]
      · rw [ans9 rfl, hu, has_one]; simp [okR]
      · rw [ans10 rfl, hu, has_one]; simp [okR]
  · -- Remove
    have hl : Sts 4 _ _ L := hL
    obtain ⟨hc, rfl, rfl⟩ := pos_yn gp2 (by simp)
    have hc1 : code = 1 := by
      rcases hc with h | h
      · exact h
      · subst h; simp [upsM, mchanges] at hu
    subst hc1
    have hap : apply2 (⟨4, 0, [(a, [])]⟩ : VS) ⟨9, a, b, n⟩ ⟨1, [], 0⟩ = ⟨4, 0, []⟩ := by
      rw [apOp rfl rfl, if_neg (by decide), if_neg (by decide), if_neg (by decide), if_neg (by decide), if_pos (by decide), gone_one]
    refine ⟨_, hl.key (Or.inl rfl) a (by simp), check_one 4 a [] (by simp) (by simp) hla.1 (by simp) (by simp), comF ?_ ?_ (Or.inl ?_)⟩
    · rw [ans9 rfl, has_one]; simp [okR]
    · rcases hoq.2.2.2.1 hk.symm with rfl | rfl | rfl <;> obtain ⟨hc', rfl, rfl⟩ := pos_yn gq2 (by simp) <;> rcases hc' with rfl | rfl <;> simp [upsM, mchanges, wasM, refM] at hu
      · rw [ans8 rfl, hu, has_one]; simp [okR]
      · rw [ans9 rfl, hu, has_one]; simp [okR]
      · rw [ans10 rfl, hu, has_one]; simp [okR]
    · rw [hap]
      rcases hoq.2.2.2.1 hk.symm with rfl | rfl | rfl <;> obtain ⟨hc', rfl, rfl⟩ := pos_yn gq2 (by simp) <;> rcases hc' with rfl | rfl <;> simp [upsM, mchanges, wasM, refM] at hu
      · rw [ans8 rfl, has_nil]; simp [okR]
      · rw [ans9 rfl, has_nil]; simp [okR]
      · rw [ans10 rfl, has_nil]; simp [okR]
  case inr.inr.inr.inr.inr.inr.inr.inr.inr.inl => simp [upsM, mchanges] at hu
  · -- Bind
    have hl : Sts 5 _ _ L := hL
    obtain ⟨hc, rfl, rfl⟩ := pos_yn gp2 (by simp)
    have hc1 : code = 1 := by
      rcases hc with h | h
      · exact h
      · subst h; simp [upsM, mchanges] at hu
    subst hc1
    have hap : apply2 (⟨5, 0, []⟩ : VS) ⟨11, a, b, n⟩ ⟨1, [], 0⟩ = ⟨5, 0, [(a, b)]⟩ := by
      rw [apOp rfl rfl, if_neg (by decide), if_neg (by decide), if_neg (by decide), if_pos (by decide), with_nil]
    rcases hoq.2.2.2.2.1 hk.symm with rfl | rfl | rfl
    · obtain ⟨hc', rfl, rfl⟩ := pos_yn gq2 (by simp)
      rcases hc' with rfl | rfl <;> simp [upsM, mchanges, wasM, refM] at hu
      refine ⟨_, hl.bare (by decide) (by decide), check_nil 5 (by decide) (by decide), comF ?_ ?_ (Or.inl ?_)⟩
      · rw [ans11 rfl, has_nil]; simp [okR]
      · rw [ans11 rfl, has_nil]; simp [okR]
      · rw [hap, ans11 rfl, hu, has_one]; simp [okR]
    · obtain ⟨hc', rfl, rfl⟩ := pos_yn gq2 (by simp)
      rcases hc' with rfl | rfl <;> simp [upsM, mchanges, wasM, refM] at hu
      refine ⟨_, hl.bare (by decide) (by decide), check_nil 5 (by decide) (by decide), comF ?_ ?_ (Or.inl ?_)⟩
      · rw [ans11 rfl, has_nil]; simp [okR]
      · rw [ans12 rfl, has_nil]; simp [okR]
      · rw [hap, ans12 rfl, hu, has_one]; simp [okR]
    · obtain ⟨rfl, hc'⟩ := pos_text gq2 (by simp)
      rcases hc' with rfl | ⟨rfl, rfl⟩ <;> simp [upsM, mchanges, wasM, refM] at hu
      refine ⟨_, hl.bare (by decide) (by decide), check_nil 5 (by decide) (by decide), comF ?_ ?_ (Or.inl ?_)⟩
      · rw [ans11 rfl, has_nil]; simp [okR]
      · rw [ans13 rfl, look_nil]; simp
      · rw [hap, ans13 rfl, hu, look_one]; simp
  · -- Unbind
    have hl : Sts 5 _ _ L := hL
    obtain ⟨hc, rfl, rfl⟩ := pos_yn gp2 (by simp)
    have hc1 : code = 1 := by
      rcases hc with h | h
      · exact h
      · subst h; simp [upsM, mchanges] at hu
    subst hc1
    have hap : ∀ v, apply2 (⟨5, 0, [(a, v)]⟩ : VS) ⟨12, a, b, n⟩ ⟨1, [], 0⟩ = ⟨5, 0, []⟩ := fun v => by
      rw [apOp rfl rfl, if_neg (by decide), if_neg (by decide), if_neg (by decide), if_neg (by decide), if_pos (by decide), gone_one]
    rcases hoq.2.2.2.2.1 hk.symm with rfl | rfl | rfl
    · obtain ⟨hc', rfl, rfl⟩ := pos_yn gq2 (by simp)
      rcases hc' with rfl | rfl <;> simp [upsM, mchanges, wasM, refM] at hu
      refine ⟨_, hl.dir rfl a (by simp) [] (by simp), check_one 5 a [] (by simp) (by simp) hla.1 (by simp) (by simp), comF ?_ ?_ (Or.inl ?_)⟩
      · rw [ans12 rfl, has_one]; simp [okR]
      · rw [ans11 rfl, hu, has_one]; simp [okR]
      · rw [hap, ans11 rfl, has_nil]; simp [okR]
    · obtain ⟨hc', rfl, rfl⟩ := pos_yn gq2 (by simp)
      rcases hc' with rfl | rfl <;> simp [upsM, mchanges, wasM, refM] at hu
      refine ⟨_, hl.dir rfl a (by simp) [] (by simp), check_one 5 a [] (by simp) (by simp) hla.1 (by simp) (by simp), comF ?_ ?_ (Or.inl ?_)⟩
      · rw [ans12 rfl, has_one]; simp [okR]
      · rw [ans12 rfl, hu, has_one]; simp [okR]
      · rw [hap, ans12 rfl, has_nil]; simp [okR]
    · obtain ⟨rfl, hc'⟩ := pos_text gq2 (by simp)
      rcases hc' with rfl | ⟨rfl, rfl⟩ <;> simp [upsM, mchanges, wasM, refM] at hu
      refine ⟨_, hl.dir rfl a (by simp) t' (by simp), check_one 5 a t' (by simp) (by simp) hla.1 gq3 (by simp), comF ?_ ?_ (Or.inl ?_)⟩
      · rw [ans12 rfl, has_one]; simp [okR]
      · rw [ans13 rfl, hu, look_one]; simp
      · rw [hap, ans13 rfl, look_nil]; simp
  case inr.inr.inr.inr.inr.inr.inr.inr.inr.inr.inr.inr.inl => simp [upsM, mchanges] at hu
  · -- Enq
    have hl : Sts 6 _ _ L := hL
    obtain ⟨rfl, rfl, rfl⟩ := pos_yes gp2 (by simp)
    have hap : ∀ l, apply2 (⟨6, 0, l⟩ : VS) ⟨14, a, b, n⟩ ⟨1, [], 0⟩ = ⟨6, 0, l ++ [(a, b)]⟩ := fun l => by
      rw [apOp rfl rfl, if_neg (by decide), if_neg (by decide), if_neg (by decide), if_pos (by decide)]; rfl
    rcases hoq.2.2.2.2.2.1 hk.symm with rfl | rfl
    · obtain ⟨rfl, rfl, rfl⟩ := pos_yes gq2 (by simp)
      have hap' : ∀ l, apply2 (⟨6, 0, l⟩ : VS) ⟨14, a', b', n'⟩ ⟨1, [], 0⟩ = ⟨6, 0, l ++ [(a', b')]⟩ := fun l => by
        rw [apOp rfl rfl, if_neg (by decide), if_neg (by decide), if_neg (by decide), if_pos (by decide)]; rfl
      have hne : a' ≠ a := by simpa [upsM, mchanges] using hu
      refine ⟨_, hl.bare (by decide) (by decide), check_nil 6 (by decide) (by decide), comF ?_ ?_ (Or.inr (Or.inr ?_))⟩
      · rw [ansC (by simp) rfl]; simp [okR]
      · rw [ansC (by simp) rfl]; simp [okR]
      · rw [hap, hap', hap', hap]
        simp
        exact fun e => absurd e.symm hne
    · obtain ⟨rfl, hc'⟩ := pos_text gq2 (by simp)
      rcases hc' with rfl | ⟨rfl, rfl⟩ <;> simp [upsM, mchanges, refM] at hu
      refine ⟨_, hl.bare (by decide) (by decide), check_nil 6 (by decide) (by decide), comF ?_ ?_ (Or.inl ?_)⟩
      · rw [ansC (by simp) rfl]; simp [okR]
      · rw [ans15 rfl]; simp [frontR, okR]
      · rw [hap, ans15 rfl]; simp [frontR]
  · -- Deq
    have hl : Sts 6 _ _ L := hL
    obtain ⟨rfl, hc⟩ := pos_text gp2 (by simp)
    rcases hc with rfl | ⟨rfl, rfl⟩ <;> simp [upsM, mchanges] at hu
    obtain ⟨rfl, rfl, rfl, rfl⟩ := hu
    have hap : apply2 (⟨6, 0, [(t', [])]⟩ : VS) ⟨15, a, b, n⟩ ⟨1, t', 0⟩ = ⟨6, 0, []⟩ := by
      rw [apOp rfl rfl, if_neg (by decide), if_neg (by decide), if_neg (by decide), if_neg (by decide), if_neg (by decide), gone_one]
    refine ⟨_, hl.key (by simp) t' (by simp), check_one 6 t' [] (by simp) (by simp) gq3 (by simp) (by simp), comF ?_ ?_ (Or.inl ?_)⟩
    · rw [ans15 rfl]; simp [frontR, VS.key]
    · rw [ans15 rfl]; simp [frontR, VS.key]
    · rw [hap, ans15 rfl]; simp [frontR, okR]
  · -- Put
    have hl : Sts 7 _ _ L := hL
    obtain ⟨rfl, rfl, rfl⟩ := pos_yes gp2 (by simp)
    have hap : apply2 (⟨7, 0, []⟩ : VS) ⟨16, a, b, n⟩ ⟨1, [], 0⟩ = ⟨7, 0, [(a, b)]⟩ := by
      rw [apOp rfl rfl, if_neg (by decide), if_neg (by decide), if_neg (by decide), if_pos (by decide), with_nil]
    rcases hoq.2.2.2.2.2.2 hk.symm with rfl | rfl
    · simp [upsM, mchanges] at hu
    · obtain ⟨rfl, hc'⟩ := pos_text gq2 (by simp)
      rcases hc' with rfl | ⟨rfl, rfl⟩ <;> simp [upsM, mchanges, refM] at hu
      refine ⟨_, hl.bare (by decide) (by decide), check_nil 7 (by decide) (by decide), comF ?_ ?_ (Or.inl ?_)⟩
      · rw [ansC (by simp) rfl]; simp [okR]
      · rw [ans17 rfl]; simp [takes, okR]
      · rw [hap, ans17 rfl]; simp [takes, tk, VS.key]
  · -- Take
    have hl : Sts 7 _ _ L := hL
    obtain ⟨rfl, hc⟩ := pos_text gp2 (by simp)
    rcases hc with rfl | ⟨rfl, rfl⟩ <;> simp [upsM, mchanges] at hu
    obtain ⟨rfl, rfl, rfl, rfl⟩ := hu
    have hap : apply2 (⟨7, 0, [(t', [])]⟩ : VS) ⟨17, a, b, n⟩ ⟨1, t', 0⟩ = ⟨7, 0, []⟩ := by
      rw [apOp rfl rfl, if_neg (by decide), if_neg (by decide), if_neg (by decide), if_neg (by decide), if_neg (by decide), gone_one]
    refine ⟨_, hl.key (by simp) t' (by simp), check_one 7 t' [] (by simp) (by simp) gq3 (by simp) (by simp), comF ?_ ?_ (Or.inl ?_)⟩
    · rw [ans17 rfl]; simp [takes, tk, VS.key]
    · rw [ans17 rfl]; simp [takes, tk, VS.key]
    · rw [hap, ans17 rfl]; simp [takes, okR]
/- Among these states one shows it just if the two steps conflict. -/
theorem meet_exact {p q : Stp} {L : List VS} (hL : Sts (kd p) p q L) (gp : Gv p) (gq : Gv q) (hk : kd p = kd q) : conM p q = L.any fun s => decide (s.check = 0) && !comM s p q := by
  rw [Bool.eq_iff_iff]
  constructor
  · intro h
    unfold conM at h
    rw [gp.pos, gq.pos, decide_eq_true hk] at h
    have h2 : upsM p q = true ∨ upsM q p = true := by simpa using h
    have key : ∃ s ∈ L, s.check = 0 ∧ comM s p q = false := by
      rcases h2 with h2 | h2
      · exact ups_shows hL gp gq hk h2
      · obtain ⟨s, h1, h3, h4⟩ := ups_shows (hk ▸ hL.symm) gq gp hk.symm h2
        exact ⟨s, h1, h3, by rw [comM_symm]; exact h4⟩
    obtain ⟨s, h1, h3, h4⟩ := key
    exact List.any_eq_true.2 ⟨s, h1, by rw [h3, h4]; rfl⟩
  · intro h
    obtain ⟨s, h1, h3⟩ := List.any_eq_true.1 h
    cases hc : conM p q with
    | true => rfl
    | false =>
      have := comm_ok (hL.fit s h1) (fun e => by have := hL.num3 s h1 (by rw [← hL.kind s h1]; exact e); omega) gp.may gq.may hc
      rw [this] at h3
      simp at h3
set_option maxHeartbeats 6400000 in
theorem pos_shows {p : Stp} {L : List VS} (hL : Sts (kd p) p p L) (hm : p.1.may) (hlen : p.2.text.length ≤ 24) (hbal : p.1.op = 7 → p.2.n ≤ 1125899906842624) (h : posM p = true) : ∃ s ∈ L, s.check = 0 ∧ legal s p.1 p.2 = true := by
  have hop := MC.may_op hm
  have hla := MC.may_len hm
  have hnp := fun h => may_n hm h
  obtain ⟨⟨op, a, b, n⟩, ⟨code, t, m⟩⟩ := p
  unfold kd at hL
  dsimp only at *
  clear hm
  rcases op_cases hop with rfl | rfl | rfl | rfl | rfl | rfl | rfl | rfl | rfl | rfl | rfl | rfl | rfl | rfl | rfl | rfl | rfl
  · have hl : Sts 1 _ _ L := hL
    obtain ⟨rfl, rfl⟩ : code = 1 ∧ m = 0 := by simpa [posM] using h
    by_cases ht : t = []
    · subst ht
      exact ⟨_, hl.bare (by decide) (by decide), check_nil 1 (by decide) (by decide), legal_mem.2 (by rw [ans1 rfl]; simp [VS.key])⟩
    · exact ⟨_, hl.text rfl t (by simp) ht, check_one 1 _ _ (by simp) (fun _ => ht) hlen (by simp) (by simp), legal_mem.2 (by rw [ans1 rfl]; simp [VS.key])⟩
  · have hl : Sts 1 _ _ L := hL
    obtain ⟨rfl, rfl, rfl⟩ := pos_yes h (by simp)
    exact ⟨_, hl.bare (by decide) (by decide), check_nil 1 (by decide) (by decide), legal_mem.2 (by rw [ansC (by simp) rfl]; simp [okR])⟩
  · have hl : Sts 2 _ _ L := hL
    obtain ⟨rfl, rfl, rfl⟩ := pos_yes h (by simp)
    exact ⟨_, hl.nums (Or.inl rfl) 0 (by simp) (Or.inl rfl), check_num 2 0 (Or.inl rfl), legal_mem.2 (by rw [ansC (by simp) rfl]; simp [okR])⟩
  · have hl : Sts 2 _ _ L := hL
    obtain ⟨rfl, rfl⟩ : code = 1 ∧ t = [] := by simpa [posM] using h
    exact ⟨_, hl.nums (Or.inl rfl) m (by simp) (Or.inl rfl), check_num 2 m (Or.inl rfl), legal_mem.2 (by rw [ans4 rfl]; simp)⟩
  · have hl : Sts 3 _ _ L := hL
    obtain ⟨rfl, rfl, rfl⟩ := pos_yes h (by simp)
    exact ⟨_, hl.nums (Or.inr rfl) 0 (by simp) (Or.inr (by decide)), check_num 3 0 (Or.inr ⟨rfl, by decide⟩), legal_mem.2 (by rw [ansC (by simp) rfl]; simp [okR])⟩
  · have hl : Sts 3 _ _ L := hL
    obtain ⟨hc, rfl, rfl⟩ := pos_yn h (by simp)
    have h1 := hnp (Or.inr rfl)
    rcases hc with rfl | rfl
    · exact ⟨_, hl.nums (Or.inr rfl) n (by simp) (Or.inr (by omega)), check_num 3 n (Or.inr ⟨rfl, by omega⟩), legal_mem.2 (by rw [ans6 rfl, decide_eq_true (by dsimp only; omega)]; simp [okR])⟩
    · exact ⟨_, hl.nums (Or.inr rfl) 0 (by simp) (Or.inr (by decide)), check_num 3 0 (Or.inr ⟨rfl, by decide⟩), legal_mem.2 (by rw [ans6 rfl, decide_eq_false (by dsimp only; omega)]; simp [okR])⟩
  · have hl : Sts 3 _ _ L := hL
    obtain ⟨⟨rfl, rfl⟩, h0⟩ : (code = 1 ∧ t = []) ∧ 0 ≤ m := by simpa [posM] using h
    exact ⟨_, hl.nums (Or.inr rfl) m (by simp) (Or.inr ⟨h0, hbal rfl⟩), check_num 3 m (Or.inr ⟨rfl, h0⟩), legal_mem.2 (by rw [ans7 rfl]; simp)⟩
  · have hl : Sts 4 _ _ L := hL
    obtain ⟨hc, rfl, rfl⟩ := pos_yn h (by simp)
    rcases hc with rfl | rfl
    · exact ⟨_, hl.bare (by decide) (by decide), check_nil 4 (by decide) (by decide), legal_mem.2 (by rw [ans8 rfl, has_nil]; simp [okR])⟩
    · exact ⟨_, hl.key (by simp) a (by simp), check_one 4 a [] (by simp) (by simp) hla.1 (by simp) (by simp), legal_mem.2 (by rw [ans8 rfl, has_one]; simp [okR])⟩
  · have hl : Sts 4 _ _ L := hL
    obtain ⟨hc, rfl, rfl⟩ := pos_yn h (by simp)
    rcases hc with rfl | rfl
    · exact ⟨_, hl.key (by simp) a (by simp), check_one 4 a [] (by simp) (by simp) hla.1 (by simp) (by simp), legal_mem.2 (by rw [ans9 rfl, has_one]; simp [okR])⟩
    · exact ⟨_, hl.bare (by decide) (by decide), check_nil 4 (by decide) (by decide), legal_mem.2 (by rw [ans9 rfl, has_nil]; simp [okR])⟩
  · have hl : Sts 4 _ _ L := hL
    obtain ⟨hc, rfl, rfl⟩ := pos_yn h (by simp)
    rcases hc with rfl | rfl
    · exact ⟨_, hl.key (by simp) a (by simp), check_one 4 a [] (by simp) (by simp) hla.1 (by simp) (by simp), legal_mem.2 (by rw [ans10 rfl, has_one]; simp [okR])⟩
    · exact ⟨_, hl.bare (by decide) (by decide), check_nil 4 (by decide) (by decide), legal_mem.2 (by rw [ans10 rfl, has_nil]; simp [okR])⟩
  · have hl : Sts 5 _ _ L := hL
    obtain ⟨hc, rfl, rfl⟩ := pos_yn h (by simp)
    rcases hc with rfl | rfl
    · exact ⟨_, hl.bare (by decide) (by decide), check_nil 5 (by decide) (by decide), legal_mem.2 (by rw [ans11 rfl, has_nil]; simp [okR])⟩
    · exact ⟨_, hl.dir rfl a (by simp) [] (by simp), check_one 5 a [] (by simp) (by simp) hla.1 (by simp) (by simp), legal_mem.2 (by rw [ans11 rfl, has_one]; simp [okR])⟩
  · have hl : Sts 5 _ _ L := hL
    obtain ⟨hc, rfl, rfl⟩ := pos_yn h (by simp)
    rcases hc with rfl | rfl
    · exact ⟨_, hl.dir rfl a (by simp) [] (by simp), check_one 5 a [] (by simp) (by simp) hla.1 (by simp) (by simp), legal_mem.2 (by rw [ans12 rfl, has_one]; simp [okR])⟩
    · exact ⟨_, hl.bare (by decide) (by decide), check_nil 5 (by decide) (by decide), legal_mem.2 (by rw [ans12 rfl, has_nil]; simp [okR])⟩
  · have hl : Sts 5 _ _ L := hL
    obtain ⟨rfl, hc⟩ := pos_text h (by simp)
    rcases hc with rfl | ⟨rfl, rfl⟩
    · exact ⟨_, hl.dir rfl a (by simp) t (by simp), check_one 5 a t (by simp) (by simp) hla.1 hlen (by simp), legal_mem.2 (by rw [ans13 rfl, look_one]; simp)⟩
    · exact ⟨_, hl.bare (by decide) (by decide), check_nil 5 (by decide) (by decide), legal_mem.2 (by rw [ans13 rfl, look_nil]; simp)⟩
  · have hl : Sts 6 _ _ L := hL
    obtain ⟨rfl, rfl, rfl⟩ := pos_yes h (by simp)
    exact ⟨_, hl.bare (by decide) (by decide), check_nil 6 (by decide) (by decide), legal_mem.2 (by rw [ansC (by simp) rfl]; simp [okR])⟩
  · have hl : Sts 6 _ _ L := hL
    obtain ⟨rfl, hc⟩ := pos_text h (by simp)
    rcases hc with rfl | ⟨rfl, rfl⟩
    · exact ⟨_, hl.key (by simp) t (by simp), check_one 6 t [] (by simp) (by simp) hlen (by simp) (by simp), legal_mem.2 (by rw [ans15 rfl]; simp [frontR, VS.key])⟩
    · exact ⟨_, hl.bare (by decide) (by decide), check_nil 6 (by decide) (by decide), legal_mem.2 (by rw [ans15 rfl]; simp [frontR, okR])⟩
  · have hl : Sts 7 _ _ L := hL
    obtain ⟨rfl, rfl, rfl⟩ := pos_yes h (by simp)
    exact ⟨_, hl.bare (by decide) (by decide), check_nil 7 (by decide) (by decide), legal_mem.2 (by rw [ansC (by simp) rfl]; simp [okR])⟩
  · have hl : Sts 7 _ _ L := hL
    obtain ⟨rfl, hc⟩ := pos_text h (by simp)
    rcases hc with rfl | ⟨rfl, rfl⟩
    · exact ⟨_, hl.key (by simp) t (by simp), check_one 7 t [] (by simp) (by simp) hlen (by simp) (by simp), legal_mem.2 (by rw [ans17 rfl]; simp [takes, tk, VS.key])⟩
    · exact ⟨_, hl.bare (by decide) (by decide), check_nil 7 (by decide) (by decide), legal_mem.2 (by rw [ans17 rfl]; simp [takes, okR])⟩
/- A call is answered so in one of them just if the table says that it is possible. -/
theorem pos_exact {p : Stp} {L : List VS} (hL : Sts (kd p) p p L) (hm : p.1.may) (hlen : p.2.text.length ≤ 24) (hbal : p.1.op = 7 → p.2.n ≤ 1125899906842624) : posM p = L.any fun s => decide (s.check = 0) && legal s p.1 p.2 := by
  rw [Bool.eq_iff_iff]
  constructor
  · intro h
    obtain ⟨s, h1, h3, h4⟩ := pos_shows hL hm hlen hbal h
    exact List.any_eq_true.2 ⟨s, h1, by rw [h3, h4]; rfl⟩
  · intro h
    obtain ⟨s, h1, h3⟩ := List.any_eq_true.1 h
    have h4 : legal s p.1 p.2 = true := by simp at h3; exact h3.2
    exact pos_legal (fun e => (hL.num3 s h1 (by rw [← hL.kind s h1]; exact e)).1) (MC.may_op hm) (legal_mem.1 h4)
end Go.Proofs.YteaiidcconggcaaDoor
