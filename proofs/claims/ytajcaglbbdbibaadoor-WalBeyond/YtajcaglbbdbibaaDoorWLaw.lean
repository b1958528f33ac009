/- Plain mathematics: a log's texts on a device, what stands of them, what is found behind a crash. -/
import Derived.Test.YtajcaglbbdbibaaDoorWDevMath
namespace Go.Proofs.YtajcaglbbdbibaaDoor
open Go.RowKit
set_option linter.unusedVariables false
set_option maxRecDepth 100000

def bad (a : Nat) (c : List UInt8) : Prop := ∀ s, vw c = some s → s.stamp ≠ a
theorem bad_blank (a : Nat) : bad a (whole []) := fun s h => by rw [vw_blank] at h; cases h
theorem secAt_some {x : Nat} : ∀ {ts : List (List UInt8)} {x a : Nat} {s : Codec.Sec}, Codec.secAt x ts a = some s → x ≤ a → a ≤ 1099511627776 → 1 ≤ a → s.stamp = a ∧ vw (Codec.secText s) = some s
  | [], x, a, s, h, _, _, _ => by cases h
  | t :: r, x, a, s, h, h1, h2, h3 => by
    unfold Codec.secAt at h
    split at h
    · cases h
      refine ⟨?_, vw_sec t x (a - x) (by omega) (by omega)⟩
      show x + (a - x) = a
      omega
    · rename_i hn
      exact secAt_some (x := x) h (by omega) h2 h3
theorem secAt_snoc : ∀ (ts : List (List UInt8)) (t : List UInt8) (x a : Nat), x ≤ a → Codec.secAt x (ts ++ [t]) a = if a < x + Codec.costs ts then Codec.secAt x ts a else if a < x + Codec.costs ts + Codec.cost t.length then some (Codec.sec t (x + Codec.costs ts) (a - (x + Codec.costs ts))) else none
  | [], t, x, a, h => by
    rw [show Codec.costs [] = 0 from rfl, Nat.add_zero, if_neg (show ¬ a < x by omega), List.nil_append, Codec.secAt]
    by_cases h2 : a < x + Codec.cost t.length
    · rw [if_pos h2, if_pos h2]
    · rw [if_neg h2, if_neg h2]; rfl
  | u :: r, t, x, a, h => by
    rw [List.cons_append, Codec.secAt, show Codec.costs (u :: r) = Codec.cost u.length + Codec.costs r from rfl, ← Nat.add_assoc]
    by_cases h1 : a < x + Codec.cost u.length
    · rw [if_pos h1, if_pos (show a < x + Codec.cost u.length + Codec.costs r by omega), Codec.secAt, if_pos h1]
    · rw [if_neg h1, secAt_snoc r t (x + Codec.cost u.length) a (by omega)]
      by_cases h2 : a < x + Codec.cost u.length + Codec.costs r
      · rw [if_pos h2, if_pos h2, Codec.secAt, if_neg h1]
      · rw [if_neg h2, if_neg h2]
theorem secAt_none : ∀ (ts : List (List UInt8)) (x a : Nat), x + Codec.costs ts ≤ a → Codec.secAt x ts a = none
  | [], x, a, h => rfl
  | u :: r, x, a, h => by
    simp only [Codec.costs] at h
    simp only [Codec.secAt]
    rw [if_neg (by have := Codec.cost_pos u.length; omega), secAt_none r _ a (by omega)]
theorem costs_take (ts : List (List UInt8)) (k : Nat) : Codec.costs (ts.take k) ≤ Codec.costs ts := by
  have := Codec.costs_append (ts.take k) (ts.drop k)
  rw [List.take_append_drop] at this
  omega
theorem cur_append_not (d d' : Dev) (l : List (Nat × List UInt8)) (k : Nat) (e1 : d'.L = d.L) (e2 : d'.W = d.W ++ l) (h : ∀ y ∈ l, y.1 ≠ k) : d'.cur k = d.cur k := by
  unfold Dev.cur
  rw [e1, e2, List.reverse_append, List.find?_append]
  have : l.reverse.find? (fun x => x.1 == k) = none := by
    rw [List.find?_eq_none]
    intro y hy
    have := h y (by simpa using hy)
    simpa using this
  rw [this]; rfl
theorem cur_append_mem (d d' : Dev) (l : List (Nat × List UInt8)) (k : Nat) (c : List UInt8) (e2 : d'.W = d.W ++ l) (h : (k, c) ∈ l) (ho : ∀ y ∈ l, y.1 = k → y.2 = c) : d'.cur k = c := by
  unfold Dev.cur
  rw [e2, List.reverse_append, List.find?_append]
  cases e : l.reverse.find? (fun x => x.1 == k) with
  | none =>
    rw [List.find?_eq_none] at e
    have := e (k, c) (by simpa using h)
    simp at this
  | some y =>
    have h1 := List.find?_some e
    have h2 := List.mem_of_find?_eq_some e
    have := ho y (by simpa using h2) (by simpa using h1)
    simpa using this
theorem w_lay_cur : ∀ (r : List (Nat × List UInt8)) (l : List (List UInt8)) (k : Nat), k < l.length → (lay l r.reverse).getD k [] = ((r.find? (fun x => x.1 == k)).map (·.2)).getD (l.getD k [])
  | [], l, k, h => rfl
  | x :: r, l, k, h => by
    rw [List.reverse_cons, lay_snoc, List.find?_cons]
    by_cases e : x.1 = k
    · rw [show (x.1 == k) = true by simpa using e]
      have hl : k < (lay l r.reverse).length := by rw [lay_length]; exact h
      simp [List.getD, e, hl]
    · rw [show (x.1 == k) = false by simpa using e]
      have := w_lay_cur r l k h
      simp only [List.getD, List.getElem?_set, if_neg e] at this ⊢
      exact this
/- Behind a flush a sector is what was read there. -/
theorem flush_only (d : Dev) (ho : ¬ d.out) (k : Nat) (c : List UInt8) (hk : k < d.L.length) (h : can d.flush k c) : c = d.cur k := by
  unfold Dev.flush at h
  rw [if_neg ho] at h
  rcases h with h | h
  · have := w_lay_cur d.W.reverse d.L k hk
    rw [List.reverse_reverse] at this
    unfold Dev.cur
    rw [← this]
    have h2 : (lay d.L d.W)[k]? = some c := h
    simp [List.getD, h2]
  · cases h
theorem flush_shape (d : Dev) (ho : ¬ d.out) : d.flush.L.length = d.L.length ∧ d.flush.W = [] ∧ d.flush.down = d.down ∧ d.flush.armed = d.armed ∧ d.flush.calls = d.calls + 1 ∧ d.flushE = 0 := by
  unfold Dev.flush Dev.flushE Dev.begin
  rw [if_neg ho, if_neg ho, if_neg ho]
  exact ⟨lay_length _ _, rfl, rfl, rfl, rfl, rfl⟩

structure PD (fr ln x : Nat) (ts : List (List UInt8)) (must : Nat) (D : Dev) : Prop where
  dn : D.down = false
  ar : D.armed = false
  lf : D.left = 0
  len : D.L.length = 24
  fine : Fine D
  cst : Codec.costs ts ≤ ln
  wl : D.W.length ≤ Codec.costs ts
  cl : D.calls ≤ 1000 + Codec.costs ts
  cur : ∀ a, x ≤ a → a < x + Codec.costs ts → ∃ s, Codec.secAt x ts a = some s ∧ D.cur (place fr ln a) = Codec.secText s
  cn : ∀ a, x ≤ a → a < x + ln → ∀ c, can D (place fr ln a) c → bad a c ∨ ∃ s, Codec.secAt x ts a = some s ∧ c = Codec.secText s
  fc : ∀ a, x ≤ a → a < x + Codec.costs (ts.take must) → ∀ c, can D (place fr ln a) c → ∃ s, Codec.secAt x ts a = some s ∧ c = Codec.secText s
  ms : must ≤ ts.length

section
variable {fr ln x : Nat} {ts : List (List UInt8)} {must : Nat} {D : Dev}
theorem PD.out (h : PD fr ln x ts must D) : ¬ D.out := by unfold Dev.out; rw [h.dn, h.ar]; simp
theorem PD.start (hd : D.down = false) (ha : D.armed = false) (hl : D.left = 0) (hL : D.L.length = 24) (hF : Fine D) (hW : D.W = []) (hc : D.calls ≤ 1000) (hb : ∀ a, x ≤ a → a < x + ln → ∀ c, can D (place fr ln a) c → bad a c) : PD fr ln x [] 0 D :=
  ⟨hd, ha, hl, hL, hF, Nat.zero_le _, by rw [hW]; exact Nat.le_refl _, by simpa [Codec.costs] using hc, fun a h1 h2 => by simp [Codec.costs] at h2; omega, fun a h1 h2 c hc => Or.inl (hb a h1 h2 c hc), fun a h1 h2 => by simp [Codec.costs] at h2; omega, Nat.le_refl _⟩
def Dev.put (fr ln : Nat) (t : List UInt8) (x : Nat) (D : Dev) : Dev := { D with W := D.W ++ wlist fr ln t x (Codec.cost t.length) 0, calls := D.calls + Codec.cost t.length }
theorem PD.app (h : PD fr ln x ts must D) (t : List UInt8) (hl : 0 < ln) (hfl : fr + ln ≤ 24) (hx : 1 ≤ x) (hx2 : x + ln ≤ 1099511627776) (hfit : Codec.costs ts + Codec.cost t.length ≤ ln) :
    PD fr ln x (ts ++ [t]) must (Dev.put fr ln t (x + Codec.costs ts) D) ∧ Dev.puts fr ln t (x + Codec.costs ts) (Codec.cost t.length) 0 D = (Dev.put fr ln t (x + Codec.costs ts) D, 0) := by
  have hcs : Codec.costs (ts ++ [t]) = Codec.costs ts + Codec.cost t.length := by rw [Codec.costs_append]; simp [Codec.costs]
  refine ⟨?_, puts_on fr ln t _ hl _ 0 D h.dn h.ar (by rw [h.len]; exact hfl) (by omega)⟩
  have hkey : ∀ a, x ≤ a → a < x + ln → ∀ c, (place fr ln a, c) ∈ wlist fr ln t (x + Codec.costs ts) (Codec.cost t.length) 0 → x + Codec.costs ts ≤ a ∧ a < x + Codec.costs ts + Codec.cost t.length ∧ c = Codec.secText (Codec.sec t (x + Codec.costs ts) (a - (x + Codec.costs ts))) := by
    intro a ha1 ha2 c hm
    obtain ⟨i, h1, h2, h3, h4⟩ := mem_wlist hm
    have : a = x + Codec.costs ts + i := by
      rcases Nat.le_total a (x + Codec.costs ts + i) with hle | hle
      · exact place_inj h3 hle (by omega)
      · exact (place_inj h3.symm hle (by omega)).symm
    subst this
    exact ⟨by omega, by omega, by rw [h4]; congr 2; omega⟩
  have hnot : ∀ a, x ≤ a → a < x + Codec.costs ts → ∀ y ∈ wlist fr ln t (x + Codec.costs ts) (Codec.cost t.length) 0, y.1 ≠ place fr ln a := by
    rintro a ha1 ha2 ⟨k, c⟩ hy rfl
    have := (hkey a ha1 (by omega) c hy).1
    omega
  refine ⟨h.dn, h.ar, h.lf, h.len, h.fine.writes _ (wlist_fine fr ln t _ _ 0 _ hl (by rw [h.len]; exact hfl) (by omega)) _ rfl rfl, by omega, ?_, ?_, ?_, ?_, ?_, by rw [List.length_append]; have := h.ms; omega⟩
  · show (D.W ++ wlist fr ln t (x + Codec.costs ts) (Codec.cost t.length) 0).length ≤ _
    rw [List.length_append, wlist_length, hcs]; have := h.wl; omega
  · show D.calls + Codec.cost t.length ≤ _
    rw [hcs]; have := h.cl; omega
  · intro a h1 h2
    rw [secAt_snoc ts t x a h1]
    by_cases h3 : a < x + Codec.costs ts
    · rw [if_pos h3, cur_append_not D (Dev.put fr ln t (x + Codec.costs ts) D) _ _ rfl rfl (hnot a h1 h3)]
      exact h.cur a h1 h3
    · rw [if_neg h3, if_pos (by omega)]
      refine ⟨_, rfl, ?_⟩
      have hmem := wlist_mem fr ln t (x + Codec.costs ts) (Codec.cost t.length) 0 (a - (x + Codec.costs ts)) (by omega) (by omega)
      rw [show x + Codec.costs ts + (a - (x + Codec.costs ts)) = a by omega] at hmem
      exact cur_append_mem D (Dev.put fr ln t (x + Codec.costs ts) D) _ _ _ rfl hmem (fun y hy hyk => by
        obtain ⟨k, c⟩ := y
        dsimp only at hyk
        subst hyk
        exact (hkey a h1 (by omega) c hy).2.2)
  · intro a h1 h2 c hc
    rw [secAt_snoc ts t x a h1]
    have hc2 : can D (place fr ln a) c ∨ (place fr ln a, c) ∈ wlist fr ln t (x + Codec.costs ts) (Codec.cost t.length) 0 := by
      rcases hc with hc | hc
      · exact Or.inl (Or.inl hc)
      · rcases List.mem_append.1 hc with hc | hc
        · exact Or.inl (Or.inr hc)
        · exact Or.inr hc
    rcases hc2 with hc | hc
    · rcases h.cn a h1 h2 c hc with hb | ⟨s, hs1, hs2⟩
      · exact Or.inl hb
      · by_cases h3 : a < x + Codec.costs ts
        · rw [if_pos h3]; exact Or.inr ⟨s, hs1, hs2⟩
        · rw [secAt_none ts x a (by omega)] at hs1; cases hs1
    · obtain ⟨h4, h5, h6⟩ := hkey a h1 h2 c hc
      rw [if_neg (by omega), if_pos h5]
      exact Or.inr ⟨_, rfl, h6⟩
  · intro a h1 h2 c hc
    have hm := h.ms
    rw [List.take_append_of_le_length hm] at h2
    have h3 : a < x + Codec.costs ts := by have := costs_take ts must; omega
    rw [secAt_snoc ts t x a h1, if_pos h3]
    have hc2 : can D (place fr ln a) c := by
      rcases hc with hc | hc
      · exact Or.inl hc
      · rcases List.mem_append.1 hc with hc | hc
        · exact Or.inr hc
        · exact absurd rfl (hnot a h1 h3 _ hc)
    exact h.fc a h1 h2 c hc2
theorem PD.flush (h : PD fr ln x ts must D) (hl : 0 < ln) (hfl : fr + ln ≤ 24) : PD fr ln x ts ts.length D.flush ∧ D.flushE = 0 ∧ D.flush.calls = D.calls + 1 ∨ D.calls = 1000 + Codec.costs ts := by
  by_cases hcl : D.calls = 1000 + Codec.costs ts
  · exact Or.inr hcl
  left
  obtain ⟨e1, e2, e3, e4, e5, e6⟩ := flush_shape D h.out
  have hp : ∀ a, place fr ln a < D.L.length := fun a => place_lt fr ln a _ hl (by rw [h.len]; exact hfl)
  have hall : ∀ a, x ≤ a → a < x + Codec.costs ts → ∀ c, can D.flush (place fr ln a) c → ∃ s, Codec.secAt x ts a = some s ∧ c = Codec.secText s := fun a h1 h2 c hc => by
    obtain ⟨s, hs1, hs2⟩ := h.cur a h1 h2
    exact ⟨s, hs1, by rw [flush_only D h.out _ c (hp a) hc, hs2]⟩
  refine ⟨⟨e3.trans h.dn, e4.trans h.ar, ?_, e1.trans h.len, h.fine.flush h.out, h.cst, by rw [e2]; exact Nat.zero_le _, by rw [e5]; have := h.cl; omega, fun a h1 h2 => ?_, fun a h1 h2 c hc => h.cn a h1 h2 c (flush_can D h.out _ c hc), fun a h1 h2 c hc => hall a h1 (by rw [List.take_length] at h2; exact h2) c hc, Nat.le_refl _⟩, e6, e5⟩
  · unfold Dev.flush Dev.begin
    rw [if_neg h.out, if_neg h.out, h.ar]
    exact h.lf
  · obtain ⟨s, hs1, hs2⟩ := h.cur a h1 h2
    refine ⟨s, hs1, ?_⟩
    obtain ⟨s', hs1', hs2'⟩ := hall a h1 h2 _ (cur_can D.flush _ (by rw [e1]; exact hp a))
    rw [hs1] at hs1'
    cases hs1'
    exact hs2'
theorem PD.found (h : PD fr ln x ts must D) (hl : 0 < ln) (hfl : fr + ln ≤ 24) (hx : 1 ≤ x) (hx2 : x + ln ≤ 1099511627776) (d' : Dev) (hL : d'.L.length = 24) (hc : ∀ k c, can d' k c → can D k c) :
    ∃ k, must ≤ k ∧ k ≤ ts.length ∧ Codec.scan (view d' fr ln) ln x false [] x = (Codec.recs x (ts.take k), x + Codec.costs (ts.take k)) ∧ (∀ a, x ≤ a → a < x + Codec.costs (ts.take k) → ∃ s, Codec.secAt x ts a = some s ∧ d'.cur (place fr ln a) = Codec.secText s) := by
  have hv : ∀ a, can D (place fr ln a) (d'.cur (place fr ln a)) := fun a => hc _ _ (cur_can d' _ (place_lt fr ln a _ hl (by rw [hL]; exact hfl)))
  have hcst := h.cst
  have hg : ∀ a, x ≤ a → a < x + ln → view d' fr ln a = Codec.secAt x ts a ∨ Codec.gap (view d' fr ln) a := by
    intro a h1 h2
    rcases h.cn a h1 h2 _ (hv a) with hb | ⟨s, hs1, hs2⟩
    · exact Or.inr hb
    · left
      rw [view_vw, hs2, hs1, (secAt_some (x := x) hs1 h1 (by omega) (by omega)).2]
  obtain ⟨k, hk, e, hq, hst⟩ := Codec.scan_begin (g := view d' fr ln) ts x (ln - Codec.costs ts) (fun a h1 h2 => hg a h1 (by omega)) (fun a h1 h2 => by
    rcases hg a (by omega) (by omega) with h3 | h3
    · rw [secAt_none ts x a h1] at h3
      intro s hs
      rw [h3] at hs
      cases hs
    · exact h3)
  rw [show Codec.costs ts + (ln - Codec.costs ts) = ln by omega] at e
  refine ⟨k, hq must h.ms (fun a h1 h2 => ?_), hk, e, fun a h1 h2 => ?_⟩
  rotate_left
  · have h3 := costs_take ts k
    have h4 := hst a h1 h2
    rcases h.cn a h1 (by omega) _ (hv a) with hb | ⟨s, hs1, hs2⟩
    · exfalso
      obtain ⟨s, hs1, _⟩ := h.cur a h1 (by omega)
      have h5 := (secAt_some (x := x) hs1 h1 (by omega) (by omega)).1
      rw [hs1, view_vw] at h4
      exact hb s h4 h5
    · exact ⟨s, hs1, hs2⟩
  obtain ⟨s, hs1, hs2⟩ := h.fc a h1 h2 _ (hv a)
  rw [view_vw, hs2, hs1, (secAt_some (x := x) hs1 h1 (by have := costs_take ts must; omega) (by omega)).2]
end
theorem recs_get : ∀ (ts : List (List UInt8)) (x i : Nat) (h : i < ts.length), (Codec.recs x ts)[i]? = some ⟨x + Codec.costs (ts.take i), x + Codec.costs (ts.take i) + Codec.cost (ts[i]'h).length - 1, ts[i]'h⟩
  | t :: r, x, 0, h => by simp [Codec.recs, Codec.costs]
  | t :: r, x, i + 1, h => by
    have := recs_get r (x + Codec.cost t.length) i (by simpa using h)
    simp only [Codec.recs, List.getElem?_cons_succ, List.take_succ_cons, Codec.costs, List.getElem_cons_succ]
    rw [this, Nat.add_assoc]
theorem costs_take_succ (ts : List (List UInt8)) (i : Nat) (h : i < ts.length) : Codec.costs (ts.take (i + 1)) = Codec.costs (ts.take i) + Codec.cost (ts[i]'h).length := by
  rw [List.take_succ_eq_append_getElem h, Codec.costs_append]
  simp [Codec.costs]
end Go.Proofs.YtajcaglbbdbibaaDoor
