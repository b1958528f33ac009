/- A region whose order is drawn, with calls that make memory: what stays, beside boxes that the region itself writes. And copies of rows: slices.Clone. -/
import Derived.Test.YtochaiinofhdhaaNBase
import Derived.Test.YtochaiinofhdhaaNShelf
namespace Go.Proofs.Ytochaiinofhdhaa
open Go.RowKit
set_option linter.unusedVariables false
set_option maxRecDepth 100000

/- Behind w0: all blocks of w0 are as they were, but those of X, which are still boxes of four cells. -/
structure Reg (w0 : World) (X : Nat → Prop) (w : World) : Prop where
  os : w.os = w0.os
  tape : w.tape = w0.tape
  output : w.output = w0.output
  size : w0.heap.size ≤ w.heap.size
  keep : ∀ k, k < w0.heap.size → ¬ X k → w.heap[k]? = w0.heap[k]?
  box : ∀ k, X k → k < w0.heap.size ∧ ∃ a b c d t, w.heap[k]? = some (.cells #[a, b, c, d] t (0, 0))

section
variable {w0 w w' : World} {X : Nat → Prop}
theorem Reg.start (h : ∀ k, X k → ∃ a b c d t, w.heap[k]? = some (.cells #[a, b, c, d] t (0, 0))) : Reg w X w := ⟨rfl, rfl, rfl, Nat.le_refl _, fun _ _ _ => rfl, fun k hk => ⟨by obtain ⟨a, b, c, d, t, e⟩ := h k hk; exact block_lt e, h k hk⟩⟩
theorem Reg.drew (h : Reg w0 X w) : Reg w0 X w.drew := ⟨h.os, h.tape, h.output, h.size, h.keep, h.box⟩
theorem Reg.below (h : Reg w0 X w) (hb : Below w.heap.size w w') : Reg w0 X w' :=
  ⟨hb.os.trans h.os, hb.tape.trans h.tape, hb.output.trans h.output, Nat.le_trans h.size hb.size, fun k hk hx => (hb.block k (by have := h.size; omega)).trans (h.keep k hk hx), fun k hx => by
    obtain ⟨hk, a, b, c, d, t, e⟩ := h.box k hx
    exact ⟨hk, a, b, c, d, t, (hb.block k (by have := h.size; omega)).trans e⟩⟩
theorem Reg.alloc (h : Reg w0 X w) (o : Obj) : Reg w0 X (w.alloc o) := h.below (below_box o)
def put4 (w : World) (N : Nat) (a b c d : Value) : World := (((w.setCell ⟨N, 0, none⟩ a).setCell ⟨N, 1, none⟩ b).setCell ⟨N, 2, none⟩ c).setCell ⟨N, 3, none⟩ d
theorem put4_same {N : Nat} {a b c d a' b' c' d' : Value} {t : TypeId} (h : w.heap[N]? = some (.cells #[a, b, c, d] t (0, 0))) : (put4 w N a' b' c' d').heap[N]? = some (.cells #[a', b', c', d'] t (0, 0)) := by
  have h1 := heap_setCell_same w N 0 _ _ a' h
  have h2 := heap_setCell_same _ N 1 _ _ b' h1
  have h3 := heap_setCell_same _ N 2 _ _ c' h2
  have h4 := heap_setCell_same _ N 3 _ _ d' h3
  unfold put4
  simpa [Array.setIfInBounds] using h4
theorem put4_other {N : Nat} (a b c d : Value) {k : Nat} (hk : k ≠ N) : (put4 w N a b c d).heap[k]? = w.heap[k]? := by
  unfold put4
  rw [heap_setCell_other _ ⟨N, 3, none⟩ k _ hk, heap_setCell_other _ ⟨N, 2, none⟩ k _ hk, heap_setCell_other _ ⟨N, 1, none⟩ k _ hk, heap_setCell_other _ ⟨N, 0, none⟩ k _ hk]
theorem put4_size {N : Nat} (a b c d : Value) : (put4 w N a b c d).heap.size = w.heap.size := by simp [put4]
theorem Reg.put (h : Reg w0 X w) (N : Nat) (hN : X N) (a b c d : Value) : Reg w0 X ((((w.setCell ⟨N, 0, none⟩ a).setCell ⟨N, 1, none⟩ b).setCell ⟨N, 2, none⟩ c).setCell ⟨N, 3, none⟩ d) := by
  show Reg w0 X (put4 w N a b c d)
  refine ⟨h.os, h.tape, h.output, by rw [put4_size]; exact h.size, fun k hk hx => ?_, fun k hx => ?_⟩
  · rw [put4_other _ _ _ _ (fun e => hx (by rw [e]; exact hN))]; exact h.keep k hk hx
  · obtain ⟨hk, a0, b0, c0, d0, t, e⟩ := h.box k hx
    refine ⟨hk, ?_⟩
    by_cases hkN : k = N
    · subst hkN; exact ⟨_, _, _, _, t, put4_same e⟩
    · exact ⟨a0, b0, c0, d0, t, by rw [put4_other _ _ _ _ hkN]; exact e⟩
theorem Reg.cell (h : Reg w0 X w) {N o : Nat} {v : Value} (hx : ¬ X N) (hc : w0.cell? ⟨N, o, none⟩ = some v) : w.cell? ⟨N, o, none⟩ = some v := by
  rw [World.cell?_of_block (w := w0) (a := ⟨N, o, none⟩) (h.keep N (cell_lt hc) hx)]; exact hc
theorem Reg.frozen (h : Reg w0 X w) {N : Nat} (hx : X N) (j : Nat) : w.frozen? ⟨N, j, none⟩ = false := by
  obtain ⟨_, a, b, c, d, t, e⟩ := h.box N hx
  exact block_frozen e j
end

theorem Reg.low {w w0 w1 : World} {X : Nat → Prop} {B : Nat} (h : Reg w0 X w1) (hb : Below B w w0) (hX : ∀ k, X k → B ≤ k) (hB : B ≤ w0.heap.size) : Below B w w1 :=
  ⟨h.os.trans hb.os, h.tape.trans hb.tape, h.output.trans hb.output, Nat.le_trans hb.size h.size, fun k hk => (h.keep k (by omega) (fun hx => by have := hX k hx; omega)).trans (hb.block k hk)⟩
theorem Reg.put_cells {w0 w : World} {X : Nat → Prop} (h : Reg w0 X w) {N : Nat} (hN : X N) (a b c d : Value) :
    (put4 w N a b c d).cell? ⟨N, 0, none⟩ = some a ∧ (put4 w N a b c d).cell? ⟨N, 1, none⟩ = some b ∧ (put4 w N a b c d).cell? ⟨N, 2, none⟩ = some c ∧ (put4 w N a b c d).cell? ⟨N, 3, none⟩ = some d := by
  obtain ⟨_, a0, b0, c0, d0, t, e⟩ := h.box N hN
  have := put4_same (a' := a) (b' := b) (c' := c) (d' := d) e
  refine ⟨?_, ?_, ?_, ?_⟩ <;> rw [block_cell this] <;> rfl
theorem ownsRow_put4 {w : World} {base : Nat} {e : TypeId} {size : Nat} {v : Value} {n : Nat} {xs : List Value} (h : w.ownsRow base e size v n xs) {N : Nat} (hN : N < base) (a b c d : Value) : (put4 w N a b c d).ownsRow base e size v n xs :=
  ownsRow_same h fun k hk => put4_other _ _ _ _ (by have := (h.lt k hk).1; omega)
theorem below_two (w : World) (o o' : Obj) : Below w.heap.size w ((w.alloc o).alloc o') := ((Below.refl _ _).alloc (Nat.le_refl _) _).alloc (by simp) _
theorem two_boxes4 (w : World) (o : Obj) (t : TypeId) (a b c d : Value) : ∀ k, k = w.heap.size + 1 → ∃ a' b' c' d' t', ((w.alloc o).alloc (.cells #[a, b, c, d] t)).heap[k]? = some (.cells #[a', b', c', d'] t' (0, 0)) := by
  rintro k rfl
  refine ⟨a, b, c, d, t, ?_⟩
  have := heap_alloc_new (w.alloc o) (.cells #[a, b, c, d] t)
  rwa [World.size_alloc] at this

/- What a cell holds, by a name that no walk opens. -/
def valAt (w : World) (N j : Nat) : Value := (w.cell? ⟨N, j, none⟩).getD (.bool false)
theorem Reg.there {w0 w : World} {X : Nat → Prop} (h : Reg w0 X w) {N : Nat} (hx : X N) : w.cell? ⟨N, 0, none⟩ = some (valAt w N 0) ∧ w.cell? ⟨N, 1, none⟩ = some (valAt w N 1) ∧ w.cell? ⟨N, 2, none⟩ = some (valAt w N 2) ∧ w.cell? ⟨N, 3, none⟩ = some (valAt w N 3) := by
  obtain ⟨_, a, b, c, d, t, e⟩ := h.box N hx
  unfold valAt
  refine ⟨?_, ?_, ?_, ?_⟩ <;> rw [block_cell e] <;> rfl

/- A box of four cells, and a result's box behind it: what holds in a region that reads the one and writes the other. -/
theorem box_facts (w : World) (a b c d : Value) (t t' : TypeId) : ∃ (B R : Obj) (X : Nat → Prop), B = .cells #[a, b, c, d] t (0, 0) ∧ R = .cells #[.bool false, .slice none 0 0, .slice none 0 0, .slice none 0 0] t' (0, 0) ∧ Hid (X (w.heap.size + 1)) ∧
    Reg ((w.alloc B).alloc R) X ((w.alloc B).alloc R).drew ∧ Hid (∀ w1, Reg ((w.alloc B).alloc R) X w1 → Below w.heap.size w w1) ∧
    (∀ w1, Reg ((w.alloc B).alloc R) X w1 → w1.cell? ⟨w.heap.size, 0, none⟩ = some a) ∧ (∀ w1, Reg ((w.alloc B).alloc R) X w1 → w1.cell? ⟨w.heap.size, 1, none⟩ = some b) ∧
    (∀ w1, Reg ((w.alloc B).alloc R) X w1 → w1.cell? ⟨w.heap.size, 2, none⟩ = some c) ∧ (∀ w1, Reg ((w.alloc B).alloc R) X w1 → w1.cell? ⟨w.heap.size, 3, none⟩ = some d) ∧
    (∀ w1, Reg ((w.alloc B).alloc R) X w1 → w1.cell? ⟨w.heap.size + 1, 0, none⟩ = some (valAt w1 (w.heap.size + 1) 0)) ∧ (∀ w1, Reg ((w.alloc B).alloc R) X w1 → w1.cell? ⟨w.heap.size + 1, 1, none⟩ = some (valAt w1 (w.heap.size + 1) 1)) ∧
    (∀ w1, Reg ((w.alloc B).alloc R) X w1 → w1.cell? ⟨w.heap.size + 1, 2, none⟩ = some (valAt w1 (w.heap.size + 1) 2)) ∧ (∀ w1, Reg ((w.alloc B).alloc R) X w1 → w1.cell? ⟨w.heap.size + 1, 3, none⟩ = some (valAt w1 (w.heap.size + 1) 3)) ∧
    (∀ w1 j, Reg ((w.alloc B).alloc R) X w1 → w1.frozen? ⟨w.heap.size + 1, j, none⟩ = false) := by
  refine ⟨_, _, fun k => k = w.heap.size + 1, rfl, rfl, rfl, (Reg.start (two_boxes4 w _ _ _ _ _ _)).drew, fun w1 hr => hr.low (below_two w _ _) (by intro k hk; omega) (by simp; omega), fun w1 hr => hr.cell (by simp) (by simp), fun w1 hr => hr.cell (by simp) (by simp), fun w1 hr => hr.cell (by simp) (by simp), fun w1 hr => hr.cell (by simp) (by simp),
    fun w1 hr => (hr.there (N := w.heap.size + 1) rfl).1, fun w1 hr => (hr.there (N := w.heap.size + 1) rfl).2.1, fun w1 hr => (hr.there (N := w.heap.size + 1) rfl).2.2.1, fun w1 hr => (hr.there (N := w.heap.size + 1) rfl).2.2.2, fun w1 j hr => hr.frozen (N := w.heap.size + 1) rfl j⟩

theorem under_kids : Try.prog.underlying 23 = some (.slice 3) := by kernel_rfl
theorem info_kid : (Try.prog.info? 3).map (fun i => (i.zero, i.size, i.bytes)) = some (some (.int .i64 0), 1, 8) := by kernel_rfl

theorem T9_strings (l : List (List UInt8)) : (l.map S).map Value.string = T9 l := by simp [T9]

theorem sclone_any {w : World} {v : Value} {l : List (List UInt8)} (h : Row w v (T9 l)) (hl : l.length ≤ 1000000) :
    Calls Try.prog 25 #[v] w fun e w' => ∃ v', e = .returned v' ∧ w'.ownsRow w.heap.size 9 1 v' l.length (T9 l) ∧ Below w.heap.size w w' := by
  obtain ⟨a, c, rfl, h1, h2, h0, h3⟩ := h
  rw [T9_length] at h1 ⊢
  rcases a with _ | x
  · have hc := h0 rfl
    have : l = [] := List.eq_nil_of_length_eq_zero (by omega)
    subst this
    refine (Try.slices_Clone_string_nil _ _ w).mono ?_
    rintro e w' ⟨rfl, rfl⟩
    exact ⟨_, rfl, World.ownsRow_nil _ _ _ _, Below.refl _ _⟩
  · by_cases hz : l = []
    · subst hz
      refine (Try.slices_Clone_string_zero x c w).mono ?_
      rintro e w' ⟨v', rfl, h, _, hb⟩
      exact ⟨_, rfl, h, hb⟩
    · have hp : 0 < l.length := List.length_pos_iff.2 hz
      obtain ⟨b, off, e, hlt, _⟩ := h3 0 _ (List.getElem?_eq_getElem (by rw [T9_length]; exact hp))
      cases e
      refine (Try.slices_Clone_string b off l.length c (l.map S) w (by simp) (by omega) ?_).mono ?_
      · intro j hj
        have hj' : j < l.length := by simpa using hj
        obtain ⟨b', off', e, _, hc⟩ := h3 j _ (List.getElem?_eq_getElem (by rw [T9_length]; exact hj'))
        cases e
        rw [hc]
        simp [T9, List.getD, hj']
      · rintro e w' ⟨v', rfl, h, _, hb⟩
        rw [List.take_of_length_le (by simp), T9_strings] at h
        exact ⟨_, rfl, h, hb⟩
theorem iclone_any {w : World} {v : Value} {l : List Int} (h : Row w v (I9 l)) (hl : l.length ≤ 1000000) :
    Calls Try.prog 79 #[v] w fun e w' => ∃ v', e = .returned v' ∧ w'.ownsRow w.heap.size 3 1 v' l.length (I9 l) ∧ Below w.heap.size w w' := by
  obtain ⟨a, c, rfl, h1, h2, h0, h3⟩ := h
  rw [I9_length] at h1 ⊢
  rcases a with _ | x
  · have hc := h0 rfl
    have : l = [] := List.eq_nil_of_length_eq_zero (by omega)
    subst this
    refine (Try.slices_Clone_int_nil _ _ w).mono ?_
    rintro e w' ⟨rfl, rfl⟩
    exact ⟨_, rfl, World.ownsRow_nil _ _ _ _, Below.refl _ _⟩
  · by_cases hz : l = []
    · subst hz
      refine (Try.slices_Clone_int_zero x c w).mono ?_
      rintro e w' ⟨v', rfl, h, _, hb⟩
      exact ⟨_, rfl, h, hb⟩
    · have hp : 0 < l.length := List.length_pos_iff.2 hz
      obtain ⟨b, off, e, hlt, _⟩ := h3 0 _ (List.getElem?_eq_getElem (by rw [I9_length]; exact hp))
      cases e
      refine (Try.slices_Clone_int b off l.length c l w (Nat.le_refl _) (by omega) ?_).mono ?_
      · intro j hj
        obtain ⟨b', off', e, _, hc⟩ := h3 j _ (List.getElem?_eq_getElem (by rw [I9_length]; exact hj))
        cases e
        rw [hc]
        simp [I9, List.getD, hj]
      · rintro e w' ⟨v', rfl, h, _, hb⟩
        rw [List.take_of_length_le (Nat.le_refl _)] at h
        exact ⟨_, rfl, h, hb⟩

/- A part of a row. -/
theorem Row.part {w : World} {a : Option Addr} {n c : Nat} {l : List Value} (h : Row w (.slice a n c) l) (i j : Nat) (hij : i ≤ j) (hj : j ≤ l.length) (a' : Option Addr) (ha : i < j → ∃ b off, a = some ⟨b, off, none⟩ ∧ a' = some ⟨b, off + i, none⟩) (hn : a' = none → c - i = 0) : Row w (.slice a' (j - i) (c - i)) ((l.take j).drop i) := by
  obtain ⟨a0, c0, e, h1, h2, h0, h3⟩ := h
  injection e with e1 e2 e3
  subst e1 e2 e3
  have hl : ((l.take j).drop i).length = j - i := by simp; omega
  refine ⟨a', c - i, by rw [hl], by rw [hl]; omega, by omega, hn, fun k u hu => ?_⟩
  rw [List.getElem?_drop, List.getElem?_take] at hu
  split at hu
  · obtain ⟨b, off, ea, hlt, hc⟩ := h3 (i + k) u hu
    obtain ⟨b', off', ea', rfl⟩ := ha (by omega)
    rw [ea] at ea'
    cases ea'
    exact ⟨b, off + i, rfl, hlt, by rw [Nat.add_assoc]; exact hc⟩
  · cases hu
end Go.Proofs.Ytochaiinofhdhaa
