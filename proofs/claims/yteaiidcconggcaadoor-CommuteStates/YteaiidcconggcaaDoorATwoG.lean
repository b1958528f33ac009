/- Two calls, each one's result laid into a new box, in any order: for results of any shape. -/
import Derived.Test.YteaiidcconggcaaDoorATwo
namespace Go.Proofs.YteaiidcconggcaaDoor
open Go.RowKit
set_option linter.unusedVariables false
set_option maxRecDepth 100000

/- The cells of a block, written one behind the other. -/
def putL (w : World) (q : Nat) : Nat → List Value → World
  | _, [] => w
  | k, v :: r => putL (w.setCell ⟨q, k, none⟩ v) q (k + 1) r
theorem putL_other {q j : Nat} (hj : j ≠ q) : ∀ (vs : List Value) (w : World) (k : Nat), (putL w q k vs).heap[j]? = w.heap[j]?
  | [], _, _ => rfl
  | v :: r, w, k => by
    show (putL (w.setCell ⟨q, k, none⟩ v) q (k + 1) r).heap[j]? = _
    rw [putL_other hj r, heap_setCell_other _ ⟨q, k, none⟩ j _ hj]
theorem putL_size {q : Nat} : ∀ (vs : List Value) (w : World) (k : Nat), (putL w q k vs).heap.size = w.heap.size
  | [], _, _ => rfl
  | v :: r, w, k => by
    show (putL (w.setCell ⟨q, k, none⟩ v) q (k + 1) r).heap.size = _
    rw [putL_size r]
    simp
theorem putL_rest {q : Nat} : ∀ (vs : List Value) (w : World) (k : Nat), (putL w q k vs).os = w.os ∧ (putL w q k vs).tape = w.tape ∧ (putL w q k vs).output = w.output
  | [], _, _ => ⟨rfl, rfl, rfl⟩
  | v :: r, w, k => putL_rest r (w.setCell ⟨q, k, none⟩ v) (k + 1)
theorem putL_cells {q : Nat} {t : TypeId} : ∀ (vs : List Value) (w : World) (k : Nat) (pre post : List Value), pre.length = k → post.length = vs.length → w.heap[q]? = some (.cells (pre ++ post).toArray t (0, 0)) → (putL w q k vs).heap[q]? = some (.cells (pre ++ vs).toArray t (0, 0))
  | [], w, k, pre, post, _, h2, h => by
    have : post = [] := List.eq_nil_of_length_eq_zero (by simpa using h2)
    subst this
    exact h
  | v :: r, w, k, pre, post, h1, h2, h => by
    match post, h2 with
    | p :: ps, h2 =>
      have hs := heap_setCell_same w q k _ _ v h
      have e : ((pre ++ p :: ps).toArray.setIfInBounds k v) = ((pre ++ [v]) ++ ps).toArray := by
        subst h1
        simp
      rw [e] at hs
      have := putL_cells r (w.setCell ⟨q, k, none⟩ v) (k + 1) (pre ++ [v]) ps (by simp [h1]) (by simpa using h2) hs
      rw [List.append_assoc] at this
      exact this
theorem putL_all {q : Nat} {t : TypeId} {w : World} {vs ys : List Value} (hl : ys.length = vs.length) (h : w.heap[q]? = some (.cells ys.toArray t (0, 0))) : (putL w q 0 vs).heap[q]? = some (.cells vs.toArray t (0, 0)) :=
  putL_cells vs w 0 [] ys rfl hl h

/- What a result is: a fact that stays behind whatever leaves its own block alone. -/
structure Res where
  F : Value → World → Prop
  own : Value → Option Nat
  cells : Value → List Value
  n : Nat
  len : ∀ v w, F v w → (cells v).length = n
  later : ∀ v w w', F v w → Below w.heap.size w w' → F v w'
  other : ∀ v w w' q, F v w → (∀ j, j ≠ q → w'.heap[j]? = w.heap[j]?) → own v ≠ some q → F v w'
  low : ∀ v w k, F v w → own v = some k → k < w.heap.size
/- A result of plain values: no memory is its own. -/
def Res.plain (v0 : Value) (cs : List Value) : Res := { F := fun v _ => v = v0, own := fun _ => none, cells := fun _ => cs, n := cs.length, len := fun _ _ _ => rfl, later := fun _ _ _ h _ => h, other := fun _ _ _ _ h _ _ => h, low := fun _ _ _ _ h => by cases h }
/- A state whose rows are the call's own, and of which something holds. -/
def stCells : Value → List Value
  | .agg a => a.toList
  | _ => []
def stOwn : Value → Option Nat
  | .agg a => (a.getD 2 undef).ownBlock
  | _ => none
def Res.state (P : VS → Prop) (base : Nat) (t : TypeId) : Res where
  F := fun v w => ∃ x ka kc, P x ∧ v = .agg #[.int .i64 x.kind, .int .i64 x.n, .slice ka x.rows.length kc] ∧ w.ownsRow base t 2 (.slice ka x.rows.length kc) x.rows.length (R9 x.rows)
  own := stOwn
  cells := stCells
  n := 3
  len := fun v w ⟨x, ka, kc, _, e, _⟩ => by subst e; rfl
  later := fun v w w' ⟨x, ka, kc, h1, e, h2⟩ hb => ⟨x, ka, kc, h1, e, ownsRow_below h2 hb⟩
  other := fun v w w' q ⟨x, ka, kc, h1, e, h2⟩ ho hq => ⟨x, ka, kc, h1, e, ownsRow_same h2 fun k hk => ho k fun e2 => by subst e e2; exact hq hk⟩
  low := fun v w k ⟨x, ka, kc, _, e, h2⟩ hk => by subst e; exact (h2.lt k hk).2

structure TwoG (W : World) (VA VB : Value) (A B : Res) (tA tB : TypeId) (l : Array Bool) (x0 x1 x2 x3 x4 x5 : Value) (w : World) : Prop where
  low : Below W.heap.size W w
  a0 : up l 0 → x0 = VA
  a2 : up l 2 → x2 = VB
  a1 : up l 1 → A.F x1 w
  a3 : up l 3 → B.F x3 w
  a4 : up l 4 → ∃ q, x4 = ptr q ∧ W.heap.size ≤ q ∧ ∃ ys, ys.length = A.n ∧ w.heap[q]? = some (.cells ys.toArray tA (0, 0)) ∧ (up l 6 → ys = A.cells x1)
  a5 : up l 5 → ∃ q, x5 = ptr q ∧ W.heap.size ≤ q ∧ ∃ ys, ys.length = B.n ∧ w.heap[q]? = some (.cells ys.toArray tB (0, 0)) ∧ (up l 7 → ys = B.cells x3)
  a45 : up l 4 → up l 5 → x4 ≠ x5
  a14 : up l 1 → up l 4 → ∀ q, x4 = ptr q → A.own x1 ≠ some q
  a15 : up l 1 → up l 5 → ∀ q, x5 = ptr q → A.own x1 ≠ some q
  a34 : up l 3 → up l 4 → ∀ q, x4 = ptr q → B.own x3 ≠ some q
  a35 : up l 3 → up l 5 → ∀ q, x5 = ptr q → B.own x3 ≠ some q
section
variable {W w w' : World} {VA VB x0 x1 x2 x3 x4 x5 : Value} {A B : Res} {tA tB : TypeId} {l : Array Bool}
theorem TwoG.start (n : Nat) (hb : Below W.heap.size W w) : TwoG W VA VB A B tA tB (Array.replicate n false) x0 x1 x2 x3 x4 x5 w := by
  constructor <;> first | exact hb | (intro h; exact absurd h (up_none _ _))
theorem TwoG.mono {i : Nat} (h : TwoG W VA VB A B tA tB l x0 x1 x2 x3 x4 x5 w) (h0 : i ≠ 0) (h1 : i ≠ 1) (h2 : i ≠ 2) (h3 : i ≠ 3) (h4 : i ≠ 4) (h5 : i ≠ 5) (h6 : i ≠ 6) (h7 : i ≠ 7) : TwoG W VA VB A B tA tB (l.setIfInBounds i true) x0 x1 x2 x3 x4 x5 w := by
  have u := fun j (hj : j ≠ i) (hu : up (l.setIfInBounds i true) j) => (up_set hu).resolve_left hj
  exact ⟨h.low, fun e => h.a0 (u 0 h0.symm e), fun e => h.a2 (u 2 h2.symm e), fun e => h.a1 (u 1 h1.symm e), fun e => h.a3 (u 3 h3.symm e),
    fun e => let ⟨q, e1, e2, ys, e3, e4, e5⟩ := h.a4 (u 4 h4.symm e); ⟨q, e1, e2, ys, e3, e4, fun f => e5 (u 6 h6.symm f)⟩,
    fun e => let ⟨q, e1, e2, ys, e3, e4, e5⟩ := h.a5 (u 5 h5.symm e); ⟨q, e1, e2, ys, e3, e4, fun f => e5 (u 7 h7.symm f)⟩,
    fun e f => h.a45 (u 4 h4.symm e) (u 5 h5.symm f), fun e f => h.a14 (u 1 h1.symm e) (u 4 h4.symm f), fun e f => h.a15 (u 1 h1.symm e) (u 5 h5.symm f), fun e f => h.a34 (u 3 h3.symm e) (u 4 h4.symm f), fun e f => h.a35 (u 3 h3.symm e) (u 5 h5.symm f)⟩
theorem TwoG.later (h : TwoG W VA VB A B tA tB l x0 x1 x2 x3 x4 x5 w) (hb : Below w.heap.size w w') : TwoG W VA VB A B tA tB l x0 x1 x2 x3 x4 x5 w' :=
  ⟨h.low.trans (hb.mono h.low.size), h.a0, h.a2, fun e => A.later _ _ _ (h.a1 e) hb, fun e => B.later _ _ _ (h.a3 e) hb,
    fun e => let ⟨q, e1, e2, ys, e3, e4, e5⟩ := h.a4 e; ⟨q, e1, e2, ys, e3, (hb.block q (block_lt e4)).trans e4, e5⟩,
    fun e => let ⟨q, e1, e2, ys, e3, e4, e5⟩ := h.a5 e; ⟨q, e1, e2, ys, e3, (hb.block q (block_lt e4)).trans e4, e5⟩, h.a45, h.a14, h.a15, h.a34, h.a35⟩
theorem TwoG.load0 (h : TwoG W VA VB A B tA tB l x0 x1 x2 x3 x4 x5 w) : TwoG W VA VB A B tA tB (l.setIfInBounds 0 true) VA x1 x2 x3 x4 x5 w := by
  have u := fun j (hj : j ≠ 0) (hu : up (l.setIfInBounds 0 true) j) => (up_set hu).resolve_left hj
  exact ⟨h.low, fun _ => rfl, fun e => h.a2 (u 2 (by decide) e), fun e => h.a1 (u 1 (by decide) e), fun e => h.a3 (u 3 (by decide) e),
    fun e => let ⟨q, e1, e2, ys, e3, e4, e5⟩ := h.a4 (u 4 (by decide) e); ⟨q, e1, e2, ys, e3, e4, fun f => e5 (u 6 (by decide) f)⟩,
    fun e => let ⟨q, e1, e2, ys, e3, e4, e5⟩ := h.a5 (u 5 (by decide) e); ⟨q, e1, e2, ys, e3, e4, fun f => e5 (u 7 (by decide) f)⟩,
    fun e f => h.a45 (u 4 (by decide) e) (u 5 (by decide) f), fun e f => h.a14 (u 1 (by decide) e) (u 4 (by decide) f), fun e f => h.a15 (u 1 (by decide) e) (u 5 (by decide) f), fun e f => h.a34 (u 3 (by decide) e) (u 4 (by decide) f), fun e f => h.a35 (u 3 (by decide) e) (u 5 (by decide) f)⟩
theorem TwoG.load2 (h : TwoG W VA VB A B tA tB l x0 x1 x2 x3 x4 x5 w) : TwoG W VA VB A B tA tB (l.setIfInBounds 2 true) x0 x1 VB x3 x4 x5 w := by
  have u := fun j (hj : j ≠ 2) (hu : up (l.setIfInBounds 2 true) j) => (up_set hu).resolve_left hj
  exact ⟨h.low, fun e => h.a0 (u 0 (by decide) e), fun _ => rfl, fun e => h.a1 (u 1 (by decide) e), fun e => h.a3 (u 3 (by decide) e),
    fun e => let ⟨q, e1, e2, ys, e3, e4, e5⟩ := h.a4 (u 4 (by decide) e); ⟨q, e1, e2, ys, e3, e4, fun f => e5 (u 6 (by decide) f)⟩,
    fun e => let ⟨q, e1, e2, ys, e3, e4, e5⟩ := h.a5 (u 5 (by decide) e); ⟨q, e1, e2, ys, e3, e4, fun f => e5 (u 7 (by decide) f)⟩,
    fun e f => h.a45 (u 4 (by decide) e) (u 5 (by decide) f), fun e f => h.a14 (u 1 (by decide) e) (u 4 (by decide) f), fun e f => h.a15 (u 1 (by decide) e) (u 5 (by decide) f), fun e f => h.a34 (u 3 (by decide) e) (u 4 (by decide) f), fun e f => h.a35 (u 3 (by decide) e) (u 5 (by decide) f)⟩
theorem TwoG.call1 (h : TwoG W VA VB A B tA tB l x0 x1 x2 x3 x4 x5 w) (h6 : ¬ up l 6) (hb : Below w.heap.size w w') {v : Value} (hF : A.F v w') (hnew : ∀ k, A.own v = some k → w.heap.size ≤ k) : TwoG W VA VB A B tA tB (l.setIfInBounds 1 true) x0 v x2 x3 x4 x5 w' := by
  have h2 := h.later hb
  have u := fun j (hj : j ≠ 1) (hu : up (l.setIfInBounds 1 true) j) => (up_set hu).resolve_left hj
  refine ⟨h2.low, fun e => h2.a0 (u 0 (by decide) e), fun e => h2.a2 (u 2 (by decide) e), fun _ => hF, fun e => h2.a3 (u 3 (by decide) e),
    fun e => let ⟨q, e1, e2, ys, e3, e4, e5⟩ := h2.a4 (u 4 (by decide) e); ⟨q, e1, e2, ys, e3, e4, fun f => absurd (u 6 (by decide) f) h6⟩,
    fun e => let ⟨q, e1, e2, ys, e3, e4, e5⟩ := h2.a5 (u 5 (by decide) e); ⟨q, e1, e2, ys, e3, e4, fun f => e5 (u 7 (by decide) f)⟩,
    fun e f => h2.a45 (u 4 (by decide) e) (u 5 (by decide) f), fun _ f q e1 e2 => ?_, fun _ f q e1 e2 => ?_, fun e f => h2.a34 (u 3 (by decide) e) (u 4 (by decide) f), fun e f => h2.a35 (u 3 (by decide) e) (u 5 (by decide) f)⟩
  · obtain ⟨q', g1, _, ys, _, g3, _⟩ := h.a4 (u 4 (by decide) f)
    have hq := ptr_inj (g1.symm.trans e1)
    subst hq
    have := block_lt g3
    have := hnew _ e2
    omega
  · obtain ⟨q', g1, _, ys, _, g3, _⟩ := h.a5 (u 5 (by decide) f)
    have hq := ptr_inj (g1.symm.trans e1)
    subst hq
    have := block_lt g3
    have := hnew _ e2
    omega
theorem TwoG.call3 (h : TwoG W VA VB A B tA tB l x0 x1 x2 x3 x4 x5 w) (h7 : ¬ up l 7) (hb : Below w.heap.size w w') {v : Value} (hF : B.F v w') (hnew : ∀ k, B.own v = some k → w.heap.size ≤ k) : TwoG W VA VB A B tA tB (l.setIfInBounds 3 true) x0 x1 x2 v x4 x5 w' := by
  have h2 := h.later hb
  have u := fun j (hj : j ≠ 3) (hu : up (l.setIfInBounds 3 true) j) => (up_set hu).resolve_left hj
  refine ⟨h2.low, fun e => h2.a0 (u 0 (by decide) e), fun e => h2.a2 (u 2 (by decide) e), fun e => h2.a1 (u 1 (by decide) e), fun _ => hF,
    fun e => let ⟨q, e1, e2, ys, e3, e4, e5⟩ := h2.a4 (u 4 (by decide) e); ⟨q, e1, e2, ys, e3, e4, fun f => e5 (u 6 (by decide) f)⟩,
    fun e => let ⟨q, e1, e2, ys, e3, e4, e5⟩ := h2.a5 (u 5 (by decide) e); ⟨q, e1, e2, ys, e3, e4, fun f => absurd (u 7 (by decide) f) h7⟩,
    fun e f => h2.a45 (u 4 (by decide) e) (u 5 (by decide) f), fun e f => h2.a14 (u 1 (by decide) e) (u 4 (by decide) f), fun e f => h2.a15 (u 1 (by decide) e) (u 5 (by decide) f), fun _ f q e1 e2 => ?_, fun _ f q e1 e2 => ?_⟩
  · obtain ⟨q', g1, _, ys, _, g3, _⟩ := h.a4 (u 4 (by decide) f)
    have hq := ptr_inj (g1.symm.trans e1)
    subst hq
    have := block_lt g3
    have := hnew _ e2
    omega
  · obtain ⟨q', g1, _, ys, _, g3, _⟩ := h.a5 (u 5 (by decide) f)
    have hq := ptr_inj (g1.symm.trans e1)
    subst hq
    have := block_lt g3
    have := hnew _ e2
    omega
theorem TwoG.box4 (h : TwoG W VA VB A B tA tB l x0 x1 x2 x3 x4 x5 w) (h6 : ¬ up l 6) (ys : List Value) (hy : ys.length = A.n) : TwoG W VA VB A B tA tB (l.setIfInBounds 4 true) x0 x1 x2 x3 (ptr w.heap.size) x5 (w.alloc (.cells ys.toArray tA)) := by
  have h2 := h.later (under_box (.cells ys.toArray tA))
  have u := fun j (hj : j ≠ 4) (hu : up (l.setIfInBounds 4 true) j) => (up_set hu).resolve_left hj
  refine ⟨h2.low, fun e => h2.a0 (u 0 (by decide) e), fun e => h2.a2 (u 2 (by decide) e), fun e => h2.a1 (u 1 (by decide) e), fun e => h2.a3 (u 3 (by decide) e),
    fun _ => ⟨_, rfl, h.low.size, ys, hy, heap_alloc_new w _, fun f => absurd (u 6 (by decide) f) h6⟩,
    fun e => let ⟨q, e1, e2, ys, e3, e4, e5⟩ := h2.a5 (u 5 (by decide) e); ⟨q, e1, e2, ys, e3, e4, fun f => e5 (u 7 (by decide) f)⟩,
    fun _ f e => ?_, fun e _ q e1 e2 => ?_, fun e f => h2.a15 (u 1 (by decide) e) (u 5 (by decide) f), fun e _ q e1 e2 => ?_, fun e f => h2.a35 (u 3 (by decide) e) (u 5 (by decide) f)⟩
  · obtain ⟨q, g1, _, zs, _, g3, _⟩ := h.a5 (u 5 (by decide) f)
    have hq := ptr_inj (e.trans g1)
    have := block_lt g3
    omega
  · have h1 := A.low _ _ _ (h.a1 (u 1 (by decide) e)) e2
    have := ptr_inj e1
    omega
  · have h1 := B.low _ _ _ (h.a3 (u 3 (by decide) e)) e2
    have := ptr_inj e1
    omega
theorem TwoG.box5 (h : TwoG W VA VB A B tA tB l x0 x1 x2 x3 x4 x5 w) (h7 : ¬ up l 7) (ys : List Value) (hy : ys.length = B.n) : TwoG W VA VB A B tA tB (l.setIfInBounds 5 true) x0 x1 x2 x3 x4 (ptr w.heap.size) (w.alloc (.cells ys.toArray tB)) := by
  have h2 := h.later (under_box (.cells ys.toArray tB))
  have u := fun j (hj : j ≠ 5) (hu : up (l.setIfInBounds 5 true) j) => (up_set hu).resolve_left hj
  refine ⟨h2.low, fun e => h2.a0 (u 0 (by decide) e), fun e => h2.a2 (u 2 (by decide) e), fun e => h2.a1 (u 1 (by decide) e), fun e => h2.a3 (u 3 (by decide) e),
    fun e => let ⟨q, e1, e2, ys, e3, e4, e5⟩ := h2.a4 (u 4 (by decide) e); ⟨q, e1, e2, ys, e3, e4, fun f => e5 (u 6 (by decide) f)⟩,
    fun _ => ⟨_, rfl, h.low.size, ys, hy, heap_alloc_new w _, fun f => absurd (u 7 (by decide) f) h7⟩,
    fun e _ f => ?_, fun e f => h2.a14 (u 1 (by decide) e) (u 4 (by decide) f), fun e _ q e1 e2 => ?_, fun e f => h2.a34 (u 3 (by decide) e) (u 4 (by decide) f), fun e _ q e1 e2 => ?_⟩
  · obtain ⟨q, g1, _, zs, _, g3, _⟩ := h.a4 (u 4 (by decide) e)
    have hq := ptr_inj (g1.symm.trans f)
    have := block_lt g3
    omega
  · have h1 := A.low _ _ _ (h.a1 (u 1 (by decide) e)) e2
    have := ptr_inj e1
    omega
  · have h1 := B.low _ _ _ (h.a3 (u 3 (by decide) e)) e2
    have := ptr_inj e1
    omega
theorem TwoG.store6 (h : TwoG W VA VB A B tA tB l x0 x1 x2 x3 x4 x5 w) (h1 : up l 1) (h4 : up l 4) :
    ∃ (q : Nat) (ys : List Value), x4 = ptr q ∧ ys.length = A.n ∧ w.heap[q]? = some (.cells ys.toArray tA (0, 0)) ∧ A.F x1 w ∧ TwoG W VA VB A B tA tB (l.setIfInBounds 6 true) x0 x1 x2 x3 x4 x5 (putL w q 0 (A.cells x1)) := by
  obtain ⟨q, g1, g2, ys, g3, g4, g5⟩ := h.a4 h4
  have hF := h.a1 h1
  have u := fun j (hj : j ≠ 6) (hu : up (l.setIfInBounds 6 true) j) => (up_set hu).resolve_left hj
  have hlen := A.len _ _ hF
  have ho : ∀ j, j ≠ q → (putL w q 0 (A.cells x1)).heap[j]? = w.heap[j]? := fun j hj => putL_other hj _ _ _
  obtain ⟨r1, r2, r3⟩ := putL_rest (q := q) (A.cells x1) w 0
  refine ⟨q, ys, g1, g3, g4, hF, ⟨r1.trans h.low.os, r2.trans h.low.tape, r3.trans h.low.output, by rw [putL_size]; exact h.low.size, fun k hk => by rw [ho k (by omega)]; exact h.low.block k hk⟩,
    fun e => h.a0 (u 0 (by decide) e), fun e => h.a2 (u 2 (by decide) e), fun e => A.other _ _ _ q hF ho (h.a14 h1 h4 q g1), fun e => B.other _ _ _ q (h.a3 (u 3 (by decide) e)) ho (h.a34 (u 3 (by decide) e) h4 q g1),
    fun e => ⟨q, g1, g2, A.cells x1, hlen, putL_all (by rw [g3, hlen]) g4, fun _ => rfl⟩, fun e => ?_, fun e f => h.a45 (u 4 (by decide) e) (u 5 (by decide) f), fun e f => h.a14 (u 1 (by decide) e) (u 4 (by decide) f), fun e f => h.a15 (u 1 (by decide) e) (u 5 (by decide) f), fun e f => h.a34 (u 3 (by decide) e) (u 4 (by decide) f), fun e f => h.a35 (u 3 (by decide) e) (u 5 (by decide) f)⟩
  obtain ⟨p, p1, p2, zs, p3, p4, p5⟩ := h.a5 (u 5 (by decide) e)
  have hpq : p ≠ q := fun e2 => h.a45 h4 (u 5 (by decide) e) (by rw [g1, p1, e2])
  exact ⟨p, p1, p2, zs, p3, by rw [ho p hpq]; exact p4, fun f => p5 (u 7 (by decide) f)⟩
theorem TwoG.store7 (h : TwoG W VA VB A B tA tB l x0 x1 x2 x3 x4 x5 w) (h3 : up l 3) (h5 : up l 5) :
    ∃ (q : Nat) (ys : List Value), x5 = ptr q ∧ ys.length = B.n ∧ w.heap[q]? = some (.cells ys.toArray tB (0, 0)) ∧ B.F x3 w ∧ TwoG W VA VB A B tA tB (l.setIfInBounds 7 true) x0 x1 x2 x3 x4 x5 (putL w q 0 (B.cells x3)) := by
  obtain ⟨q, g1, g2, ys, g3, g4, g5⟩ := h.a5 h5
  have hF := h.a3 h3
  have u := fun j (hj : j ≠ 7) (hu : up (l.setIfInBounds 7 true) j) => (up_set hu).resolve_left hj
  have hlen := B.len _ _ hF
  have ho : ∀ j, j ≠ q → (putL w q 0 (B.cells x3)).heap[j]? = w.heap[j]? := fun j hj => putL_other hj _ _ _
  obtain ⟨r1, r2, r3⟩ := putL_rest (q := q) (B.cells x3) w 0
  refine ⟨q, ys, g1, g3, g4, hF, ⟨r1.trans h.low.os, r2.trans h.low.tape, r3.trans h.low.output, by rw [putL_size]; exact h.low.size, fun k hk => by rw [ho k (by omega)]; exact h.low.block k hk⟩,
    fun e => h.a0 (u 0 (by decide) e), fun e => h.a2 (u 2 (by decide) e), fun e => A.other _ _ _ q (h.a1 (u 1 (by decide) e)) ho (h.a15 (u 1 (by decide) e) h5 q g1), fun e => B.other _ _ _ q hF ho (h.a35 h3 h5 q g1),
    fun e => ?_, fun e => ⟨q, g1, g2, B.cells x3, hlen, putL_all (by rw [g3, hlen]) g4, fun _ => rfl⟩, fun e f => h.a45 (u 4 (by decide) e) (u 5 (by decide) f), fun e f => h.a14 (u 1 (by decide) e) (u 4 (by decide) f), fun e f => h.a15 (u 1 (by decide) e) (u 5 (by decide) f), fun e f => h.a34 (u 3 (by decide) e) (u 4 (by decide) f), fun e f => h.a35 (u 3 (by decide) e) (u 5 (by decide) f)⟩
  obtain ⟨p, p1, p2, zs, p3, p4, p5⟩ := h.a4 (u 4 (by decide) e)
  have hpq : p ≠ q := fun e2 => h.a45 (u 4 (by decide) e) h5 (by rw [g1, p1, e2])
  exact ⟨p, p1, p2, zs, p3, by rw [ho p hpq]; exact p4, fun f => p5 (u 6 (by decide) f)⟩
end
/- The region, by what each of its eight operations does. -/
theorem twoG_T {P : Program} {ops : Array Oper} {id : Nat} {Q : Exit → Act → World → Prop} {W : World} {T : Array Value} {D : List Deferred} (s0 s1 s2 s3 s4 s5 : Nat)
    (VA VB : Value) (A B : Res) (tA tB : TypeId) (hm : P.follows .mixedOrders = true) (hsz : ops.size = 8)
    (hlow : ∀ i : Nat, i < ops.size → (ops[i]?.map fun o => o.after.all fun e => decide (e.on < i)) = some true)
    (hd1 : (ops[1]?.map fun o => o.after.any fun e => (e.on == 0) && Region.binds .any e) = some true)
    (hd3 : (ops[3]?.map fun o => o.after.any fun e => (e.on == 2) && Region.binds .any e) = some true)
    (hd61 : (ops[6]?.map fun o => o.after.any fun e => (e.on == 1) && Region.binds .any e) = some true)
    (hd64 : (ops[6]?.map fun o => o.after.any fun e => (e.on == 4) && Region.binds .any e) = some true)
    (hd73 : (ops[7]?.map fun o => o.after.any fun e => (e.on == 3) && Region.binds .any e) = some true)
    (hd75 : (ops[7]?.map fun o => o.after.any fun e => (e.on == 5) && Region.binds .any e) = some true)
    (H0 : ∀ x0 x1 x2 x3 x4 x5 w K, Below W.heap.size W w → K ⟨set6 T s0 s1 s2 s3 s4 s5 VA x1 x2 x3 x4 x5, D⟩ w → wpOp P ops Q 0 K ⟨set6 T s0 s1 s2 s3 s4 s5 x0 x1 x2 x3 x4 x5, D⟩ w)
    (H1 : ∀ x1 x2 x3 x4 x5 w K, Below W.heap.size W w → (∀ w' v, Below w.heap.size w w' → A.F v w' → (∀ k, A.own v = some k → w.heap.size ≤ k) → K ⟨set6 T s0 s1 s2 s3 s4 s5 VA v x2 x3 x4 x5, D⟩ w') → wpOp P ops Q 1 K ⟨set6 T s0 s1 s2 s3 s4 s5 VA x1 x2 x3 x4 x5, D⟩ w)
    (H2 : ∀ x0 x1 x2 x3 x4 x5 w K, Below W.heap.size W w → K ⟨set6 T s0 s1 s2 s3 s4 s5 x0 x1 VB x3 x4 x5, D⟩ w → wpOp P ops Q 2 K ⟨set6 T s0 s1 s2 s3 s4 s5 x0 x1 x2 x3 x4 x5, D⟩ w)
    (H3 : ∀ x0 x1 x3 x4 x5 w K, Below W.heap.size W w → (∀ w' v, Below w.heap.size w w' → B.F v w' → (∀ k, B.own v = some k → w.heap.size ≤ k) → K ⟨set6 T s0 s1 s2 s3 s4 s5 x0 x1 VB v x4 x5, D⟩ w') → wpOp P ops Q 3 K ⟨set6 T s0 s1 s2 s3 s4 s5 x0 x1 VB x3 x4 x5, D⟩ w)
    (H4 : ∀ x0 x1 x2 x3 x4 x5 w K, ∃ ys : List Value, ys.length = A.n ∧ (K ⟨set6 T s0 s1 s2 s3 s4 s5 x0 x1 x2 x3 (ptr w.heap.size) x5, D⟩ (w.alloc (.cells ys.toArray tA)) → wpOp P ops Q 4 K ⟨set6 T s0 s1 s2 s3 s4 s5 x0 x1 x2 x3 x4 x5, D⟩ w))
    (H5 : ∀ x0 x1 x2 x3 x4 x5 w K, ∃ ys : List Value, ys.length = B.n ∧ (K ⟨set6 T s0 s1 s2 s3 s4 s5 x0 x1 x2 x3 x4 (ptr w.heap.size), D⟩ (w.alloc (.cells ys.toArray tB)) → wpOp P ops Q 5 K ⟨set6 T s0 s1 s2 s3 s4 s5 x0 x1 x2 x3 x4 x5, D⟩ w))
    (H6 : ∀ x0 x1 x2 x3 x5 w K q (ys : List Value), A.F x1 w → ys.length = A.n → w.heap[q]? = some (.cells ys.toArray tA (0, 0)) → K ⟨set6 T s0 s1 s2 s3 s4 s5 x0 x1 x2 x3 (ptr q) x5, D⟩ (putL w q 0 (A.cells x1)) → wpOp P ops Q 6 K ⟨set6 T s0 s1 s2 s3 s4 s5 x0 x1 x2 x3 (ptr q) x5, D⟩ w)
    (H7 : ∀ x0 x1 x2 x3 x4 w K q (ys : List Value), B.F x3 w → ys.length = B.n → w.heap[q]? = some (.cells ys.toArray tB (0, 0)) → K ⟨set6 T s0 s1 s2 s3 s4 s5 x0 x1 x2 x3 x4 (ptr q), D⟩ (putL w q 0 (B.cells x3)) → wpOp P ops Q 7 K ⟨set6 T s0 s1 s2 s3 s4 s5 x0 x1 x2 x3 x4 (ptr q), D⟩ w)
    (hend : ∀ w x1 x3 qA qB, Below W.heap.size W w → W.heap.size ≤ qA → W.heap.size ≤ qB → qA ≠ qB → A.F x1 w → B.F x3 w → w.heap[qA]? = some (.cells (A.cells x1).toArray tA (0, 0)) → w.heap[qB]? = some (.cells (B.cells x3).toArray tB (0, 0)) → A.own x1 ≠ some qA → A.own x1 ≠ some qB → B.own x3 ≠ some qA → B.own x3 ≠ some qB →
      Q .normal ⟨set6 T s0 s1 s2 s3 s4 s5 VA x1 VB x3 (ptr qA) (ptr qB), D⟩ w) :
    (Code.region id ops true).wp P Q ⟨T, D⟩ W := by
  refine wp_region_inv (fun l a w => ∃ x0 x1 x2 x3 x4 x5, a = ⟨set6 T s0 s1 s2 s3 s4 s5 x0 x1 x2 x3 x4 x5, D⟩ ∧ (up l 6 → up l 1 ∧ up l 4) ∧ (up l 7 → up l 3 ∧ up l 5) ∧ TwoG W VA VB A B tA tB l x0 x1 x2 x3 x4 x5 w) hm ?_ ?_ ?_
  · exact ⟨T.getD s0 undef, T.getD s1 undef, T.getD s2 undef, T.getD s3 undef, T.getD s4 undef, T.getD s5 undef, by rw [set6_own], fun h => absurd h (up_none _ _), fun h => absurd h (up_none _ _), TwoG.start _ (Below.refl _ _).drew⟩
  · intro l a w hs hI i hi
    obtain ⟨x0, x1, x2, x3, x4, x5, rfl, h6, h7, ht⟩ := hI
    have hni := ready_not hs hi
    have hi8 : i < 8 := by
      obtain ⟨_, o, ho, _⟩ := mem_ready.1 hi
      have := (Array.getElem?_eq_some_iff.1 ho).1
      omega
    have g6 (hne : i ≠ 6) : up (l.setIfInBounds i true) 6 → up (l.setIfInBounds i true) 1 ∧ up (l.setIfInBounds i true) 4 := fun h => by
      have := h6 ((up_set h).resolve_left (fun e => hne e.symm))
      exact ⟨up_on this.1, up_on this.2⟩
    have g7 (hne : i ≠ 7) : up (l.setIfInBounds i true) 7 → up (l.setIfInBounds i true) 3 ∧ up (l.setIfInBounds i true) 5 := fun h => by
      have := h7 ((up_set h).resolve_left (fun e => hne e.symm))
      exact ⟨up_on this.1, up_on this.2⟩
    have hc : i = 0 ∨ i = 1 ∨ i = 2 ∨ i = 3 ∨ i = 4 ∨ i = 5 ∨ i = 6 ∨ i = 7 := by omega
    rcases hc with rfl | rfl | rfl | rfl | rfl | rfl | rfl | rfl
    · exact H0 _ _ _ _ _ _ _ _ ht.low ⟨_, _, _, _, _, _, rfl, g6 (by decide), g7 (by decide), ht.load0⟩
    · have e0 := ht.a0 (ready_up hi hd1)
      subst e0
      exact H1 _ _ _ _ _ _ _ ht.low fun w' v hb hF hn => ⟨_, _, _, _, _, _, rfl, g6 (by decide), g7 (by decide), ht.call1 (fun h => hni (h6 h).1) hb hF hn⟩
    · exact H2 _ _ _ _ _ _ _ _ ht.low ⟨_, _, _, _, _, _, rfl, g6 (by decide), g7 (by decide), ht.load2⟩
    · have e0 := ht.a2 (ready_up hi hd3)
      subst e0
      exact H3 _ _ _ _ _ _ _ ht.low fun w' v hb hF hn => ⟨_, _, _, _, _, _, rfl, g6 (by decide), g7 (by decide), ht.call3 (fun h => hni (h7 h).1) hb hF hn⟩
    · obtain ⟨ys, hy, hK⟩ := H4 x0 x1 x2 x3 x4 x5 w (fun a w => ∃ x0 x1 x2 x3 x4 x5, a = ⟨set6 T s0 s1 s2 s3 s4 s5 x0 x1 x2 x3 x4 x5, D⟩ ∧ (up (l.setIfInBounds 4 true) 6 → up (l.setIfInBounds 4 true) 1 ∧ up (l.setIfInBounds 4 true) 4) ∧ (up (l.setIfInBounds 4 true) 7 → up (l.setIfInBounds 4 true) 3 ∧ up (l.setIfInBounds 4 true) 5) ∧ TwoG W VA VB A B tA tB (l.setIfInBounds 4 true) x0 x1 x2 x3 x4 x5 w)
      exact hK ⟨_, _, _, _, _, _, rfl, g6 (by decide), g7 (by decide), ht.box4 (fun h => hni (h6 h).2) ys hy⟩
    · obtain ⟨ys, hy, hK⟩ := H5 x0 x1 x2 x3 x4 x5 w (fun a w => ∃ x0 x1 x2 x3 x4 x5, a = ⟨set6 T s0 s1 s2 s3 s4 s5 x0 x1 x2 x3 x4 x5, D⟩ ∧ (up (l.setIfInBounds 5 true) 6 → up (l.setIfInBounds 5 true) 1 ∧ up (l.setIfInBounds 5 true) 4) ∧ (up (l.setIfInBounds 5 true) 7 → up (l.setIfInBounds 5 true) 3 ∧ up (l.setIfInBounds 5 true) 5) ∧ TwoG W VA VB A B tA tB (l.setIfInBounds 5 true) x0 x1 x2 x3 x4 x5 w)
      exact hK ⟨_, _, _, _, _, _, rfl, g6 (by decide), g7 (by decide), ht.box5 (fun h => hni (h7 h).2) ys hy⟩
    · have hu1 := ready_up hi hd61
      have hu4 := ready_up hi hd64
      obtain ⟨q, ys, rfl, hy, hb, hF, ht2⟩ := ht.store6 hu1 hu4
      exact H6 _ _ _ _ _ _ _ _ _ hF hy hb ⟨_, _, _, _, _, _, rfl, fun _ => ⟨up_on hu1, up_on hu4⟩, g7 (by decide), ht2⟩
    · have hu3 := ready_up hi hd73
      have hu5 := ready_up hi hd75
      obtain ⟨q, ys, rfl, hy, hb, hF, ht2⟩ := ht.store7 hu3 hu5
      exact H7 _ _ _ _ _ _ _ _ _ hF hy hb ⟨_, _, _, _, _, _, rfl, g6 (by decide), fun _ => ⟨up_on hu3, up_on hu5⟩, ht2⟩
  · intro l a w hs hI hr
    obtain ⟨x0, x1, x2, x3, x4, x5, rfl, _, _, ht⟩ := hI
    have hu := ready_end hs hlow hr
    rw [hsz] at hu
    have e0 := ht.a0 (hu 0 (by decide))
    have e2 := ht.a2 (hu 2 (by decide))
    obtain ⟨qA, e4, g4, ys, hy, b4, f4⟩ := ht.a4 (hu 4 (by decide))
    obtain ⟨qB, e5, g5, zs, hz, b5, f5⟩ := ht.a5 (hu 5 (by decide))
    have hne : qA ≠ qB := fun e => ht.a45 (hu 4 (by decide)) (hu 5 (by decide)) (by rw [e4, e5, e])
    have hF1 := ht.a1 (hu 1 (by decide))
    have hF3 := ht.a3 (hu 3 (by decide))
    have o1 := ht.a14 (hu 1 (by decide)) (hu 4 (by decide)) qA e4
    have o2 := ht.a15 (hu 1 (by decide)) (hu 5 (by decide)) qB e5
    have o3 := ht.a34 (hu 3 (by decide)) (hu 4 (by decide)) qA e4
    have o4 := ht.a35 (hu 3 (by decide)) (hu 5 (by decide)) qB e5
    rw [f4 (hu 6 (by decide))] at b4
    rw [f5 (hu 7 (by decide))] at b5
    subst e0 e2 e4 e5
    exact hend _ _ _ _ _ ht.low g4 g5 hne hF1 hF3 b4 b5 o1 o2 o3 o4
end Go.Proofs.YteaiidcconggcaaDoor
