/- Texts that this proof needs, one behind the other: ATwoG, ARegN. -/
import Derived.Test.YteaiidcconggcaaDoorBundleA8
/- Two calls, each one's result laid into a new box, in any order: for results of any shape. -/
namespace Go.Proofs.YteaiidcconggcaaDoor
open Go.RowKit
set_option linter.unusedVariables false
set_option maxRecDepth 100000

/- The cells of a block, written one behind the other. -/
def putL (w : World) (q : Nat) : Nat → List Value → World
  | _, [] => w
  | k, v :: r => putL (w.setCell ⟨q, k, none⟩ v) q (k + 1) r
theorem putL_other {q j : Nat} (hj : j ≠ q) : ∀ (vs : List Value) (w : World) (k : Nat), (putL w q k vs).heap[j]? = w.heap[j]?
  | [], _, _ => rfl
  | v :: r, w, k => by
    show (putL (w.setCell ⟨q, k, none⟩ v) q (k + 1) r).heap[j]? = _
    rw [putL_other hj r, heap_setCell_other _ ⟨q, k, none⟩ j _ hj]
theorem putL_size {q : Nat} : ∀ (vs : List Value) (w : World) (k : Nat), (putL w q k vs).heap.size = w.heap.size
  | [], _, _ => rfl
  | v :: r, w, k => by
    show (putL (w.setCell ⟨q, k, none⟩ v) q (k + 1) r).heap.size = _
    rw [putL_size r]
    simp
theorem putL_rest {q : Nat} : ∀ (vs : List Value) (w : World) (k : Nat), (putL w q k vs).os = w.os ∧ (putL w q k vs).tape = w.tape ∧ (putL w q k vs).output = w.output
  | [], _, _ => ⟨rfl, rfl, rfl⟩
  | v :: r, w, k => putL_rest r (w.setCell ⟨q, k, none⟩ v) (k + 1)
theorem putL_cells {q : Nat} {t : TypeId} : ∀ (vs : List Value) (w : World) (k : Nat) (pre post : List Value), pre.length = k → post.length = vs.length → w.heap[q]? = some (.cells (pre ++ post).toArray t (0, 0)) → (putL w q k vs).heap[q]? = some (.cells (pre ++ vs).toArray t (0, 0))
  | [], w, k, pre, post, _, h2, h => by
    have : post = [] := List.eq_nil_of_length_eq_zero (by simpa using h2)
    subst this
    exact h
  | v :: r, w, k, pre, post, h1, h2, h => by
    match post, h2 with
    | p :: ps, h2 =>
      have hs := heap_setCell_same w q k _ _ v h
      have e : ((pre ++ p :: ps).toArray.setIfInBounds k v) = ((pre ++ [v]) ++ ps).toArray := by
        subst h1
        simp
      rw [e] at hs
      have := putL_cells r (w.setCell ⟨q, k, none⟩ v) (k + 1) (pre ++ [v]) ps (by simp [h1]) (by simpa using h2) hs
      rw [List.append_assoc] at this
      exact this
theorem putL_all {q : Nat} {t : TypeId} {w : World} {vs ys : List Value} (hl : ys.length = vs.length) (h : w.heap[q]? = some (.cells ys.toArray t (0, 0))) : (putL w q 0 vs).heap[q]? = some (.cells vs.toArray t (0, 0)) :=
  putL_cells vs w 0 [] ys rfl hl h

/- What a result is: a fact that stays behind whatever leaves its own block alone. -/
structure Res where
  F : Value → World → Prop
  own : Value → Option Nat
  cells : Value → List Value
  n : Nat
  len : ∀ v w, F v w → (cells v).length = n
  later : ∀ v w w', F v w → Below w.heap.size w w' → F v w'
  other : ∀ v w w' q, F v w → (∀ j, j ≠ q → w'.heap[j]? = w.heap[j]?) → own v ≠ some q → F v w'
  low : ∀ v w k, F v w → own v = some k → k < w.heap.size
/- A result of plain values: no memory is its own. -/
def Res.plain (v0 : Value) (cs : List Value) : Res := { F := fun v _ => v = v0, own := fun _ => none, cells := fun _ => cs, n := cs.length, len := fun _ _ _ => rfl, later := fun _ _ _ h _ => h, other := fun _ _ _ _ h _ _ => h, low := fun _ _ _ _ h => by cases h }
/- A state whose rows are the call's own, and of which something holds. -/
def stCells : Value → List Value
  | .agg a => a.toList
  | _ => []
def stOwn : Value → Option Nat
  | .agg a => (a.getD 2 undef).ownBlock
  | _ => none
def Res.state (P : VS → Prop) (base : Nat) (t : TypeId) : Res where
  F := fun v w => ∃ x ka kc, P x ∧ v = .agg #[.int .i64 x.kind, .int .i64 x.n, .slice ka x.rows.length kc] ∧ w.ownsRow base t 2 (.slice ka x.rows.length kc) x.rows.length (R9 x.rows)
  own := stOwn
  cells := stCells
  n := 3
  len := fun v w ⟨x, ka, kc, _, e, _⟩ => by subst e; rfl
  later := fun v w w' ⟨x, ka, kc, h1, e, h2⟩ hb => ⟨x, ka, kc, h1, e, ownsRow_below h2 hb⟩
  other := fun v w w' q ⟨x, ka, kc, h1, e, h2⟩ ho hq => ⟨x, ka, kc, h1, e, ownsRow_same h2 fun k hk => ho k fun e2 => by subst e e2; exact hq hk⟩
  low := fun v w k ⟨x, ka, kc, _, e, h2⟩ hk => by subst e; exact (h2.lt k hk).2

structure TwoG (W : World) (VA VB : Value) (A B : Res) (tA tB : TypeId) (l : Array Bool) (x0 x1 x2 x3 x4 x5 : Value) (w : World) : Prop where
  low : Below W.heap.size W w
  a0 : up l 0 → x0 = VA
  a2 : up l 2 → x2 = VB
  a1 : up l 1 → A.F x1 w
  a3 : up l 3 → B.F x3 w
  a4 : up l 4 → ∃ q, x4 = ptr q ∧ W.heap.size ≤ q ∧ ∃ ys, ys.length = A.n ∧ w.heap[q]? = some (.cells ys.toArray tA (0, 0)) ∧ (up l 6 → ys = A.cells x1)
  a5 : up l 5 → ∃ q, x5 = ptr q ∧ W.heap.size ≤ q ∧ ∃ ys, ys.length = B.n ∧ w.heap[q]? = some (.cells ys.toArray tB (0, 0)) ∧ (up l 7 → ys = B.cells x3)
  a45 : up l 4 → up l 5 → x4 ≠ x5
  a14 : up l 1 → up l 4 → ∀ q, x4 = ptr q → A.own x1 ≠ some q
  a15 : up l 1 → up l 5 → ∀ q, x5 = ptr q → A.own x1 ≠ some q
  a34 : up l 3 → up l 4 → ∀ q, x4 = ptr q → B.own x3 ≠ some q
  a35 : up l 3 → up l 5 → ∀ q, x5 = ptr q → B.own x3 ≠ some q
section
variable {W w w' : World} {VA VB x0 x1 x2 x3 x4 x5 : Value} {A B : Res} {tA tB : TypeId} {l : Array Bool}
theorem TwoG.start (n : Nat) (hb : Below W.heap.size W w) : TwoG W VA VB A B tA tB (Array.replicate n false) x0 x1 x2 x3 x4 x5 w := by
  constructor <;> first | exact hb | (intro h; exact absurd h (up_none _ _))
theorem TwoG.mono {i : Nat} (h : TwoG W VA VB A B tA tB l x0 x1 x2 x3 x4 x5 w) (h0 : i ≠ 0) (h1 : i ≠ 1) (h2 : i ≠ 2) (h3 : i ≠ 3) (h4 : i ≠ 4) (h5 : i ≠ 5) (h6 : i ≠ 6) (h7 : i ≠ 7) : TwoG W VA VB A B tA tB (l.setIfInBounds i true) x0 x1 x2 x3 x4 x5 w := by
  have u := fun j (hj : j ≠ i) (hu : up (l.setIfInBounds i true) j) => (up_set hu).resolve_left hj
  exact ⟨h.low, fun e => h.a0 (u 0 h0.symm e), fun e => h.a2 (u 2 h2.symm e), fun e => h.a1 (u 1 h1.symm e), fun e => h.a3 (u 3 h3.symm e),
    fun e => let ⟨q, e1, e2, ys, e3, e4, e5⟩ := h.a4 (u 4 h4.symm e); ⟨q, e1, e2, ys, e3, e4, fun f => e5 (u 6 h6.symm f)⟩,
    fun e => let ⟨q, e1, e2, ys, e3, e4, e5⟩ := h.a5 (u 5 h5.symm e); ⟨q, e1, e2, ys, e3, e4, fun f => e5 (u 7 h7.symm f)⟩,
    fun e f => h.a45 (u 4 h4.symm e) (u 5 h5.symm f), fun e f => h.a14 (u 1 h1.symm e) (u 4 h4.symm f), fun e f => h.a15 (u 1 h1.symm e) (u 5 h5.symm f), fun e f => h.a34 (u 3 h3.symm e) (u 4 h4.symm f), fun e f => h.a35 (u 3 h3.symm e) (u 5 h5.symm f)⟩
theorem TwoG.later (h : TwoG W VA VB A B tA tB l x0 x1 x2 x3 x4 x5 w) (hb : Below w.heap.size w w') : TwoG W VA VB A B tA tB l x0 x1 x2 x3 x4 x5 w' :=
  ⟨h.low.trans (hb.mono h.low.size), h.a0, h.a2, fun e => A.later _ _ _ (h.a1 e) hb, fun e => B.later _ _ _ (h.a3 e) hb,
    fun e => let ⟨q, e1, e2, ys, e3, e4, e5⟩ := h.a4 e; ⟨q, e1, e2, ys, e3, (hb.block q (block_lt e4)).trans e4, e5⟩,
    fun e => let ⟨q, e1, e2, ys, e3, e4, e5⟩ := h.a5 e; ⟨q, e1, e2, ys, e3, (hb.block q (block_lt e4)).trans e4, e5⟩, h.a45, h.a14, h.a15, h.a34, h.a35⟩
theorem TwoG.load0 (h : TwoG W VA VB A B tA tB l x0 x1 x2 x3 x4 x5 w) : TwoG W VA VB A B tA tB (l.setIfInBounds 0 true) VA x1 x2 x3 x4 x5 w := by
  have u := fun j (hj : j ≠ 0) (hu : up (l.setIfInBounds 0 true) j) => (up_set hu).resolve_left hj
  exact ⟨h.low, fun _ => rfl, fun e => h.a2 (u 2 (by decide) e), fun e => h.a1 (u 1 (by decide) e), fun e => h.a3 (u 3 (by decide) e),
    fun e => let ⟨q, e1, e2, ys, e3, e4, e5⟩ := h.a4 (u 4 (by decide) e); ⟨q, e1, e2, ys, e3, e4, fun f => e5 (u 6 (by decide) f)⟩,
    fun e => let ⟨q, e1, e2, ys, e3, e4, e5⟩ := h.a5 (u 5 (by decide) e); ⟨q, e1, e2, ys, e3, e4, fun f => e5 (u 7 (by decide) f)⟩,
    fun e f => h.a45 (u 4 (by decide) e) (u 5 (by decide) f), fun e f => h.a14 (u 1 (by decide) e) (u 4 (by decide) f), fun e f => h.a15 (u 1 (by decide) e) (u 5 (by decide) f), fun e f => h.a34 (u 3 (by decide) e) (u 4 (by decide) f), fun e f => h.a35 (u 3 (by decide) e) (u 5 (by decide) f)⟩
theorem TwoG.load2 (h : TwoG W VA VB A B tA tB l x0 x1 x2 x3 x4 x5 w) : TwoG W VA VB A B tA tB (l.setIfInBounds 2 true) x0 x1 VB x3 x4 x5 w := by
  have u := fun j (hj : j ≠ 2) (hu : up (l.setIfInBounds 2 true) j) => (up_set hu).resolve_left hj
  exact ⟨h.low, fun e => h.a0 (u 0 (by decide) e), fun _ => rfl, fun e => h.a1 (u 1 (by decide) e), fun e => h.a3 (u 3 (by decide) e),
    fun e => let ⟨q, e1, e2, ys, e3, e4, e5⟩ := h.a4 (u 4 (by decide) e); ⟨q, e1, e2, ys, e3, e4, fun f => e5 (u 6 (by decide) f)⟩,
    fun e => let ⟨q, e1, e2, ys, e3, e4, e5⟩ := h.a5 (u 5 (by decide) e); ⟨q, e1, e2, ys, e3, e4, fun f => e5 (u 7 (by decide) f)⟩,
    fun e f => h.a45 (u 4 (by decide) e) (u 5 (by decide) f), fun e f => h.a14 (u 1 (by decide) e) (u 4 (by decide) f), fun e f => h.a15 (u 1 (by decide) e) (u 5 (by decide) f), fun e f => h.a34 (u 3 (by decide) e) (u 4 (by decide) f), fun e f => h.a35 (u 3 (by decide) e) (u 5 (by decide) f)⟩
theorem TwoG.call1 (h : TwoG W VA VB A B tA tB l x0 x1 x2 x3 x4 x5 w) (h6 : ¬ up l 6) (hb : Below w.heap.size w w') {v : Value} (hF : A.F v w') (hnew : ∀ k, A.own v = some k → w.heap.size ≤ k) : TwoG W VA VB A B tA tB (l.setIfInBounds 1 true) x0 v x2 x3 x4 x5 w' := by
  have h2 := h.later hb
  have u := fun j (hj : j ≠ 1) (hu : up (l.setIfInBounds 1 true) j) => (up_set hu).resolve_left hj
  refine ⟨h2.low, fun e => h2.a0 (u 0 (by decide) e), fun e => h2.a2 (u 2 (by decide) e), fun _ => hF, fun e => h2.a3 (u 3 (by decide) e),
    fun e => let ⟨q, e1, e2, ys, e3, e4, e5⟩ := h2.a4 (u 4 (by decide) e); ⟨q, e1, e2, ys, e3, e4, fun f => absurd (u 6 (by decide) f) h6⟩,
    fun e => let ⟨q, e1, e2, ys, e3, e4, e5⟩ := h2.a5 (u 5 (by decide) e); ⟨q, e1, e2, ys, e3, e4, fun f => e5 (u 7 (by decide) f)⟩,
    fun e f => h2.a45 (u 4 (by decide) e) (u 5 (by decide) f), fun _ f q e1 e2 => ?_, fun _ f q e1 e2 => ?_, fun e f => h2.a34 (u 3 (by decide) e) (u 4 (by decide) f), fun e f => h2.a35 (u 3 (by decide) e) (u 5 (by decide) f)⟩
  · obtain ⟨q', g1, _, ys, _, g3, _⟩ := h.a4 (u 4 (by decide) f)
    have hq := ptr_inj (g1.symm.trans e1)
    subst hq
    have := block_lt g3
    have := hnew _ e2
    omega
  · obtain ⟨q', g1, _, ys, _, g3, _⟩ := h.a5 (u 5 (by decide) f)
    have hq := ptr_inj (g1.symm.trans e1)
    subst hq
    have := block_lt g3
    have := hnew _ e2
    omega
theorem TwoG.call3 (h : TwoG W VA VB A B tA tB l x0 x1 x2 x3 x4 x5 w) (h7 : ¬ up l 7) (hb : Below w.heap.size w w') {v : Value} (hF : B.F v w') (hnew : ∀ k, B.own v = some k → w.heap.size ≤ k) : TwoG W VA VB A B tA tB (l.setIfInBounds 3 true) x0 x1 x2 v x4 x5 w' := by
  have h2 := h.later hb
  have u := fun j (hj : j ≠ 3) (hu : up (l.setIfInBounds 3 true) j) => (up_set hu).resolve_left hj
  refine ⟨h2.low, fun e => h2.a0 (u 0 (by decide) e), fun e => h2.a2 (u 2 (by decide) e), fun e => h2.a1 (u 1 (by decide) e), fun _ => hF,
    fun e => let ⟨q, e1, e2, ys, e3, e4, e5⟩ := h2.a4 (u 4 (by decide) e); ⟨q, e1, e2, ys, e3, e4, fun f => e5 (u 6 (by decide) f)⟩,
    fun e => let ⟨q, e1, e2, ys, e3, e4, e5⟩ := h2.a5 (u 5 (by decide) e); ⟨q, e1, e2, ys, e3, e4, fun f => absurd (u 7 (by decide) f) h7⟩,
    fun e f => h2.a45 (u 4 (by decide) e) (u 5 (by decide) f), fun e f => h2.a14 (u 1 (by decide) e) (u 4 (by decide) f), fun e f => h2.a15 (u 1 (by decide) e) (u 5 (by decide) f), fun _ f q e1 e2 => ?_, fun _ f q e1 e2 => ?_⟩
  · obtain ⟨q', g1, _, ys, _, g3, _⟩ := h.a4 (u 4 (by decide) f)
    have hq := ptr_inj (g1.symm.trans e1)
    subst hq
    have := block_lt g3
    have := hnew _ e2
    omega
  · obtain ⟨q', g1, _, ys, _, g3, _⟩ := h.a5 (u 5 (by decide) f)
    have hq := ptr_inj (g1.symm.trans e1)
    subst hq
    have := block_lt g3
    have := hnew _ e2
    omega
theorem TwoG.box4 (h : TwoG W VA VB A B tA tB l x0 x1 x2 x3 x4 x5 w) (h6 : ¬ up l 6) (ys : List Value) (hy : ys.length = A.n) : TwoG W VA VB A B tA tB (l.setIfInBounds 4 true) x0 x1 x2 x3 (ptr w.heap.size) x5 (w.alloc (.cells ys.toArray tA)) := by
  have h2 := h.later (under_box (.cells ys.toArray tA))
  have u := fun j (hj : j ≠ 4) (hu : up (l.setIfInBounds 4 true) j) => (up_set hu).resolve_left hj
  refine ⟨h2.low, fun e => h2.a0 (u 0 (by decide) e), fun e => h2.a2 (u 2 (by decide) e), fun e => h2.a1 (u 1 (by decide) e), fun e => h2.a3 (u 3 (by decide) e),
    fun _ => ⟨_, rfl, h.low.size, ys, hy, heap_alloc_new w _, fun f => absurd (u 6 (by decide) f) h6⟩,
    fun e => let ⟨q, e1, e2, ys, e3, e4, e5⟩ := h2.a5 (u 5 (by decide) e); ⟨q, e1, e2, ys, e3, e4, fun f => e5 (u 7 (by decide) f)⟩,
    fun _ f e => ?_, fun e _ q e1 e2 => ?_, fun e f => h2.a15 (u 1 (by decide) e) (u 5 (by decide) f), fun e _ q e1 e2 => ?_, fun e f => h2.a35 (u 3 (by decide) e) (u 5 (by decide) f)⟩
  · obtain ⟨q, g1, _, zs, _, g3, _⟩ := h.a5 (u 5 (by decide) f)
    have hq := ptr_inj (e.trans g1)
    have := block_lt g3
    omega
  · have h1 := A.low _ _ _ (h.a1 (u 1 (by decide) e)) e2
    have := ptr_inj e1
    omega
  · have h1 := B.low _ _ _ (h.a3 (u 3 (by decide) e)) e2
    have := ptr_inj e1
    omega
theorem TwoG.box5 (h : TwoG W VA VB A B tA tB l x0 x1 x2 x3 x4 x5 w) (h7 : ¬ up l 7) (ys : List Value) (hy : ys.length = B.n) : TwoG W VA VB A B tA tB (l.setIfInBounds 5 true) x0 x1 x2 x3 x4 (ptr w.heap.size) (w.alloc (.cells ys.toArray tB)) := by
  have h2 := h.later (under_box (.cells ys.toArray tB))
  have u := fun j (hj : j ≠ 5) (hu : up (l.setIfInBounds 5 true) j) => (up_set hu).resolve_left hj
  refine ⟨h2.low, fun e => h2.a0 (u 0 (by decide) e), fun e => h2.a2 (u 2 (by decide) e), fun e => h2.a1 (u 1 (by decide) e), fun e => h2.a3 (u 3 (by decide) e),
    fun e => let ⟨q, e1, e2, ys, e3, e4, e5⟩ := h2.a4 (u 4 (by decide) e); ⟨q, e1, e2, ys, e3, e4, fun f => e5 (u 6 (by decide) f)⟩,
    fun _ => ⟨_, rfl, h.low.size, ys, hy, heap_alloc_new w _, fun f => absurd (u 7 (by decide) f) h7⟩,
    fun e _ f => ?_, fun e f => h2.a14 (u 1 (by decide) e) (u 4 (by decide) f), fun e _ q e1 e2 => ?_, fun e f => h2.a34 (u 3 (by decide) e) (u 4 (by decide) f), fun e _ q e1 e2 => ?_⟩
  · obtain ⟨q, g1, _, zs, _, g3, _⟩ := h.a4 (u 4 (by decide) e)
    have hq := ptr_inj (g1.symm.trans f)
    have := block_lt g3
    omega
  · have h1 := A.low _ _ _ (h.a1 (u 1 (by decide) e)) e2
    have := ptr_inj e1
    omega
  · have h1 := B.low _ _ _ (h.a3 (u 3 (by decide) e)) e2
    have := ptr_inj e1
    omega
theorem TwoG.store6 (h : TwoG W VA VB A B tA tB l x0 x1 x2 x3 x4 x5 w) (h1 : up l 1) (h4 : up l 4) :
    ∃ (q : Nat) (ys : List Value), x4 = ptr q ∧ ys.length = A.n ∧ w.heap[q]? = some (.cells ys.toArray tA (0, 0)) ∧ A.F x1 w ∧ TwoG W VA VB A B tA tB (l.setIfInBounds 6 true) x0 x1 x2 x3 x4 x5 (putL w q 0 (A.cells x1)) := by
  obtain ⟨q, g1, g2, ys, g3, g4, g5⟩ := h.a4 h4
  have hF := h.a1 h1
  have u := fun j (hj : j ≠ 6) (hu : up (l.setIfInBounds 6 true) j) => (up_set hu).resolve_left hj
  have hlen := A.len _ _ hF
  have ho : ∀ j, j ≠ q → (putL w q 0 (A.cells x1)).heap[j]? = w.heap[j]? := fun j hj => putL_other hj _ _ _
  obtain ⟨r1, r2, r3⟩ := putL_rest (q := q) (A.cells x1) w 0
  refine ⟨q, ys, g1, g3, g4, hF, ⟨r1.trans h.low.os, r2.trans h.low.tape, r3.trans h.low.output, by rw [putL_size]; exact h.low.size, fun k hk => by rw [ho k (by omega)]; exact h.low.block k hk⟩,
    fun e => h.a0 (u 0 (by decide) e), fun e => h.a2 (u 2 (by decide) e), fun e => A.other _ _ _ q hF ho (h.a14 h1 h4 q g1), fun e => B.other _ _ _ q (h.a3 (u 3 (by decide) e)) ho (h.a34 (u 3 (by decide) e) h4 q g1),
    fun e => ⟨q, g1, g2, A.cells x1, hlen, putL_all (by rw [g3, hlen]) g4, fun _ => rfl⟩, fun e => ?_, fun e f => h.a45 (u 4 (by decide) e) (u 5 (by decide) f), fun e f => h.a14 (u 1 (by decide) e) (u 4 (by decide) f), fun e f => h.a15 (u 1 (by decide) e) (u 5 (by decide) f), fun e f => h.a34 (u 3 (by decide) e) (u 4 (by decide) f), fun e f => h.a35 (u 3 (by decide) e) (u 5 (by decide) f)⟩
  obtain ⟨p, p1, p2, zs, p3, p4, p5⟩ := h.a5 (u 5 (by decide) e)
  have hpq : p ≠ q := fun e2 => h.a45 h4 (u 5 (by decide) e) (by rw [g1, p1, e2])
  exact ⟨p, p1, p2, zs, p3, by rw [ho p hpq]; exact p4, fun f => p5 (u 7 (by decide) f)⟩
theorem TwoG.store7 (h : TwoG W VA VB A B tA tB l x0 x1 x2 x3 x4 x5 w) (h3 : up l 3) (h5 : up l 5) :
    ∃ (q : Nat) (ys : List Value), x5 = ptr q ∧ ys.length = B.n ∧ w.heap[q]? = some (.cells ys.toArray tB (0, 0)) ∧ B.F x3 w ∧ TwoG W VA VB A B tA tB (l.setIfInBounds 7 true) x0 x1 x2 x3 x4 x5 (putL w q 0 (B.cells x3)) := by
  obtain ⟨q, g1, g2, ys, g3, g4, g5⟩ := h.a5 h5
  have hF := h.a3 h3
  have u := fun j (hj : j ≠ 7) (hu : up (l.setIfInBounds 7 true) j) => (up_set hu).resolve_left hj
  have hlen := B.len _ _ hF
  have ho : ∀ j, j ≠ q → (putL w q 0 (B.cells x3)).heap[j]? = w.heap[j]? := fun j hj => putL_other hj _ _ _
  obtain ⟨r1, r2, r3⟩ := putL_rest (q := q) (B.cells x3) w 0
  refine ⟨q, ys, g1, g3, g4, hF, ⟨r1.trans h.low.os, r2.trans h.low.tape, r3.trans h.low.output, by rw [putL_size]; exact h.low.size, fun k hk => by rw [ho k (by omega)]; exact h.low.block k hk⟩,
    fun e => h.a0 (u 0 (by decide) e), fun e => h.a2 (u 2 (by decide) e), fun e => A.other _ _ _ q (h.a1 (u 1 (by decide) e)) ho (h.a15 (u 1 (by decide) e) h5 q g1), fun e => B.other _ _ _ q hF ho (h.a35 h3 h5 q g1),
    fun e => ?_, fun e => ⟨q, g1, g2, B.cells x3, hlen, putL_all (by rw [g3, hlen]) g4, fun _ => rfl⟩, fun e f => h.a45 (u 4 (by decide) e) (u 5 (by decide) f), fun e f => h.a14 (u 1 (by decide) e) (u 4 (by decide) f), fun e f => h.a15 (u 1 (by decide) e) (u 5 (by decide) f), fun e f => h.a34 (u 3 (by decide) e) (u 4 (by decide) f), fun e f => h.a35 (u 3 (by decide) e) (u 5 (by decide) f)⟩
  obtain ⟨p, p1, p2, zs, p3, p4, p5⟩ := h.a4 (u 4 (by decide) e)
  have hpq : p ≠ q := fun e2 => h.a45 (u 4 (by decide) e) h5 (by rw [g1, p1, e2])
  exact ⟨p, p1, p2, zs, p3, by rw [ho p hpq]; exact p4, fun f => p5 (u 6 (by decide) f)⟩
end
/- The region, by what each of its eight operations does. -/
theorem twoG_T {P : Program} {ops : Array Oper} {id : Nat} {Q : Exit → Act → World → Prop} {W : World} {T : Array Value} {D : List Deferred} (s0 s1 s2 s3 s4 s5 : Nat)
    (VA VB : Value) (A B : Res) (tA tB : TypeId) (hm : P.follows .mixedOrders = true) (hsz : ops.size = 8)
    (hlow : ∀ i : Nat, i < ops.size → (ops[i]?.map fun o => o.after.all fun e => decide (e.on < i)) = some true)
    (hd1 : (ops[1]?.map fun o => o.after.any fun e => (e.on == 0) && Region.binds .any e) = some true)
    (hd3 : (ops[3]?.map fun o => o.after.any fun e => (e.on == 2) && Region.binds .any e) = some true)
    (hd61 : (ops[6]?.map fun o => o.after.any fun e => (e.on == 1) && Region.binds .any e) = some true)
    (hd64 : (ops[6]?.map fun o => o.after.any fun e => (e.on == 4) && Region.binds .any e) = some true)
    (hd73 : (ops[7]?.map fun o => o.after.any fun e => (e.on == 3) && Region.binds .any e) = some true)
    (hd75 : (ops[7]?.map fun o => o.after.any fun e => (e.on == 5) && Region.binds .any e) = some true)
    (H0 : ∀ x0 x1 x2 x3 x4 x5 w K, Below W.heap.size W w → K ⟨set6 T s0 s1 s2 s3 s4 s5 VA x1 x2 x3 x4 x5, D⟩ w → wpOp P ops Q 0 K ⟨set6 T s0 s1 s2 s3 s4 s5 x0 x1 x2 x3 x4 x5, D⟩ w)
    (H1 : ∀ x1 x2 x3 x4 x5 w K, Below W.heap.size W w → (∀ w' v, Below w.heap.size w w' → A.F v w' → (∀ k, A.own v = some k → w.heap.size ≤ k) → K ⟨set6 T s0 s1 s2 s3 s4 s5 VA v x2 x3 x4 x5, D⟩ w') → wpOp P ops Q 1 K ⟨set6 T s0 s1 s2 s3 s4 s5 VA x1 x2 x3 x4 x5, D⟩ w)
    (H2 : ∀ x0 x1 x2 x3 x4 x5 w K, Below W.heap.size W w → K ⟨set6 T s0 s1 s2 s3 s4 s5 x0 x1 VB x3 x4 x5, D⟩ w → wpOp P ops Q 2 K ⟨set6 T s0 s1 s2 s3 s4 s5 x0 x1 x2 x3 x4 x5, D⟩ w)
    (H3 : ∀ x0 x1 x3 x4 x5 w K, Below W.heap.size W w → (∀ w' v, Below w.heap.size w w' → B.F v w' → (∀ k, B.own v = some k → w.heap.size ≤ k) → K ⟨set6 T s0 s1 s2 s3 s4 s5 x0 x1 VB v x4 x5, D⟩ w') → wpOp P ops Q 3 K ⟨set6 T s0 s1 s2 s3 s4 s5 x0 x1 VB x3 x4 x5, D⟩ w)
    (H4 : ∀ x0 x1 x2 x3 x4 x5 w K, ∃ ys : List Value, ys.length = A.n ∧ (K ⟨set6 T s0 s1 s2 s3 s4 s5 x0 x1 x2 x3 (ptr w.heap.size) x5, D⟩ (w.alloc (.cells ys.toArray tA)) → wpOp P ops Q 4 K ⟨set6 T s0 s1 s2 s3 s4 s5 x0 x1 x2 x3 x4 x5, D⟩ w))
    (H5 : ∀ x0 x1 x2 x3 x4 x5 w K, ∃ ys : List Value, ys.length = B.n ∧ (K ⟨set6 T s0 s1 s2 s3 s4 s5 x0 x1 x2 x3 x4 (ptr w.heap.size), D⟩ (w.alloc (.cells ys.toArray tB)) → wpOp P ops Q 5 K ⟨set6 T s0 s1 s2 s3 s4 s5 x0 x1 x2 x3 x4 x5, D⟩ w))
    (H6 : ∀ x0 x1 x2 x3 x5 w K q (ys : List Value), A.F x1 w → ys.length = A.n → w.heap[q]? = some (.cells ys.toArray tA (0, 0)) → K ⟨set6 T s0 s1 s2 s3 s4 s5 x0 x1 x2 x3 (ptr q) x5, D⟩ (putL w q 0 (A.cells x1)) → wpOp P ops Q 6 K ⟨set6 T s0 s1 s2 s3 s4 s5 x0 x1 x2 x3 (ptr q) x5, D⟩ w)
    (H7 : ∀ x0 x1 x2 x3 x4 w K q (ys : List Value), B.F x3 w → ys.length = B.n → w.heap[q]? = some (.cells ys.toArray tB (0, 0)) → K ⟨set6 T s0 s1 s2 s3 s4 s5 x0 x1 x2 x3 x4 (ptr q), D⟩ (putL w q 0 (B.cells x3)) → wpOp P ops Q 7 K ⟨set6 T s0 s1 s2 s3 s4 s5 x0 x1 x2 x3 x4 (ptr q), D⟩ w)
    (hend : ∀ w x1 x3 qA qB, Below W.heap.size W w → W.heap.size ≤ qA → W.heap.size ≤ qB → qA ≠ qB → A.F x1 w → B.F x3 w → w.heap[qA]? = some (.cells (A.cells x1).toArray tA (0, 0)) → w.heap[qB]? = some (.cells (B.cells x3).toArray tB (0, 0)) → A.own x1 ≠ some qA → A.own x1 ≠ some qB → B.own x3 ≠ some qA → B.own x3 ≠ some qB →
      Q .normal ⟨set6 T s0 s1 s2 s3 s4 s5 VA x1 VB x3 (ptr qA) (ptr qB), D⟩ w) :
    (Code.region id ops true).wp P Q ⟨T, D⟩ W := by
  refine wp_region_inv (fun l a w => ∃ x0 x1 x2 x3 x4 x5, a = ⟨set6 T s0 s1 s2 s3 s4 s5 x0 x1 x2 x3 x4 x5, D⟩ ∧ (up l 6 → up l 1 ∧ up l 4) ∧ (up l 7 → up l 3 ∧ up l 5) ∧ TwoG W VA VB A B tA tB l x0 x1 x2 x3 x4 x5 w) hm ?_ ?_ ?_
  · exact ⟨T.getD s0 undef, T.getD s1 undef, T.getD s2 undef, T.getD s3 undef, T.getD s4 undef, T.getD s5 undef, by rw [set6_own], fun h => absurd h (up_none _ _), fun h => absurd h (up_none _ _), TwoG.start _ (Below.refl _ _).drew⟩
  · intro l a w hs hI i hi
    obtain ⟨x0, x1, x2, x3, x4, x5, rfl, h6, h7, ht⟩ := hI
    have hni := ready_not hs hi
    have hi8 : i < 8 := by
      obtain ⟨_, o, ho, _⟩ := mem_ready.1 hi
      have := (Array.getElem?_eq_some_iff.1 ho).1
      omega
    have g6 (hne : i ≠ 6) : up (l.setIfInBounds i true) 6 → up (l.setIfInBounds i true) 1 ∧ up (l.setIfInBounds i true) 4 := fun h => by
      have := h6 ((up_set h).resolve_left (fun e => hne e.symm))
      exact ⟨up_on this.1, up_on this.2⟩
    have g7 (hne : i ≠ 7) : up (l.setIfInBounds i true) 7 → up (l.setIfInBounds i true) 3 ∧ up (l.setIfInBounds i true) 5 := fun h => by
      have := h7 ((up_set h).resolve_left (fun e => hne e.symm))
      exact ⟨up_on this.1, up_on this.2⟩
    have hc : i = 0 ∨ i = 1 ∨ i = 2 ∨ i = 3 ∨ i = 4 ∨ i = 5 ∨ i = 6 ∨ i = 7 := by omega
    rcases hc with rfl | rfl | rfl | rfl | rfl | rfl | rfl | rfl
    · exact H0 _ _ _ _ _ _ _ _ ht.low ⟨_, _, _, _, _, _, rfl, g6 (by decide), g7 (by decide), ht.load0⟩
    · have e0 := ht.a0 (ready_up hi hd1)
      subst e0
      exact H1 _ _ _ _ _ _ _ ht.low fun w' v hb hF hn => ⟨_, _, _, _, _, _, rfl, g6 (by decide), g7 (by decide), ht.call1 (fun h => hni (h6 h).1) hb hF hn⟩
    · exact H2 _ _ _ _ _ _ _ _ ht.low ⟨_, _, _, _, _, _, rfl, g6 (by decide), g7 (by decide), ht.load2⟩
    · have e0 := ht.a2 (ready_up hi hd3)
      subst e0
      exact H3 _ _ _ _ _ _ _ ht.low fun w' v hb hF hn => ⟨_, _, _, _, _, _, rfl, g6 (by decide), g7 (by decide), ht.call3 (fun h => hni (h7 h).1) hb hF hn⟩
    · obtain ⟨ys, hy, hK⟩ := H4 x0 x1 x2 x3 x4 x5 w (fun a w => ∃ x0 x1 x2 x3 x4 x5, a = ⟨set6 T s0 s1 s2 s3 s4 s5 x0 x1 x2 x3 x4 x5, D⟩ ∧ (up (l.setIfInBounds 4 true) 6 → up (l.setIfInBounds 4 true) 1 ∧ up (l.setIfInBounds 4 true) 4) ∧ (up (l.setIfInBounds 4 true) 7 → up (l.setIfInBounds 4 true) 3 ∧ up (l.setIfInBounds 4 true) 5) ∧ TwoG W VA VB A B tA tB (l.setIfInBounds 4 true) x0 x1 x2 x3 x4 x5 w)
      exact hK ⟨_, _, _, _, _, _, rfl, g6 (by decide), g7 (by decide), ht.box4 (fun h => hni (h6 h).2) ys hy⟩
    · obtain ⟨ys, hy, hK⟩ := H5 x0 x1 x2 x3 x4 x5 w (fun a w => ∃ x0 x1 x2 x3 x4 x5, a = ⟨set6 T s0 s1 s2 s3 s4 s5 x0 x1 x2 x3 x4 x5, D⟩ ∧ (up (l.setIfInBounds 5 true) 6 → up (l.setIfInBounds 5 true) 1 ∧ up (l.setIfInBounds 5 true) 4) ∧ (up (l.setIfInBounds 5 true) 7 → up (l.setIfInBounds 5 true) 3 ∧ up (l.setIfInBounds 5 true) 5) ∧ TwoG W VA VB A B tA tB (l.setIfInBounds 5 true) x0 x1 x2 x3 x4 x5 w)
      exact hK ⟨_, _, _, _, _, _, rfl, g6 (by decide), g7 (by decide), ht.box5 (fun h => hni (h7 h).2) ys hy⟩
    · have hu1 := ready_up hi hd61
      have hu4 := ready_up hi hd64
      obtain ⟨q, ys, rfl, hy, hb, hF, ht2⟩ := ht.store6 hu1 hu4
      exact H6 _ _ _ _ _ _ _ _ _ hF hy hb ⟨_, _, _, _, _, _, rfl, fun _ => ⟨up_on hu1, up_on hu4⟩, g7 (by decide), ht2⟩
    · have hu3 := ready_up hi hd73
      have hu5 := ready_up hi hd75
      obtain ⟨q, ys, rfl, hy, hb, hF, ht2⟩ := ht.store7 hu3 hu5
      exact H7 _ _ _ _ _ _ _ _ _ hF hy hb ⟨_, _, _, _, _, _, rfl, g6 (by decide), fun _ => ⟨up_on hu3, up_on hu5⟩, ht2⟩
  · intro l a w hs hI hr
    obtain ⟨x0, x1, x2, x3, x4, x5, rfl, _, _, ht⟩ := hI
    have hu := ready_end hs hlow hr
    rw [hsz] at hu
    have e0 := ht.a0 (hu 0 (by decide))
    have e2 := ht.a2 (hu 2 (by decide))
    obtain ⟨qA, e4, g4, ys, hy, b4, f4⟩ := ht.a4 (hu 4 (by decide))
    obtain ⟨qB, e5, g5, zs, hz, b5, f5⟩ := ht.a5 (hu 5 (by decide))
    have hne : qA ≠ qB := fun e => ht.a45 (hu 4 (by decide)) (hu 5 (by decide)) (by rw [e4, e5, e])
    have hF1 := ht.a1 (hu 1 (by decide))
    have hF3 := ht.a3 (hu 3 (by decide))
    have o1 := ht.a14 (hu 1 (by decide)) (hu 4 (by decide)) qA e4
    have o2 := ht.a15 (hu 1 (by decide)) (hu 5 (by decide)) qB e5
    have o3 := ht.a34 (hu 3 (by decide)) (hu 4 (by decide)) qA e4
    have o4 := ht.a35 (hu 3 (by decide)) (hu 5 (by decide)) qB e5
    rw [f4 (hu 6 (by decide))] at b4
    rw [f5 (hu 7 (by decide))] at b5
    subst e0 e2 e4 e5
    exact hend _ _ _ _ _ ht.low g4 g5 hne hF1 hF3 b4 b5 o1 o2 o3 o4
end Go.Proofs.YteaiidcconggcaaDoor
/- A region that draws its order, of operations of three sorts: a value, a new box, a value written to a box: one obligation each. -/
namespace Go.Proofs.YteaiidcconggcaaDoor
open Go.RowKit
set_option linter.unusedVariables false
set_option maxRecDepth 100000

inductive Kd where
  | val (s : Nat) (R : Res)
  | box (s n : Nat) (t : TypeId)
  | put (c b : Nat)
def upd (f : Nat → Value) (i : Nat) (v : Value) : Nat → Value := fun j => if j = i then v else f j
theorem upd_same (f : Nat → Value) (i : Nat) (v : Value) : upd f i v i = v := by unfold upd; rw [if_pos rfl]
theorem upd_ne (f : Nat → Value) {i j : Nat} (v : Value) (h : j ≠ i) : upd f i v j = f j := by unfold upd; rw [if_neg h]
def setN (T : Array Value) : List Kd → (Nat → Value) → Nat → Array Value
  | [], _, _ => T
  | .val s _ :: r, f, i => (setN T r f (i + 1)).setIfInBounds s (f i)
  | .box s _ _ :: r, f, i => (setN T r f (i + 1)).setIfInBounds s (f i)
  | .put _ _ :: r, f, i => setN T r f (i + 1)
def fst0 (T : Array Value) (ks : List Kd) (i : Nat) : Value :=
  match ks[i]? with
  | some (.val s _) => T.getD s undef
  | some (.box s _ _) => T.getD s undef
  | _ => undef
theorem setN_own (T : Array Value) (ks : List Kd) : ∀ (r : List Kd) (i : Nat), (∀ j, r[j]? = ks[i + j]?) → setN T r (fst0 T ks) i = T
  | [], _, _ => rfl
  | .val s R :: r, i, h => by
    have h0 := h 0
    have hr := setN_own T ks r (i + 1) fun j => by have := h (j + 1); rw [show i + 1 + j = i + (j + 1) by omega]; simpa using this
    have e : fst0 T ks i = T.getD s undef := by
      unfold fst0
      rw [← show (Kd.val s R :: r)[0]? = ks[i]? from h0]
      rfl
    show (setN T r (fst0 T ks) (i + 1)).setIfInBounds s (fst0 T ks i) = T
    rw [hr, e, set_own]
  | .box s n t :: r, i, h => by
    have h0 := h 0
    have hr := setN_own T ks r (i + 1) fun j => by have := h (j + 1); rw [show i + 1 + j = i + (j + 1) by omega]; simpa using this
    have e : fst0 T ks i = T.getD s undef := by
      unfold fst0
      rw [← show (Kd.box s n t :: r)[0]? = ks[i]? from h0]
      rfl
    show (setN T r (fst0 T ks) (i + 1)).setIfInBounds s (fst0 T ks i) = T
    rw [hr, e, set_own]
  | .put c b :: r, i, h => by
    have hr := setN_own T ks r (i + 1) fun j => by have := h (j + 1); rw [show i + 1 + j = i + (j + 1) by omega]; simpa using this
    exact hr

structure InvN (W : World) (ks : List Kd) (l : Array Bool) (f : Nat → Value) (w : World) : Prop where
  low : Below W.heap.size W w
  v : ∀ i s R, ks[i]? = some (.val s R) → up l i → R.F (f i) w
  b : ∀ i s n t, ks[i]? = some (.box s n t) → up l i → ∃ q, f i = ptr q ∧ W.heap.size ≤ q ∧ ∃ ys : List Value, ys.length = n ∧ w.heap[q]? = some (.cells ys.toArray t (0, 0)) ∧ ∀ j c s' R, ks[j]? = some (.put c i) → ks[c]? = some (.val s' R) → up l j → ys = R.cells (f c)
  bb : ∀ i j s n t s' n' t', i ≠ j → ks[i]? = some (.box s n t) → ks[j]? = some (.box s' n' t') → up l i → up l j → f i ≠ f j
  vb : ∀ i j s R s' n t, ks[i]? = some (.val s R) → ks[j]? = some (.box s' n t) → up l i → up l j → ∀ q, f j = ptr q → R.own (f i) ≠ some q
  d : ∀ j c b, ks[j]? = some (.put c b) → up l j → up l c ∧ up l b
section
variable {W w w' : World} {ks : List Kd} {l : Array Bool} {f : Nat → Value} {i : Nat}
theorem InvN.start (n : Nat) (f : Nat → Value) (hb : Below W.heap.size W w) : InvN W ks (Array.replicate n false) f w :=
  ⟨hb, fun i s R _ h => absurd h (up_none _ _), fun i s n t _ h => absurd h (up_none _ _), fun i j s n t s' n' t' _ _ _ h _ => absurd h (up_none _ _), fun i j s R s' n t _ _ h _ => absurd h (up_none _ _), fun j c b _ h => absurd h (up_none _ _)⟩
theorem InvN.val {s : Nat} {R : Res} {v : Value} (h : InvN W ks l f w) (hni : ¬ up l i) (hk : ks[i]? = some (.val s R)) (hb : Below w.heap.size w w') (hF : R.F v w') (hnew : ∀ k, R.own v = some k → w.heap.size ≤ k ∨ k < W.heap.size) :
    InvN W ks (l.setIfInBounds i true) (upd f i v) w' := by
  have u := fun j (hj : j ≠ i) (hu : up (l.setIfInBounds i true) j) => (up_set hu).resolve_left hj
  have nb : ∀ j s' n t, ks[j]? = some (.box s' n t) → j ≠ i := fun j s' n t hj e => by subst e; rw [hk] at hj; cases hj
  have np : ∀ j c b, ks[j]? = some (.put c b) → j ≠ i := fun j c b hj e => by subst e; rw [hk] at hj; cases hj
  refine ⟨h.low.trans (hb.mono h.low.size), fun j s' R' hj hu => ?_, fun j s' n t hj hu => ?_, fun j j' s1 n1 t1 s2 n2 t2 hne h1 h2 u1 u2 => ?_, fun j j' s1 R1 s2 n t h1 h2 u1 u2 q hq => ?_, fun j c b hj hu => ?_⟩
  · by_cases e : j = i
    · subst e
      rw [hk] at hj
      cases hj
      rw [upd_same]
      exact hF
    · rw [upd_ne _ _ e]
      exact R'.later _ _ _ (h.v j s' R' hj (u j e hu)) hb
  · have e := nb j s' n t hj
    obtain ⟨q, g1, g2, ys, g3, g4, g5⟩ := h.b j s' n t hj (u j e hu)
    refine ⟨q, by rw [upd_ne _ _ e]; exact g1, g2, ys, g3, (hb.block q (block_lt g4)).trans g4, fun j' c s2 R2 k1 k2 hu2 => ?_⟩
    have hu3 := u j' (np _ _ _ k1) hu2
    have hc : c ≠ i := fun e2 => hni (by subst e2; exact (h.d j' c j k1 hu3).1)
    rw [upd_ne _ _ hc]
    exact g5 j' c s2 R2 k1 k2 hu3
  · have e1 := nb _ _ _ _ h1
    have e2 := nb _ _ _ _ h2
    rw [upd_ne _ _ e1, upd_ne _ _ e2]
    exact h.bb j j' _ _ _ _ _ _ hne h1 h2 (u j e1 u1) (u j' e2 u2)
  · have e2 := nb _ _ _ _ h2
    rw [upd_ne _ _ e2] at hq
    by_cases e : j = i
    · subst e
      rw [hk] at h1
      cases h1
      rw [upd_same]
      intro e3
      obtain ⟨q', g1, g2, ys, _, g3, _⟩ := h.b j' _ _ _ h2 (u j' e2 u2)
      have hqq := ptr_inj (g1.symm.trans hq)
      subst hqq
      have := block_lt g3
      have := hnew _ e3
      omega
    · rw [upd_ne _ _ e]
      exact h.vb j j' _ _ _ _ _ h1 h2 (u j e u1) (u j' e2 u2) q hq
  · have := h.d j c b hj (u j (np _ _ _ hj) hu)
    exact ⟨up_on this.1, up_on this.2⟩
theorem InvN.box {s n : Nat} {t : TypeId} (h : InvN W ks l f w) (hni : ¬ up l i) (hk : ks[i]? = some (.box s n t)) (ys : List Value) (hy : ys.length = n) :
    InvN W ks (l.setIfInBounds i true) (upd f i (ptr w.heap.size)) (w.alloc (.cells ys.toArray t)) := by
  have u := fun j (hj : j ≠ i) (hu : up (l.setIfInBounds i true) j) => (up_set hu).resolve_left hj
  have hb : Below w.heap.size w (w.alloc (.cells ys.toArray t)) := under_box _
  have nv : ∀ j s' R, ks[j]? = some (.val s' R) → j ≠ i := fun j s' R hj e => by subst e; rw [hk] at hj; cases hj
  have np : ∀ j c b, ks[j]? = some (.put c b) → j ≠ i := fun j c b hj e => by subst e; rw [hk] at hj; cases hj
  refine ⟨h.low.trans (hb.mono h.low.size), fun j s' R' hj hu => ?_, fun j s' n' t' hj hu => ?_, fun j j' s1 n1 t1 s2 n2 t2 hne h1 h2 u1 u2 => ?_, fun j j' s1 R1 s2 n' t' h1 h2 u1 u2 q hq => ?_, fun j c b hj hu => ?_⟩
  · have e := nv j s' R' hj
    rw [upd_ne _ _ e]
    exact R'.later _ _ _ (h.v j s' R' hj (u j e hu)) hb
  · by_cases e : j = i
    · subst e
      rw [hk] at hj
      cases hj
      refine ⟨w.heap.size, upd_same _ _ _, h.low.size, ys, hy, heap_alloc_new w _, fun j' c s2 R2 k1 k2 hu2 => ?_⟩
      exact absurd (h.d j' c j k1 (u j' (np _ _ _ k1) hu2)).2 hni
    · obtain ⟨q, g1, g2, zs, g3, g4, g5⟩ := h.b j s' n' t' hj (u j e hu)
      refine ⟨q, by rw [upd_ne _ _ e]; exact g1, g2, zs, g3, (hb.block q (block_lt g4)).trans g4, fun j' c s2 R2 k1 k2 hu2 => ?_⟩
      rw [upd_ne _ _ (nv _ _ _ k2)]
      exact g5 j' c s2 R2 k1 k2 (u j' (np _ _ _ k1) hu2)
  · by_cases e1 : j = i
    · subst e1
      have e2 : j' ≠ j := fun e => hne e.symm
      rw [upd_same, upd_ne _ _ e2]
      intro e3
      obtain ⟨q', g1, _, zs, _, g3, _⟩ := h.b j' _ _ _ h2 (u j' e2 u2)
      have := ptr_inj (e3.trans g1)
      have := block_lt g3
      omega
    · by_cases e2 : j' = i
      · subst e2
        rw [upd_same, upd_ne _ _ e1]
        intro e3
        obtain ⟨q', g1, _, zs, _, g3, _⟩ := h.b j _ _ _ h1 (u j e1 u1)
        have := ptr_inj (e3.symm.trans g1)
        have := block_lt g3
        omega
      · rw [upd_ne _ _ e1, upd_ne _ _ e2]
        exact h.bb j j' _ _ _ _ _ _ hne h1 h2 (u j e1 u1) (u j' e2 u2)
  · have e1 := nv _ _ _ h1
    rw [upd_ne _ _ e1]
    have hF := h.v j _ _ h1 (u j e1 u1)
    by_cases e : j' = i
    · subst e
      rw [upd_same] at hq
      intro e3
      have h3 := R1.low _ _ _ hF e3
      have := ptr_inj hq
      omega
    · rw [upd_ne _ _ e] at hq
      exact h.vb j j' _ _ _ _ _ h1 h2 (u j e1 u1) (u j' e u2) q hq
  · have := h.d j c b hj (u j (np _ _ _ hj) hu)
    exact ⟨up_on this.1, up_on this.2⟩
theorem InvN.put {c b s s' n : Nat} {R : Res} {t : TypeId} (h : InvN W ks l f w) (hk : ks[i]? = some (.put c b)) (hc : ks[c]? = some (.val s R)) (hbx : ks[b]? = some (.box s' n t)) (hn : R.n = n)
    (huq : ∀ (j c' : Nat), ks[j]? = some (Kd.put c' b) → c' = c) (uc : up l c) (ub : up l b) :
    ∃ (q : Nat) (ys : List Value), f b = ptr q ∧ ys.length = n ∧ w.heap[q]? = some (.cells ys.toArray t (0, 0)) ∧ R.F (f c) w ∧ InvN W ks (l.setIfInBounds i true) f (putL w q 0 (R.cells (f c))) := by
  have u := fun j (hj : j ≠ i) (hu : up (l.setIfInBounds i true) j) => (up_set hu).resolve_left hj
  have nv : ∀ j s' R, ks[j]? = some (.val s' R) → j ≠ i := fun j s' R hj e => by subst e; rw [hk] at hj; cases hj
  have nb : ∀ j s' n t, ks[j]? = some (.box s' n t) → j ≠ i := fun j s' n t hj e => by subst e; rw [hk] at hj; cases hj
  obtain ⟨q, g1, g2, ys, g3, g4, g5⟩ := h.b b _ _ _ hbx ub
  have hF := h.v c _ _ hc uc
  have hlen := R.len _ _ hF
  have ho : ∀ j, j ≠ q → (putL w q 0 (R.cells (f c))).heap[j]? = w.heap[j]? := fun j hj => putL_other hj _ _ _
  obtain ⟨r1, r2, r3⟩ := putL_rest (q := q) (R.cells (f c)) w 0
  refine ⟨q, ys, g1, g3, g4, hF, ⟨r1.trans h.low.os, r2.trans h.low.tape, r3.trans h.low.output, by rw [putL_size]; exact h.low.size, fun k hk => by rw [ho k (by omega)]; exact h.low.block k hk⟩,
    fun j s1 R1 hj hu => ?_, fun j s1 n1 t1 hj hu => ?_, fun j j' s1 n1 t1 s2 n2 t2 hne h1 h2 u1 u2 => h.bb j j' _ _ _ _ _ _ hne h1 h2 (u j (nb _ _ _ _ h1) u1) (u j' (nb _ _ _ _ h2) u2), fun j j' s1 R1 s2 n1 t1 h1 h2 u1 u2 => h.vb j j' _ _ _ _ _ h1 h2 (u j (nv _ _ _ h1) u1) (u j' (nb _ _ _ _ h2) u2), fun j c' b' hj hu => ?_⟩
  · have e := nv _ _ _ hj
    exact R1.other _ _ _ q (h.v j _ _ hj (u j e hu)) ho (h.vb j b _ _ _ _ _ hj hbx (u j e hu) ub q g1)
  · have e := nb _ _ _ _ hj
    by_cases e2 : j = b
    · subst e2
      rw [hbx] at hj
      cases hj
      refine ⟨q, g1, g2, R.cells (f c), by rw [hlen, hn], putL_all (by rw [g3, hlen, hn]) g4, fun j' c' s2 R2 k1 k2 hu2 => ?_⟩
      have := huq j' c' k1
      subst this
      rw [hc] at k2
      cases k2
      rfl
    · obtain ⟨p, p1, p2, zs, p3, p4, p5⟩ := h.b j _ _ _ hj (u j e hu)
      have hpq : p ≠ q := fun e3 => h.bb j b _ _ _ _ _ _ e2 hj hbx (u j e hu) ub (by rw [g1, p1, e3])
      refine ⟨p, p1, p2, zs, p3, by rw [ho p hpq]; exact p4, fun j' c' s2 R2 k1 k2 hu2 => p5 j' c' s2 R2 k1 k2 ?_⟩
      refine u j' (fun e3 => ?_) hu2
      subst e3
      rw [hk] at k1
      injection k1 with k1
      injection k1 with _ k1
      exact e2 k1.symm
  · by_cases e : j = i
    · subst e
      rw [hk] at hj
      cases hj
      exact ⟨up_on uc, up_on ub⟩
    · have := h.d j c' b' hj (u j e hu)
      exact ⟨up_on this.1, up_on this.2⟩
end
/- What is known of a value that came up. -/
def FactAt (ks : List Kd) (f : Nat → Value) (w : World) (i : Nat) : Prop :=
  match ks[i]? with
  | some (.val _ R) => R.F (f i) w
  | _ => True
def OwnAt (ks : List Kd) (f : Nat → Value) (i j : Nat) : Prop :=
  match ks[i]?, ks[j]? with
  | some (.val _ R), some (.box _ _ _) => ∀ q, f j = ptr q → R.own (f i) ≠ some q
  | _, _ => True
def NeAt (ks : List Kd) (f : Nat → Value) (i j : Nat) : Prop :=
  match ks[i]?, ks[j]? with
  | some (.box _ _ _), some (.box _ _ _) => f i ≠ f j
  | _, _ => True
def PutAt (W : World) (ks : List Kd) (f : Nat → Value) (w : World) (j : Nat) : Prop :=
  match ks[j]? with
  | some (.put c b) => match ks[c]?, ks[b]? with
    | some (.val _ R), some (.box _ _ t) => ∃ q, f b = ptr q ∧ W.heap.size ≤ q ∧ w.heap[q]? = some (.cells (R.cells (f c)).toArray t (0, 0))
    | _, _ => True
  | _ => True
def putOk (ks : List Kd) : Kd → Bool
  | .put c b => match ks[c]?, ks[b]? with
    | some (.val _ R), some (.box _ n _) => R.n == n
    | _, _ => false
  | _ => true
def putOne : Kd → Kd → Bool
  | .put c b, .put c' b' => b != b' || c == c'
  | _, _ => true
def putOn (ops : Array Oper) (ks : List Kd) (i : Nat) : Bool :=
  match ks[i]?, ops[i]? with
  | some (.put c b), some o => (o.after.any fun e => (e.on == c) && Region.binds .any e) && (o.after.any fun e => (e.on == b) && Region.binds .any e)
  | some (.put _ _), none => false
  | _, _ => true
def depOn (ops : Array Oper) (dp : Nat → List Nat) (i : Nat) : Bool :=
  match ops[i]? with
  | some o => (dp i).all fun j => o.after.any fun e => (e.on == j) && Region.binds .any e
  | none => true
/- What each operation must do. -/
def DoesN (P : Program) (ops : Array Oper) (Q : Exit → Act → World → Prop) (W : World) (T : Array Value) (D : List Deferred) (ks : List Kd) (dp : Nat → List Nat) (i : Nat) : Prop :=
  match ks[i]? with
  | some (.val _ R) => ∀ (f : Nat → Value) (w : World) (K : Act → World → Prop), Below W.heap.size W w → (∀ j, j ∈ dp i → FactAt ks f w j) → (∀ v w', Below w.heap.size w w' → R.F v w' → (∀ k, R.own v = some k → w.heap.size ≤ k ∨ k < W.heap.size) → K ⟨setN T ks (upd f i v) 0, D⟩ w') → wpOp P ops Q i K ⟨setN T ks f 0, D⟩ w
  | some (.box _ n t) => ∀ (f : Nat → Value) (w : World) (K : Act → World → Prop), ∃ ys : List Value, ys.length = n ∧ (K ⟨setN T ks (upd f i (ptr w.heap.size)) 0, D⟩ (w.alloc (.cells ys.toArray t)) → wpOp P ops Q i K ⟨setN T ks f 0, D⟩ w)
  | some (.put c b) => match ks[c]?, ks[b]? with
    | some (.val _ R), some (.box _ n t) => ∀ (f : Nat → Value) (w : World) (K : Act → World → Prop) (q : Nat) (ys : List Value), f b = ptr q → ys.length = n → w.heap[q]? = some (.cells ys.toArray t (0, 0)) → R.F (f c) w → K ⟨setN T ks f 0, D⟩ (putL w q 0 (R.cells (f c))) → wpOp P ops Q i K ⟨setN T ks f 0, D⟩ w
    | _, _ => False
  | none => True
/- One operation, held shut: what looks at a goal does not look into it. -/
structure OpDoes (P : Program) (ops : Array Oper) (Q : Exit → Act → World → Prop) (i : Nat) (K : Act → World → Prop) (a : Act) (w : World) : Prop where
  h : wpOp P ops Q i K a w
section
variable {P : Program} {ops : Array Oper} {Q : Exit → Act → World → Prop} {W : World} {T : Array Value} {D : List Deferred} {ks : List Kd} {dp : Nat → List Nat} {i : Nat}
theorem DoesN.val {s : Nat} {R : Res} (hk : ks[i]? = some (.val s R)) (h : ∀ (f : Nat → Value) (w : World) (K : Act → World → Prop), Below W.heap.size W w → (∀ j, j ∈ dp i → FactAt ks f w j) → (∀ v w', Below w.heap.size w w' → R.F v w' → (∀ k, R.own v = some k → w.heap.size ≤ k ∨ k < W.heap.size) → K ⟨setN T ks (upd f i v) 0, D⟩ w') → OpDoes P ops Q i K ⟨setN T ks f 0, D⟩ w) : DoesN P ops Q W T D ks dp i := by
  unfold DoesN
  rw [hk]
  exact fun f w K hb hd hK => (h f w K hb hd hK).h
theorem DoesN.plain {s : Nat} {v : Value} (hk : ks[i]? = some (.val s (Res.plain v []))) (h : ∀ (f : Nat → Value) (w : World) (K : Act → World → Prop), Below W.heap.size W w → (∀ j, j ∈ dp i → FactAt ks f w j) → (∀ w', Below w.heap.size w w' → K ⟨setN T ks (upd f i v) 0, D⟩ w') → OpDoes P ops Q i K ⟨setN T ks f 0, D⟩ w) : DoesN P ops Q W T D ks dp i :=
  DoesN.val hk fun f w K hb hd hK => h f w K hb hd fun w' hb' => hK v w' hb' rfl fun k e => by cases e
theorem DoesN.box {s n : Nat} {t : TypeId} (hk : ks[i]? = some (.box s n t)) (h : ∀ (f : Nat → Value) (w : World) (K : Act → World → Prop), ∃ ys : List Value, ys.length = n ∧ (K ⟨setN T ks (upd f i (ptr w.heap.size)) 0, D⟩ (w.alloc (.cells ys.toArray t)) → OpDoes P ops Q i K ⟨setN T ks f 0, D⟩ w)) : DoesN P ops Q W T D ks dp i := by
  unfold DoesN
  rw [hk]
  exact fun f w K => let ⟨ys, h1, h2⟩ := h f w K; ⟨ys, h1, fun hK => (h2 hK).h⟩
theorem DoesN.put {c b s s' n : Nat} {R : Res} {t : TypeId} (hk : ks[i]? = some (.put c b)) (hc : ks[c]? = some (.val s R)) (hbx : ks[b]? = some (.box s' n t)) (h : ∀ (f : Nat → Value) (w : World) (K : Act → World → Prop) (q : Nat) (ys : List Value), f b = ptr q → ys.length = n → w.heap[q]? = some (.cells ys.toArray t (0, 0)) → R.F (f c) w → K ⟨setN T ks f 0, D⟩ (putL w q 0 (R.cells (f c))) → OpDoes P ops Q i K ⟨setN T ks f 0, D⟩ w) : DoesN P ops Q W T D ks dp i := by
  unfold DoesN
  rw [hk]
  dsimp only
  rw [hc, hbx]
  exact fun f w K q ys e1 e2 e3 e4 hK => (h f w K q ys e1 e2 e3 e4 hK).h
end
theorem factAt {ks : List Kd} {f : Nat → Value} {w : World} {i s : Nat} {R : Res} (h : FactAt ks f w i) (hk : ks[i]? = some (.val s R)) : R.F (f i) w := by
  unfold FactAt at h
  rw [hk] at h
  exact h
theorem plainAt {ks : List Kd} {f : Nat → Value} {w : World} {i s : Nat} {v : Value} {cs : List Value} (h : FactAt ks f w i) (hk : ks[i]? = some (.val s (Res.plain v cs))) : f i = v := factAt h hk
theorem putAt {W : World} {ks : List Kd} {f : Nat → Value} {w : World} {j c b s s' n : Nat} {R : Res} {t : TypeId} (h : PutAt W ks f w j) (hk : ks[j]? = some (.put c b)) (hc : ks[c]? = some (.val s R)) (hbx : ks[b]? = some (.box s' n t)) : ∃ q, f b = ptr q ∧ W.heap.size ≤ q ∧ w.heap[q]? = some (.cells (R.cells (f c)).toArray t (0, 0)) := by
  unfold PutAt at h
  rw [hk] at h
  dsimp only at h
  rw [hc, hbx] at h
  exact h
theorem neAt {ks : List Kd} {f : Nat → Value} {i j s n s' n' : Nat} {t t' : TypeId} (h : NeAt ks f i j) (h1 : ks[i]? = some (.box s n t)) (h2 : ks[j]? = some (.box s' n' t')) : f i ≠ f j := by
  unfold NeAt at h
  rw [h1, h2] at h
  exact h
theorem ownAt {ks : List Kd} {f : Nat → Value} {i j s s' n' : Nat} {R : Res} {t' : TypeId} (h : OwnAt ks f i j) (h1 : ks[i]? = some (.val s R)) (h2 : ks[j]? = some (.box s' n' t')) : ∀ q, f j = ptr q → R.own (f i) ≠ some q := by
  unfold OwnAt at h
  rw [h1, h2] at h
  exact h
theorem wpOp_do {P : Program} {ops : Array Oper} {Q : Exit → Act → World → Prop} {i : Nat} {K : Act → World → Prop} {a : Act} {w : World} {o : Oper} (ho : ops[i]? = some o) (hw : Region.wanted o (yielded ops a.tmps) = true) (h : o.wp P a w K Q) : OpDoes P ops Q i K a w := by
  refine ⟨?_⟩
  unfold wpOp
  rw [ho]
  simp only [hw, if_true]
  exact Or.inl h
theorem wpOp_skip {P : Program} {ops : Array Oper} {Q : Exit → Act → World → Prop} {i : Nat} {K : Act → World → Prop} {a : Act} {w : World} {o : Oper} (ho : ops[i]? = some o) (hw : Region.wanted o (yielded ops a.tmps) = false) (h : K (a.put o.dst undef) w) : OpDoes P ops Q i K a w := by
  refine ⟨?_⟩
  unfold wpOp
  rw [ho]
  simp only [hw]
  exact h
theorem ready_endB {ops : Array Oper} {l : Array Bool} (hs : l.size = ops.size) (hlow : ∀ i : Nat, i < ops.size → (ops[i]?.map fun o => o.after.all fun e => !Region.binds .any e || decide (e.on < i)) = some true) (h : Region.ready .any ops l = []) : ∀ j, j < ops.size → up l j := by
  intro j
  induction j using Nat.strongRecOn with
  | ind j ih =>
    intro hj
    have hl := hlow j hj
    obtain ⟨o, ho⟩ : ∃ o, ops[j]? = some o := ⟨ops[j], Array.getElem?_eq_getElem hj⟩
    rw [ho] at hl
    simp only [Option.map_some, Option.some.injEq] at hl
    cases hu : l.getD j true
    · have hm : j ∈ Region.ready .any ops l := mem_ready.2 ⟨hu, o, ho, fun e he hbe => by
        obtain ⟨k, hk, rfl⟩ := Array.getElem_of_mem he
        have := (Array.all_eq_true.1 hl) k hk
        rw [hbe] at this
        have hlt : (o.after[k]).on < j := by simpa using this
        exact ih _ hlt (by omega)⟩
      rw [h] at hm
      cases hm
    · unfold up
      have : l.getD j true = l.getD j false := by
        simp [Array.getD, show j < l.size by omega]
      rw [← this, hu]
theorem all_range {n : Nat} {p : Nat → Bool} (h : (List.range n).all p = true) (i : Nat) (hi : i < n) : p i = true := List.all_eq_true.1 h i (List.mem_range.2 hi)
theorem regN {P : Program} {ops : Array Oper} {id : Nat} {Q : Exit → Act → World → Prop} {W : World} {T : Array Value} {D : List Deferred} (ks : List Kd) (dp : Nat → List Nat) (hm : P.follows .mixedOrders = true) (hsz : ops.size = ks.length)
    (hlow : ((List.range ops.size).all fun i => (ops[i]?.map fun o => o.after.all fun e => !Region.binds .any e || decide (e.on < i)) == some true) = true)
    (hpo : (ks.all (putOk ks)) = true) (hp1 : (ks.all fun k => ks.all (putOne k)) = true) (hpn : ((List.range ops.size).all (putOn ops ks)) = true) (hdp : ((List.range ops.size).all (depOn ops dp)) = true)
    (hstep : ∀ i, i < ks.length → DoesN P ops Q W T D ks dp i)
    (hend : ∀ f w, Below W.heap.size W w → (∀ i, FactAt ks f w i) → (∀ j, PutAt W ks f w j) → (∀ i j, i ≠ j → NeAt ks f i j) → (∀ i j, OwnAt ks f i j) → Q .normal ⟨setN T ks f 0, D⟩ w) :
    (Code.region id ops true).wp P Q ⟨T, D⟩ W := by
  have hone : ∀ (j c b j' c' : Nat), ks[j]? = some (Kd.put c b) → ks[j']? = some (Kd.put c' b) → c' = c := fun j c b j' c' h1 h2 => by
    have := List.all_eq_true.1 hp1 _ (List.mem_of_getElem? h1)
    have := List.all_eq_true.1 this _ (List.mem_of_getElem? h2)
    unfold putOne at this
    simp at this
    exact this.symm
  refine wp_region_inv (fun l a w => ∃ f, a = ⟨setN T ks f 0, D⟩ ∧ InvN W ks l f w) hm ?_ ?_ ?_
  · exact ⟨fst0 T ks, by rw [setN_own T ks ks 0 fun j => by rw [Nat.zero_add]], InvN.start _ _ (Below.refl _ _).drew⟩
  · intro l a w hs hI i hi
    obtain ⟨f, rfl, hv⟩ := hI
    have hni := ready_not hs hi
    have hin : i < ops.size := by
      obtain ⟨_, o, ho, _⟩ := mem_ready.1 hi
      exact (Array.getElem?_eq_some_iff.1 ho).1
    have hst := hstep i (by omega)
    obtain ⟨k, hk⟩ : ∃ k, ks[i]? = some k := ⟨ks[i], List.getElem?_eq_getElem (by omega)⟩
    unfold DoesN at hst
    rw [hk] at hst
    cases k with
    | val s R =>
      refine hst f w _ hv.low (fun j hj => ?_) fun v w' hb hF hn => ⟨_, rfl, hv.val hni hk hb hF hn⟩
      unfold FactAt
      have hu : up l j := by
        have hd := all_range hdp i hin
        unfold depOn at hd
        obtain ⟨o, ho⟩ : ∃ o, ops[i]? = some o := ⟨ops[i], Array.getElem?_eq_getElem hin⟩
        rw [ho] at hd
        have := List.all_eq_true.1 hd j hj
        exact ready_up hi (by rw [ho]; simp only [Option.map_some]; rw [this])
      split
      · rename_i s' R' hj'
        exact hv.v j _ _ hj' hu
      · trivial
    | box s n t =>
      obtain ⟨ys, hy, hK⟩ := hst f w (fun a w => ∃ f, a = ⟨setN T ks f 0, D⟩ ∧ InvN W ks (l.setIfInBounds i true) f w)
      exact hK ⟨_, rfl, hv.box hni hk ys hy⟩
    | put c b =>
      have hok := List.all_eq_true.1 hpo _ (List.mem_of_getElem? hk)
      unfold putOk at hok
      dsimp only at hst hok
      have hd := all_range hpn i hin
      unfold putOn at hd
      obtain ⟨o, ho⟩ : ∃ o, ops[i]? = some o := ⟨ops[i], Array.getElem?_eq_getElem hin⟩
      rw [hk, ho] at hd
      simp only [Bool.and_eq_true] at hd
      have uc : up l c := ready_up hi (by rw [ho]; simp only [Option.map_some]; rw [hd.1])
      have ub : up l b := ready_up hi (by rw [ho]; simp only [Option.map_some]; rw [hd.2])
      split at hst
      · rename_i s R s' n t hc hbx
        rw [hc, hbx] at hok
        obtain ⟨q, ys, g1, g2, g3, g4, g5⟩ := hv.put hk hc hbx (by simpa using hok) (fun j c' hj => hone i c b j c' hk hj) uc ub
        exact hst f w _ q ys g1 g2 g3 g4 ⟨_, rfl, g5⟩
      · exact hst.elim
  · intro l a w hs hI hr
    obtain ⟨f, rfl, hv⟩ := hI
    have hu := ready_endB hs (fun i hi => by simpa using all_range hlow i hi) hr
    have hul : ∀ {i : Nat} {k : Kd}, ks[i]? = some k → up l i := fun {i k} h => hu i (by have := (List.getElem?_eq_some_iff.1 h).1; omega)
    refine hend f w hv.low (fun i => ?_) (fun j => ?_) (fun i j hne => ?_) fun i j => ?_
    · unfold FactAt
      split
      · rename_i s R h
        exact hv.v i _ _ h (hul h)
      · trivial
    · unfold PutAt
      split
      · rename_i c b h
        split
        · rename_i s R s' n t hc hbx
          obtain ⟨q, g1, g2, ys, g3, g4, g5⟩ := hv.b b _ _ _ hbx (hul hbx)
          have := g5 j c _ _ h hc (hul h)
          subst this
          exact ⟨q, g1, g2, g4⟩
        · trivial
      · trivial
    · unfold NeAt
      split
      · rename_i h1 h2
        exact hv.bb i j _ _ _ _ _ _ hne h1 h2 (hul h1) (hul h2)
      · trivial
    · unfold OwnAt
      split
      · rename_i h1 h2
        exact hv.vb i j _ _ _ _ _ h1 h2 (hul h1) (hul h2)
      · trivial
end Go.Proofs.YteaiidcconggcaaDoor
