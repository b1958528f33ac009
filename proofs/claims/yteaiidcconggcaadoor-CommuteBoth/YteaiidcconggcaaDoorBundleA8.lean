/- Texts that this proof needs, one behind the other: ARegInv, ATwo. -/
import Derived.Orders
import Derived.OrdersHeld
import Derived.Deep.RegionHeld3
import Derived.Test.YteaiidcconggcaaDoorBundleC1
import Derived.Test.YteaiidcconggcaaDoorVBase
/- A region that draws its order, by a condition on what has come up: one obligation an operation, no walk over the orders. -/
namespace Go.Proofs.YteaiidcconggcaaDoor
open Go.RowKit
set_option linter.unusedVariables false
set_option maxRecDepth 100000

/- How many operations have not come up. -/
def leftOf (n : Nat) (listed : Array Bool) : Nat := ((List.range n).filter fun i => !listed.getD i true).length
theorem leftOf_step {n i : Nat} {listed : Array Bool} (hi : i < n) (hs : listed.size = n) (hl : listed.getD i true = false) : leftOf n (listed.setIfInBounds i true) + 1 ≤ leftOf n listed := by
  unfold leftOf
  have h1 : ((List.range n).filter fun j => !(listed.setIfInBounds i true).getD j true).length + 1 ≤ ((List.range n).filter fun j => !listed.getD j true).length := by
    have hsub : ∀ j, (!(listed.setIfInBounds i true).getD j true) = true → ((!listed.getD j true) && j != i) = true := by
      intro j hj
      by_cases e : i = j
      · subst e
        rw [show (listed.setIfInBounds i true).getD i true = true by simp [Array.getD, hs, hi]] at hj
        cases hj
      · have e2 : (listed.setIfInBounds i true).getD j true = listed.getD j true := by
          simp [Array.getElem?_setIfInBounds_ne e]
        rw [e2] at hj
        rw [hj]
        simp
        exact fun h => e h.symm
    have h2 : ((List.range n).filter fun j => !(listed.setIfInBounds i true).getD j true).length ≤ ((List.range n).filter fun j => (!listed.getD j true) && j != i).length := by
      rw [← List.countP_eq_length_filter, ← List.countP_eq_length_filter]
      exact List.countP_mono_left (fun j _ h => hsub j h)
    have h3 : ((List.range n).filter fun j => (!listed.getD j true) && j != i) = ((List.range n).filter fun j => !listed.getD j true).erase i := by
      rw [List.Nodup.erase_eq_filter ((List.nodup_range).filter _), List.filter_filter]
      congr 1
      funext j
      rw [Bool.and_comm]
    have hm : i ∈ (List.range n).filter fun j => !listed.getD j true := by
      rw [List.mem_filter, List.mem_range]
      exact ⟨hi, by rw [hl]; rfl⟩
    rw [h3, List.length_erase_of_mem hm] at h2
    have := List.length_pos_of_mem hm
    omega
  exact h1

theorem wpAny_inv {P : Program} {ops : Array Oper} {Q : Exit → Act → World → Prop} {md : Region.Mode} (I : Array Bool → Act → World → Prop)
    (hstep : ∀ listed a w, listed.size = ops.size → I listed a w → ∀ i, i ∈ Region.ready md ops listed → wpOp P ops Q i (I (listed.setIfInBounds i true)) a w)
    (hend : ∀ listed a w, listed.size = ops.size → I listed a w → Region.ready md ops listed = [] → Q .normal a w) :
    ∀ (fuel : Nat) (listed : Array Bool) (a : Act) (w : World), listed.size = ops.size → leftOf ops.size listed ≤ fuel → I listed a w → wpAny P md ops Q fuel listed a w := by
  intro fuel
  induction fuel with
  | zero =>
    intro listed a w hs hf hI
    have hr : Region.ready md ops listed = [] := by
      rw [List.eq_nil_iff_forall_not_mem]
      intro i hi
      obtain ⟨h0, o, ho, _⟩ := mem_ready.1 hi
      have hlt := (Array.getElem?_eq_some_iff.1 ho).1
      have := leftOf_step hlt hs (by simpa using h0)
      omega
    exact ⟨hr, hend listed a w hs hI hr⟩
  | succ fuel ih =>
    intro listed a w hs hf hI
    refine ⟨hend listed a w hs hI, fun i hi => ?_⟩
    obtain ⟨h0, o, ho, _⟩ := mem_ready.1 hi
    have hlt := (Array.getElem?_eq_some_iff.1 ho).1
    have hst := leftOf_step hlt hs (by simpa using h0)
    exact wpOp_mono (fun a' w' h => ih _ a' w' (by simpa using hs) (by omega) h) (hstep listed a w hs hI i hi)

theorem wp_region_inv {P : Program} {ops : Array Oper} {Q : Exit → Act → World → Prop} {id : Nat} {a : Act} {w : World} (I : Array Bool → Act → World → Prop) (hm : P.follows .mixedOrders = true)
    (h0 : I (Array.replicate ops.size false) a w.drew)
    (hstep : ∀ listed a w, listed.size = ops.size → I listed a w → ∀ i, i ∈ Region.ready .any ops listed → wpOp P ops Q i (I (listed.setIfInBounds i true)) a w)
    (hend : ∀ listed a w, listed.size = ops.size → I listed a w → Region.ready .any ops listed = [] → Q .normal a w) :
    (Code.region id ops true).wp P Q a w := by
  refine wp_region_any hm (wpAny_inv I hstep hend ops.size _ a _ (by simp) ?_ h0)
  unfold leftOf
  refine Nat.le_trans (List.length_filter_le _ _) (by simp)
end Go.Proofs.YteaiidcconggcaaDoor
/- Two calls, each one's result laid into a new box, in any order: 'x, y := f(a), g(b)' where both are boxed. -/
namespace Go.Proofs.YteaiidcconggcaaDoor
open Go.RowKit
set_option linter.unusedVariables false
set_option maxRecDepth 100000

def up (l : Array Bool) (j : Nat) : Prop := l.getD j false = true
theorem up_set {l : Array Bool} {i j : Nat} (h : up (l.setIfInBounds i true) j) : j = i ∨ up l j := by
  unfold up at *
  by_cases e : i = j
  · exact Or.inl e.symm
  · refine Or.inr ?_
    have e2 : (l.setIfInBounds i true).getD j false = l.getD j false := by
      simp [Array.getElem?_setIfInBounds_ne e]
    rwa [e2] at h
theorem up_none (n j : Nat) : ¬ up (Array.replicate n false) j := by
  unfold up
  simp [Array.getD]
def ptr (q : Nat) : Value := .pointer (some ⟨q, 0, none⟩)
theorem ptr_inj {p q : Nat} (h : ptr p = ptr q) : p = q := by
  unfold ptr at h
  injection h with h
  injection h with h
  injection h

/- What holds while the eight operations come up: two loads, two calls, two boxes, two stores. -/
structure Two2 (W : World) (VA VB VC i1 i2 : Value) (tR tA tB : TypeId) (m : Nat) (R : List Value) (l : Array Bool) (x0 x1 x2 x3 x4 x5 : Value) (w : World) : Prop where
  low : Below W.heap.size W w
  a0 : up l 0 → x0 = VA
  a2 : up l 2 → x2 = VB
  a3 : up l 3 → x3 = VC
  a1 : up l 1 → ∃ ka kc, x1 = .agg #[i1, i2, .slice ka m kc] ∧ w.ownsRow W.heap.size tR 2 (.slice ka m kc) m R
  a4 : up l 4 → ∃ q, x4 = ptr q ∧ W.heap.size ≤ q ∧ ∃ y1 y2 y3, w.heap[q]? = some (.cells #[y1, y2, y3] tA (0, 0)) ∧ (up l 6 → x1 = .agg #[y1, y2, y3])
  a5 : up l 5 → ∃ q, x5 = ptr q ∧ W.heap.size ≤ q ∧ ∃ z1 z2 z3 z4, w.heap[q]? = some (.cells #[z1, z2, z3, z4] tB (0, 0)) ∧ (up l 7 → VC = .agg #[z1, z2, z3, z4])
  a45 : up l 4 → up l 5 → x4 ≠ x5
  a14 : up l 1 → up l 4 → ∀ q ka kc, x4 = ptr q → x1 = .agg #[i1, i2, .slice ka m kc] → (Value.slice ka m kc).ownBlock ≠ some q
  a15 : up l 1 → up l 5 → ∀ q ka kc, x5 = ptr q → x1 = .agg #[i1, i2, .slice ka m kc] → (Value.slice ka m kc).ownBlock ≠ some q

section
variable {W w w' : World} {VA VB VC i1 i2 x0 x1 x2 x3 x4 x5 : Value} {tR tA tB : TypeId} {m : Nat} {R : List Value} {l : Array Bool}
theorem Two2.start (n : Nat) (hb : Below W.heap.size W w) : Two2 W VA VB VC i1 i2 tR tA tB m R (Array.replicate n false) x0 x1 x2 x3 x4 x5 w :=
  ⟨hb, fun h => absurd h (up_none _ _), fun h => absurd h (up_none _ _), fun h => absurd h (up_none _ _), fun h => absurd h (up_none _ _), fun h => absurd h (up_none _ _), fun h => absurd h (up_none _ _), fun h => absurd h (up_none _ _), fun h => absurd h (up_none _ _), fun h => absurd h (up_none _ _)⟩
theorem Two2.load0 (h : Two2 W VA VB VC i1 i2 tR tA tB m R l x0 x1 x2 x3 x4 x5 w) : Two2 W VA VB VC i1 i2 tR tA tB m R (l.setIfInBounds 0 true) VA x1 x2 x3 x4 x5 w := by
  have u := fun j (hj : j ≠ 0) (hu : up (l.setIfInBounds 0 true) j) => (up_set hu).resolve_left hj
  exact ⟨h.low, fun _ => rfl, fun e => h.a2 (u 2 (by decide) e), fun e => h.a3 (u 3 (by decide) e), fun e => h.a1 (u 1 (by decide) e),
    fun e => let ⟨q, e1, e2, y1, y2, y3, e3, e4⟩ := h.a4 (u 4 (by decide) e); ⟨q, e1, e2, y1, y2, y3, e3, fun f => e4 (u 6 (by decide) f)⟩,
    fun e => let ⟨q, e1, e2, y1, y2, y3, y4, e3, e4⟩ := h.a5 (u 5 (by decide) e); ⟨q, e1, e2, y1, y2, y3, y4, e3, fun f => e4 (u 7 (by decide) f)⟩,
    fun e f => h.a45 (u 4 (by decide) e) (u 5 (by decide) f), fun e f => h.a14 (u 1 (by decide) e) (u 4 (by decide) f), fun e f => h.a15 (u 1 (by decide) e) (u 5 (by decide) f)⟩
theorem Two2.load2 (h : Two2 W VA VB VC i1 i2 tR tA tB m R l x0 x1 x2 x3 x4 x5 w) : Two2 W VA VB VC i1 i2 tR tA tB m R (l.setIfInBounds 2 true) x0 x1 VB x3 x4 x5 w := by
  have u := fun j (hj : j ≠ 2) (hu : up (l.setIfInBounds 2 true) j) => (up_set hu).resolve_left hj
  exact ⟨h.low, fun e => h.a0 (u 0 (by decide) e), fun _ => rfl, fun e => h.a3 (u 3 (by decide) e), fun e => h.a1 (u 1 (by decide) e),
    fun e => let ⟨q, e1, e2, y1, y2, y3, e3, e4⟩ := h.a4 (u 4 (by decide) e); ⟨q, e1, e2, y1, y2, y3, e3, fun f => e4 (u 6 (by decide) f)⟩,
    fun e => let ⟨q, e1, e2, y1, y2, y3, y4, e3, e4⟩ := h.a5 (u 5 (by decide) e); ⟨q, e1, e2, y1, y2, y3, y4, e3, fun f => e4 (u 7 (by decide) f)⟩,
    fun e f => h.a45 (u 4 (by decide) e) (u 5 (by decide) f), fun e f => h.a14 (u 1 (by decide) e) (u 4 (by decide) f), fun e f => h.a15 (u 1 (by decide) e) (u 5 (by decide) f)⟩
/- Behind a call, a box or a draw all that was there stays. -/
theorem Two2.later (h : Two2 W VA VB VC i1 i2 tR tA tB m R l x0 x1 x2 x3 x4 x5 w) (hb : Below w.heap.size w w') : Two2 W VA VB VC i1 i2 tR tA tB m R l x0 x1 x2 x3 x4 x5 w' := by
  refine ⟨h.low.trans (hb.mono h.low.size), h.a0, h.a2, h.a3, fun e => ?_, fun e => ?_, fun e => ?_, h.a45, h.a14, h.a15⟩
  · obtain ⟨ka, kc, e1, e2⟩ := h.a1 e
    exact ⟨ka, kc, e1, ownsRow_below e2 hb⟩
  · obtain ⟨q, e1, e2, y1, y2, y3, e3, e4⟩ := h.a4 e
    exact ⟨q, e1, e2, y1, y2, y3, (hb.block q (block_lt e3)).trans e3, e4⟩
  · obtain ⟨q, e1, e2, y1, y2, y3, y4, e3, e4⟩ := h.a5 e
    exact ⟨q, e1, e2, y1, y2, y3, y4, (hb.block q (block_lt e3)).trans e3, e4⟩
theorem Two2.call3 (h : Two2 W VA VB VC i1 i2 tR tA tB m R l x0 x1 x2 x3 x4 x5 w) (hb : Below w.heap.size w w') : Two2 W VA VB VC i1 i2 tR tA tB m R (l.setIfInBounds 3 true) x0 x1 x2 VC x4 x5 w' := by
  have h := h.later hb
  have u := fun j (hj : j ≠ 3) (hu : up (l.setIfInBounds 3 true) j) => (up_set hu).resolve_left hj
  exact ⟨h.low, fun e => h.a0 (u 0 (by decide) e), fun e => h.a2 (u 2 (by decide) e), fun _ => rfl, fun e => h.a1 (u 1 (by decide) e),
    fun e => let ⟨q, e1, e2, y1, y2, y3, e3, e4⟩ := h.a4 (u 4 (by decide) e); ⟨q, e1, e2, y1, y2, y3, e3, fun f => e4 (u 6 (by decide) f)⟩,
    fun e => let ⟨q, e1, e2, y1, y2, y3, y4, e3, e4⟩ := h.a5 (u 5 (by decide) e); ⟨q, e1, e2, y1, y2, y3, y4, e3, fun f => e4 (u 7 (by decide) f)⟩,
    fun e f => h.a45 (u 4 (by decide) e) (u 5 (by decide) f), fun e f => h.a14 (u 1 (by decide) e) (u 4 (by decide) f), fun e f => h.a15 (u 1 (by decide) e) (u 5 (by decide) f)⟩
theorem Two2.call1 (h : Two2 W VA VB VC i1 i2 tR tA tB m R l x0 x1 x2 x3 x4 x5 w) (h6 : ¬ up l 6) (hb : Below w.heap.size w w') {ka : Option Addr} {kc : Nat} (ho : w'.ownsRow w.heap.size tR 2 (.slice ka m kc) m R) :
    Two2 W VA VB VC i1 i2 tR tA tB m R (l.setIfInBounds 1 true) x0 (.agg #[i1, i2, .slice ka m kc]) x2 x3 x4 x5 w' := by
  have h2 := h.later hb
  have u := fun j (hj : j ≠ 1) (hu : up (l.setIfInBounds 1 true) j) => (up_set hu).resolve_left hj
  have hn (q : Nat) (hq : q < w.heap.size) (ka' : Option Addr) (kc' : Nat) (e : Value.agg #[i1, i2, .slice ka m kc] = .agg #[i1, i2, .slice ka' m kc']) : (Value.slice ka' m kc').ownBlock ≠ some q := by
    injection e with e
    have e3 : Value.slice ka m kc = .slice ka' m kc' := by
      have := congrArg (fun a : Array Value => a[2]?) e
      simpa using this
    rw [← e3]
    intro hk
    have := (ho.lt q hk).1
    omega
  refine ⟨h2.low, fun e => h2.a0 (u 0 (by decide) e), fun e => h2.a2 (u 2 (by decide) e), fun e => h2.a3 (u 3 (by decide) e), fun _ => ⟨ka, kc, rfl, ownsRow_less ho h.low.size⟩,
    fun e => let ⟨q, e1, e2, y1, y2, y3, e3, e4⟩ := h2.a4 (u 4 (by decide) e); ⟨q, e1, e2, y1, y2, y3, e3, fun f => absurd (u 6 (by decide) f) h6⟩,
    fun e => let ⟨q, e1, e2, y1, y2, y3, y4, e3, e4⟩ := h2.a5 (u 5 (by decide) e); ⟨q, e1, e2, y1, y2, y3, y4, e3, fun f => e4 (u 7 (by decide) f)⟩,
    fun e f => h2.a45 (u 4 (by decide) e) (u 5 (by decide) f), fun _ f q ka' kc' e1 e2 => ?_, fun _ f q ka' kc' e1 e2 => ?_⟩
  · obtain ⟨q', g1, _, y1, y2, y3, g3, _⟩ := h.a4 (u 4 (by decide) f)
    have hq := ptr_inj (g1.symm.trans e1)
    subst hq
    exact hn _ (block_lt g3) _ _ e2
  · obtain ⟨q', g1, _, y1, y2, y3, y4, g3, _⟩ := h.a5 (u 5 (by decide) f)
    have hq := ptr_inj (g1.symm.trans e1)
    subst hq
    exact hn _ (block_lt g3) _ _ e2
theorem Two2.box4 (h : Two2 W VA VB VC i1 i2 tR tA tB m R l x0 x1 x2 x3 x4 x5 w) (h6 : ¬ up l 6) (a b c : Value) :
    Two2 W VA VB VC i1 i2 tR tA tB m R (l.setIfInBounds 4 true) x0 x1 x2 x3 (ptr w.heap.size) x5 (w.alloc (.cells #[a, b, c] tA)) := by
  have h2 := h.later (under_box (.cells #[a, b, c] tA))
  have u := fun j (hj : j ≠ 4) (hu : up (l.setIfInBounds 4 true) j) => (up_set hu).resolve_left hj
  refine ⟨h2.low, fun e => h2.a0 (u 0 (by decide) e), fun e => h2.a2 (u 2 (by decide) e), fun e => h2.a3 (u 3 (by decide) e), fun e => h2.a1 (u 1 (by decide) e),
    fun _ => ⟨_, rfl, h.low.size, a, b, c, heap_alloc_new w _, fun f => absurd (u 6 (by decide) f) h6⟩,
    fun e => let ⟨q, e1, e2, y1, y2, y3, y4, e3, e4⟩ := h2.a5 (u 5 (by decide) e); ⟨q, e1, e2, y1, y2, y3, y4, e3, fun f => e4 (u 7 (by decide) f)⟩,
    fun _ f e => ?_, fun e _ q ka kc e1 e2 e3 => ?_, fun e f => h2.a15 (u 1 (by decide) e) (u 5 (by decide) f)⟩
  · obtain ⟨q, g1, _, y1, y2, y3, y4, g3, _⟩ := h.a5 (u 5 (by decide) f)
    have hq := ptr_inj (e.trans g1)
    have := block_lt g3
    omega
  · obtain ⟨ka', kc', g1, g2⟩ := h.a1 (u 1 (by decide) e)
    rw [g1] at e2
    injection e2 with e2
    have e4 : Value.slice ka' m kc' = .slice ka m kc := by
      have := congrArg (fun a : Array Value => a[2]?) e2
      simpa using this
    rw [← e4] at e3
    have h1 := (g2.lt q e3).2
    have h2 := ptr_inj e1
    omega
theorem Two2.box5 (h : Two2 W VA VB VC i1 i2 tR tA tB m R l x0 x1 x2 x3 x4 x5 w) (h7 : ¬ up l 7) (a b c d : Value) :
    Two2 W VA VB VC i1 i2 tR tA tB m R (l.setIfInBounds 5 true) x0 x1 x2 x3 x4 (ptr w.heap.size) (w.alloc (.cells #[a, b, c, d] tB)) := by
  have h2 := h.later (under_box (.cells #[a, b, c, d] tB))
  have u := fun j (hj : j ≠ 5) (hu : up (l.setIfInBounds 5 true) j) => (up_set hu).resolve_left hj
  refine ⟨h2.low, fun e => h2.a0 (u 0 (by decide) e), fun e => h2.a2 (u 2 (by decide) e), fun e => h2.a3 (u 3 (by decide) e), fun e => h2.a1 (u 1 (by decide) e),
    fun e => let ⟨q, e1, e2, y1, y2, y3, e3, e4⟩ := h2.a4 (u 4 (by decide) e); ⟨q, e1, e2, y1, y2, y3, e3, fun f => e4 (u 6 (by decide) f)⟩,
    fun _ => ⟨_, rfl, h.low.size, a, b, c, d, heap_alloc_new w _, fun f => absurd (u 7 (by decide) f) h7⟩,
    fun e _ f => ?_, fun e f => h2.a14 (u 1 (by decide) e) (u 4 (by decide) f), fun e _ q ka kc e1 e2 e3 => ?_⟩
  · obtain ⟨q, g1, _, y1, y2, y3, g3, _⟩ := h.a4 (u 4 (by decide) e)
    have hq := ptr_inj (g1.symm.trans f)
    have := block_lt g3
    omega
  · obtain ⟨ka', kc', g1, g2⟩ := h.a1 (u 1 (by decide) e)
    rw [g1] at e2
    injection e2 with e2
    have e4 : Value.slice ka' m kc' = .slice ka m kc := by
      have := congrArg (fun a : Array Value => a[2]?) e2
      simpa using this
    rw [← e4] at e3
    have h1 := (g2.lt q e3).2
    have h2 := ptr_inj e1
    omega
theorem low_other {B : Nat} (hl : Below B W w) {q : Nat} (hq : B ≤ q) (hsz : w'.heap.size = w.heap.size) (ho : w'.os = w.os) (ht : w'.tape = w.tape) (hp : w'.output = w.output) (h : ∀ j, j ≠ q → w'.heap[j]? = w.heap[j]?) : Below B W w' :=
  ⟨ho.trans hl.os, ht.trans hl.tape, hp.trans hl.output, by rw [hsz]; exact hl.size, fun j hj => by rw [h j (by omega)]; exact hl.block j hj⟩
theorem Two2.store6 (h : Two2 W VA VB VC i1 i2 tR tA tB m R l x0 x1 x2 x3 x4 x5 w) (h1 : up l 1) (h4 : up l 4) :
    ∃ q ka kc y1 y2 y3, x1 = .agg #[i1, i2, .slice ka m kc] ∧ x4 = ptr q ∧ w.heap[q]? = some (.cells #[y1, y2, y3] tA (0, 0)) ∧ Two2 W VA VB VC i1 i2 tR tA tB m R (l.setIfInBounds 6 true) x0 x1 x2 x3 x4 x5 (put3 w q i1 i2 (.slice ka m kc)) := by
  obtain ⟨ka, kc, e1, e2⟩ := h.a1 h1
  obtain ⟨q, g1, g2, y1, y2, y3, g3, g4⟩ := h.a4 h4
  have u := fun j (hj : j ≠ 6) (hu : up (l.setIfInBounds 6 true) j) => (up_set hu).resolve_left hj
  refine ⟨q, ka, kc, y1, y2, y3, e1, g1, g3, ?_⟩
  have hb : (put3 w q i1 i2 (.slice ka m kc)).heap[q]? = some (.cells #[i1, i2, .slice ka m kc] tA (0, 0)) := by
    have f1 := heap_setCell_same w q 0 _ _ i1 g3
    have f2 := heap_setCell_same _ q 1 _ _ i2 f1
    have f3 := heap_setCell_same _ q 2 _ _ (.slice ka m kc) f2
    unfold put3
    simpa [Array.setIfInBounds] using f3
  refine ⟨⟨h.low.os, h.low.tape, h.low.output, by rw [put3_size]; exact h.low.size, fun k hk => by rw [put3_other _ _ _ _ (by omega)]; exact h.low.block k hk⟩, fun e => h.a0 (u 0 (by decide) e), fun e => h.a2 (u 2 (by decide) e), fun e => h.a3 (u 3 (by decide) e), fun e => ⟨ka, kc, e1, ownsRow_same e2 fun k hk => ?_⟩,
    fun e => ⟨q, g1, g2, i1, i2, .slice ka m kc, hb, fun _ => e1⟩, fun e => ?_, fun e f => h.a45 (u 4 (by decide) e) (u 5 (by decide) f), fun e f => h.a14 (u 1 (by decide) e) (u 4 (by decide) f), fun e f => h.a15 (u 1 (by decide) e) (u 5 (by decide) f)⟩
  · have := h.a14 h1 h4 q ka kc g1 e1
    rw [put3_other _ _ _ _ (fun e => this (by rw [hk, e]))]
  · obtain ⟨p, p1, p2, z1, z2, z3, z4, p3, p4⟩ := h.a5 (u 5 (by decide) e)
    have hpq : p ≠ q := fun e2 => h.a45 h4 (u 5 (by decide) e) (by rw [g1, p1, e2])
    exact ⟨p, p1, p2, z1, z2, z3, z4, by rw [put3_other _ _ _ _ hpq]; exact p3, fun f => p4 (u 7 (by decide) f)⟩
def put4c (w : World) (N : Nat) (a b c d : Value) : World := (put3 w N a b c).setCell ⟨N, 3, none⟩ d
theorem put4c_other (w : World) {N : Nat} (a b c d : Value) {k : Nat} (hk : k ≠ N) : (put4c w N a b c d).heap[k]? = w.heap[k]? := by
  unfold put4c
  rw [heap_setCell_other _ ⟨N, 3, none⟩ k _ hk, put3_other _ _ _ _ hk]
theorem put4c_size (w : World) {N : Nat} (a b c d : Value) : (put4c w N a b c d).heap.size = w.heap.size := by
  unfold put4c
  simp [put3_size]
theorem Two2.store7 {z1 z2 z3 z4 : Value} (hVC : VC = .agg #[z1, z2, z3, z4]) (h : Two2 W VA VB VC i1 i2 tR tA tB m R l x0 x1 x2 x3 x4 x5 w) (h3 : up l 3) (h5 : up l 5) :
    ∃ q y1 y2 y3 y4, x3 = VC ∧ x5 = ptr q ∧ w.heap[q]? = some (.cells #[y1, y2, y3, y4] tB (0, 0)) ∧ Two2 W VA VB VC i1 i2 tR tA tB m R (l.setIfInBounds 7 true) x0 x1 x2 x3 x4 x5 (put4c w q z1 z2 z3 z4) := by
  obtain ⟨q, g1, g2, y1, y2, y3, y4, g3, g4⟩ := h.a5 h5
  have u := fun j (hj : j ≠ 7) (hu : up (l.setIfInBounds 7 true) j) => (up_set hu).resolve_left hj
  refine ⟨q, y1, y2, y3, y4, h.a3 h3, g1, g3, ?_⟩
  have hb : (put4c w q z1 z2 z3 z4).heap[q]? = some (.cells #[z1, z2, z3, z4] tB (0, 0)) := by
    have f1 := heap_setCell_same w q 0 _ _ z1 g3
    have f2 := heap_setCell_same _ q 1 _ _ z2 f1
    have f3 := heap_setCell_same _ q 2 _ _ z3 f2
    have f4 := heap_setCell_same _ q 3 _ _ z4 f3
    unfold put4c put3
    simpa [Array.setIfInBounds] using f4
  refine ⟨⟨h.low.os, h.low.tape, h.low.output, by rw [put4c_size]; exact h.low.size, fun k hk => by rw [put4c_other _ _ _ _ _ (by omega)]; exact h.low.block k hk⟩, fun e => h.a0 (u 0 (by decide) e), fun e => h.a2 (u 2 (by decide) e), fun e => h.a3 (u 3 (by decide) e), fun e => ?_,
    fun e => ?_, fun e => ⟨q, g1, g2, z1, z2, z3, z4, hb, fun _ => hVC⟩, fun e f => h.a45 (u 4 (by decide) e) (u 5 (by decide) f), fun e f => h.a14 (u 1 (by decide) e) (u 4 (by decide) f), fun e f => h.a15 (u 1 (by decide) e) (u 5 (by decide) f)⟩
  · obtain ⟨ka, kc, e1, e2⟩ := h.a1 (u 1 (by decide) e)
    refine ⟨ka, kc, e1, ownsRow_same e2 fun k hk => ?_⟩
    have := h.a15 (u 1 (by decide) e) h5 q ka kc g1 e1
    rw [put4c_other _ _ _ _ _ (fun e => this (by rw [hk, e]))]
  · obtain ⟨p, p1, p2, y1, y2, y3, p3, p4⟩ := h.a4 (u 4 (by decide) e)
    have hpq : p ≠ q := fun e2 => h.a45 (u 4 (by decide) e) h5 (by rw [g1, p1, e2])
    exact ⟨p, p1, p2, y1, y2, y3, by rw [put4c_other _ _ _ _ _ hpq]; exact p3, fun f => p4 (u 6 (by decide) f)⟩
end
theorem up_on {l : Array Bool} {i j : Nat} (h : up l j) : up (l.setIfInBounds i true) j := by
  unfold up at *
  exact getD_set_true h
theorem up_same {l : Array Bool} {i : Nat} (h : i < l.size) : up (l.setIfInBounds i true) i := by
  unfold up
  simp [Array.getD, h]
theorem ready_up {ops : Array Oper} {l : Array Bool} {i j : Nat} (hi : i ∈ Region.ready .any ops l) (h : (ops[i]?.map fun o => o.after.any fun e => (e.on == j) && Region.binds .any e) = some true) : up l j := by
  obtain ⟨_, o, ho, hall⟩ := mem_ready.1 hi
  rw [ho] at h
  simp only [Option.map_some, Option.some.injEq] at h
  obtain ⟨k, hk, hk2⟩ := Array.any_eq_true.1 h
  simp only [Bool.and_eq_true, beq_iff_eq] at hk2
  have := hall _ (Array.getElem_mem hk) hk2.2
  rw [hk2.1] at this
  exact this
theorem ready_not {ops : Array Oper} {l : Array Bool} {i : Nat} (hs : l.size = ops.size) (hi : i ∈ Region.ready .any ops l) : ¬ up l i := by
  obtain ⟨h0, o, ho, _⟩ := mem_ready.1 hi
  have hlt := (Array.getElem?_eq_some_iff.1 ho).1
  unfold up
  intro h
  have : l.getD i true = l.getD i false := by
    simp [Array.getD, show i < l.size by omega]
  rw [this, h] at h0
  cases h0
theorem ready_end {ops : Array Oper} {l : Array Bool} (hs : l.size = ops.size) (hlow : ∀ i : Nat, i < ops.size → (ops[i]?.map fun o => o.after.all fun e => decide (e.on < i)) = some true) (h : Region.ready .any ops l = []) : ∀ j, j < ops.size → up l j := by
  intro j
  induction j using Nat.strongRecOn with
  | ind j ih =>
    intro hj
    have hl := hlow j hj
    obtain ⟨o, ho⟩ : ∃ o, ops[j]? = some o := ⟨ops[j], Array.getElem?_eq_getElem hj⟩
    rw [ho] at hl
    simp only [Option.map_some, Option.some.injEq] at hl
    cases hu : l.getD j true
    · have hm : j ∈ Region.ready .any ops l := mem_ready.2 ⟨hu, o, ho, fun e he _ => by
        obtain ⟨k, hk, rfl⟩ := Array.getElem_of_mem he
        have := (Array.all_eq_true.1 hl) k hk
        have hlt : (o.after[k]).on < j := by simpa using this
        exact ih _ hlt (by omega)⟩
      rw [h] at hm
      cases hm
    · unfold up
      have : l.getD j true = l.getD j false := by
        simp [Array.getD, show j < l.size by omega]
      rw [← this, hu]

/- The region, by what each of its eight operations does. -/
theorem two2_region {P : Program} {ops : Array Oper} {id : Nat} {Q : Exit → Act → World → Prop} {W : World} (act : Value → Value → Value → Value → Value → Value → Act) {u0 u1 u2 u3 u4 u5 : Value}
    (VA VB i1 i2 z1 z2 z3 z4 : Value) (tR tA tB : TypeId) (m : Nat) (R : List Value) (hm : P.follows .mixedOrders = true) (hsz : ops.size = 8)
    (hlow : ∀ i : Nat, i < ops.size → (ops[i]?.map fun o => o.after.all fun e => decide (e.on < i)) = some true)
    (hd1 : (ops[1]?.map fun o => o.after.any fun e => (e.on == 0) && Region.binds .any e) = some true)
    (hd3 : (ops[3]?.map fun o => o.after.any fun e => (e.on == 2) && Region.binds .any e) = some true)
    (hd61 : (ops[6]?.map fun o => o.after.any fun e => (e.on == 1) && Region.binds .any e) = some true)
    (hd64 : (ops[6]?.map fun o => o.after.any fun e => (e.on == 4) && Region.binds .any e) = some true)
    (hd73 : (ops[7]?.map fun o => o.after.any fun e => (e.on == 3) && Region.binds .any e) = some true)
    (hd75 : (ops[7]?.map fun o => o.after.any fun e => (e.on == 5) && Region.binds .any e) = some true)
    (H0 : ∀ x0 x1 x2 x3 x4 x5 w K, Below W.heap.size W w → K (act VA x1 x2 x3 x4 x5) w → wpOp P ops Q 0 K (act x0 x1 x2 x3 x4 x5) w)
    (H1 : ∀ x1 x2 x3 x4 x5 w K, Below W.heap.size W w → (∀ w' ka kc, Below w.heap.size w w' → w'.ownsRow w.heap.size tR 2 (.slice ka m kc) m R → K (act VA (.agg #[i1, i2, .slice ka m kc]) x2 x3 x4 x5) w') → wpOp P ops Q 1 K (act VA x1 x2 x3 x4 x5) w)
    (H2 : ∀ x0 x1 x2 x3 x4 x5 w K, Below W.heap.size W w → K (act x0 x1 VB x3 x4 x5) w → wpOp P ops Q 2 K (act x0 x1 x2 x3 x4 x5) w)
    (H3 : ∀ x0 x1 x3 x4 x5 w K, Below W.heap.size W w → (∀ w', Below w.heap.size w w' → K (act x0 x1 VB (.agg #[z1, z2, z3, z4]) x4 x5) w') → wpOp P ops Q 3 K (act x0 x1 VB x3 x4 x5) w)
    (H4 : ∀ x0 x1 x2 x3 x4 x5 w K, (∃ a b c, K (act x0 x1 x2 x3 (ptr w.heap.size) x5) (w.alloc (.cells #[a, b, c] tA)) → wpOp P ops Q 4 K (act x0 x1 x2 x3 x4 x5) w))
    (H5 : ∀ x0 x1 x2 x3 x4 x5 w K, (∃ a b c d, K (act x0 x1 x2 x3 x4 (ptr w.heap.size)) (w.alloc (.cells #[a, b, c, d] tB)) → wpOp P ops Q 5 K (act x0 x1 x2 x3 x4 x5) w))
    (H6 : ∀ x0 x2 x3 x5 w K q ka kc y1 y2 y3, w.heap[q]? = some (.cells #[y1, y2, y3] tA (0, 0)) → K (act x0 (.agg #[i1, i2, .slice ka m kc]) x2 x3 (ptr q) x5) (put3 w q i1 i2 (.slice ka m kc)) → wpOp P ops Q 6 K (act x0 (.agg #[i1, i2, .slice ka m kc]) x2 x3 (ptr q) x5) w)
    (H7 : ∀ x0 x1 x2 x4 w K q y1 y2 y3 y4, w.heap[q]? = some (.cells #[y1, y2, y3, y4] tB (0, 0)) → K (act x0 x1 x2 (.agg #[z1, z2, z3, z4]) x4 (ptr q)) (put4c w q z1 z2 z3 z4) → wpOp P ops Q 7 K (act x0 x1 x2 (.agg #[z1, z2, z3, z4]) x4 (ptr q)) w)
    (hend : ∀ w qA qB ka kc, Below W.heap.size W w → W.heap.size ≤ qA → W.heap.size ≤ qB → qA ≠ qB → w.heap[qA]? = some (.cells #[i1, i2, .slice ka m kc] tA (0, 0)) → w.heap[qB]? = some (.cells #[z1, z2, z3, z4] tB (0, 0)) → w.ownsRow W.heap.size tR 2 (.slice ka m kc) m R →
      Q .normal (act VA (.agg #[i1, i2, .slice ka m kc]) VB (.agg #[z1, z2, z3, z4]) (ptr qA) (ptr qB)) w) :
    (Code.region id ops true).wp P Q (act u0 u1 u2 u3 u4 u5) W := by
  refine wp_region_inv (fun l a w => ∃ x0 x1 x2 x3 x4 x5, a = act x0 x1 x2 x3 x4 x5 ∧ (up l 6 → up l 1 ∧ up l 4) ∧ (up l 7 → up l 3 ∧ up l 5) ∧ Two2 W VA VB (.agg #[z1, z2, z3, z4]) i1 i2 tR tA tB m R l x0 x1 x2 x3 x4 x5 w) hm ?_ ?_ ?_
  · exact ⟨u0, u1, u2, u3, u4, u5, rfl, fun h => absurd h (up_none _ _), fun h => absurd h (up_none _ _), Two2.start _ (Below.refl _ _).drew⟩
  · intro l a w hs hI i hi
    obtain ⟨x0, x1, x2, x3, x4, x5, rfl, h6, h7, ht⟩ := hI
    have hni := ready_not hs hi
    have hi8 : i < 8 := by
      obtain ⟨_, o, ho, _⟩ := mem_ready.1 hi
      have := (Array.getElem?_eq_some_iff.1 ho).1
      omega
    have hl8 : l.size = 8 := by omega
    have g6 (hne : i ≠ 6) : up (l.setIfInBounds i true) 6 → up (l.setIfInBounds i true) 1 ∧ up (l.setIfInBounds i true) 4 := fun h => by
      have := h6 ((up_set h).resolve_left (fun e => hne e.symm))
      exact ⟨up_on this.1, up_on this.2⟩
    have g7 (hne : i ≠ 7) : up (l.setIfInBounds i true) 7 → up (l.setIfInBounds i true) 3 ∧ up (l.setIfInBounds i true) 5 := fun h => by
      have := h7 ((up_set h).resolve_left (fun e => hne e.symm))
      exact ⟨up_on this.1, up_on this.2⟩
    have hc : i = 0 ∨ i = 1 ∨ i = 2 ∨ i = 3 ∨ i = 4 ∨ i = 5 ∨ i = 6 ∨ i = 7 := by omega
    rcases hc with rfl | rfl | rfl | rfl | rfl | rfl | rfl | rfl
    · exact H0 _ _ _ _ _ _ _ _ ht.low ⟨_, _, _, _, _, _, rfl, g6 (by decide), g7 (by decide), ht.load0⟩
    · have e0 := ht.a0 (ready_up hi hd1)
      subst e0
      exact H1 _ _ _ _ _ _ _ ht.low fun w' ka kc hb ho => ⟨_, _, _, _, _, _, rfl, g6 (by decide), g7 (by decide), ht.call1 (fun h => hni (h6 h).1) hb ho⟩
    · exact H2 _ _ _ _ _ _ _ _ ht.low ⟨_, _, _, _, _, _, rfl, g6 (by decide), g7 (by decide), ht.load2⟩
    · have e0 := ht.a2 (ready_up hi hd3)
      subst e0
      exact H3 _ _ _ _ _ _ _ ht.low fun w' hb => ⟨_, _, _, _, _, _, rfl, g6 (by decide), g7 (by decide), ht.call3 hb⟩
    · obtain ⟨a, b, c, hK⟩ := H4 x0 x1 x2 x3 x4 x5 w (fun a w => ∃ x0 x1 x2 x3 x4 x5, a = act x0 x1 x2 x3 x4 x5 ∧ (up (l.setIfInBounds 4 true) 6 → up (l.setIfInBounds 4 true) 1 ∧ up (l.setIfInBounds 4 true) 4) ∧ (up (l.setIfInBounds 4 true) 7 → up (l.setIfInBounds 4 true) 3 ∧ up (l.setIfInBounds 4 true) 5) ∧ Two2 W VA VB (.agg #[z1, z2, z3, z4]) i1 i2 tR tA tB m R (l.setIfInBounds 4 true) x0 x1 x2 x3 x4 x5 w)
      exact hK ⟨_, _, _, _, _, _, rfl, g6 (by decide), g7 (by decide), ht.box4 (fun h => hni (h6 h).2) a b c⟩
    · obtain ⟨a, b, c, d, hK⟩ := H5 x0 x1 x2 x3 x4 x5 w (fun a w => ∃ x0 x1 x2 x3 x4 x5, a = act x0 x1 x2 x3 x4 x5 ∧ (up (l.setIfInBounds 5 true) 6 → up (l.setIfInBounds 5 true) 1 ∧ up (l.setIfInBounds 5 true) 4) ∧ (up (l.setIfInBounds 5 true) 7 → up (l.setIfInBounds 5 true) 3 ∧ up (l.setIfInBounds 5 true) 5) ∧ Two2 W VA VB (.agg #[z1, z2, z3, z4]) i1 i2 tR tA tB m R (l.setIfInBounds 5 true) x0 x1 x2 x3 x4 x5 w)
      exact hK ⟨_, _, _, _, _, _, rfl, g6 (by decide), g7 (by decide), ht.box5 (fun h => hni (h7 h).2) a b c d⟩
    · have hu1 := ready_up hi hd61
      have hu4 := ready_up hi hd64
      obtain ⟨q, ka, kc, y1, y2, y3, rfl, rfl, hb, ht2⟩ := ht.store6 hu1 hu4
      exact H6 _ _ _ _ _ _ _ _ _ _ _ _ hb ⟨_, _, _, _, _, _, rfl, fun _ => ⟨up_on hu1, up_on hu4⟩, g7 (by decide), ht2⟩
    · have hu3 := ready_up hi hd73
      have hu5 := ready_up hi hd75
      obtain ⟨q, y1, y2, y3, y4, rfl, rfl, hb, ht2⟩ := ht.store7 rfl hu3 hu5
      exact H7 _ _ _ _ _ _ _ _ _ _ _ hb ⟨_, _, _, _, _, _, rfl, g6 (by decide), fun _ => ⟨up_on hu3, up_on hu5⟩, ht2⟩
  · intro l a w hs hI hr
    obtain ⟨x0, x1, x2, x3, x4, x5, rfl, _, _, ht⟩ := hI
    have hu := ready_end hs hlow hr
    rw [hsz] at hu
    have e0 := ht.a0 (hu 0 (by decide))
    have e2 := ht.a2 (hu 2 (by decide))
    have e3 := ht.a3 (hu 3 (by decide))
    obtain ⟨ka, kc, e1, ho⟩ := ht.a1 (hu 1 (by decide))
    obtain ⟨qA, e4, g4, y1, y2, y3, b4, f4⟩ := ht.a4 (hu 4 (by decide))
    obtain ⟨qB, e5, g5, p1, p2, p3, p4, b5, f5⟩ := ht.a5 (hu 5 (by decide))
    have hne : qA ≠ qB := fun e => ht.a45 (hu 4 (by decide)) (hu 5 (by decide)) (by rw [e4, e5, e])
    have f4' := f4 (hu 6 (by decide))
    have f5' := f5 (hu 7 (by decide))
    rw [e1] at f4'
    subst e0 e1 e2 e3 e4 e5
    have a4 : (#[i1, i2, .slice ka m kc] : Array Value) = #[y1, y2, y3] := by injection f4'
    have a5 : (#[z1, z2, z3, z4] : Array Value) = #[p1, p2, p3, p4] := by injection f5'
    rw [← a4] at b4
    rw [← a5] at b5
    exact hend _ _ _ _ _ ht.low g4 g5 hne b4 b5 ho
def set6 (T : Array Value) (s0 s1 s2 s3 s4 s5 : Nat) (x0 x1 x2 x3 x4 x5 : Value) : Array Value := (((((T.setIfInBounds s0 x0).setIfInBounds s1 x1).setIfInBounds s2 x2).setIfInBounds s3 x3).setIfInBounds s4 x4).setIfInBounds s5 x5
theorem set_own (T : Array Value) (s : Nat) : T.setIfInBounds s (T.getD s undef) = T := by
  apply Array.ext_getElem?
  intro j
  by_cases e : s = j
  · subst e
    by_cases h : s < T.size
    · rw [Array.getElem?_setIfInBounds_self_of_lt h, Array.getElem?_eq_getElem h]
      simp [h]
    · rw [Array.getElem?_eq_none (by simpa using h), Array.getElem?_eq_none (by omega)]
  · rw [Array.getElem?_setIfInBounds_ne e]
theorem set6_own (T : Array Value) (s0 s1 s2 s3 s4 s5 : Nat) : set6 T s0 s1 s2 s3 s4 s5 (T.getD s0 undef) (T.getD s1 undef) (T.getD s2 undef) (T.getD s3 undef) (T.getD s4 undef) (T.getD s5 undef) = T := by
  unfold set6
  simp only [set_own]
theorem two2_T {P : Program} {ops : Array Oper} {id : Nat} {Q : Exit → Act → World → Prop} {W : World} {T : Array Value} {D : List Deferred} (s0 s1 s2 s3 s4 s5 : Nat)
    (VA VB i1 i2 z1 z2 z3 z4 : Value) (tR tA tB : TypeId) (m : Nat) (R : List Value) (hm : P.follows .mixedOrders = true) (hsz : ops.size = 8)
    (hlow : ∀ i : Nat, i < ops.size → (ops[i]?.map fun o => o.after.all fun e => decide (e.on < i)) = some true)
    (hd1 : (ops[1]?.map fun o => o.after.any fun e => (e.on == 0) && Region.binds .any e) = some true)
    (hd3 : (ops[3]?.map fun o => o.after.any fun e => (e.on == 2) && Region.binds .any e) = some true)
    (hd61 : (ops[6]?.map fun o => o.after.any fun e => (e.on == 1) && Region.binds .any e) = some true)
    (hd64 : (ops[6]?.map fun o => o.after.any fun e => (e.on == 4) && Region.binds .any e) = some true)
    (hd73 : (ops[7]?.map fun o => o.after.any fun e => (e.on == 3) && Region.binds .any e) = some true)
    (hd75 : (ops[7]?.map fun o => o.after.any fun e => (e.on == 5) && Region.binds .any e) = some true)
    (H0 : ∀ x0 x1 x2 x3 x4 x5 w K, Below W.heap.size W w → K ⟨set6 T s0 s1 s2 s3 s4 s5 VA x1 x2 x3 x4 x5, D⟩ w → wpOp P ops Q 0 K ⟨set6 T s0 s1 s2 s3 s4 s5 x0 x1 x2 x3 x4 x5, D⟩ w)
    (H1 : ∀ x1 x2 x3 x4 x5 w K, Below W.heap.size W w → (∀ w' ka kc, Below w.heap.size w w' → w'.ownsRow w.heap.size tR 2 (.slice ka m kc) m R → K ⟨set6 T s0 s1 s2 s3 s4 s5 VA (.agg #[i1, i2, .slice ka m kc]) x2 x3 x4 x5, D⟩ w') → wpOp P ops Q 1 K ⟨set6 T s0 s1 s2 s3 s4 s5 VA x1 x2 x3 x4 x5, D⟩ w)
    (H2 : ∀ x0 x1 x2 x3 x4 x5 w K, Below W.heap.size W w → K ⟨set6 T s0 s1 s2 s3 s4 s5 x0 x1 VB x3 x4 x5, D⟩ w → wpOp P ops Q 2 K ⟨set6 T s0 s1 s2 s3 s4 s5 x0 x1 x2 x3 x4 x5, D⟩ w)
    (H3 : ∀ x0 x1 x3 x4 x5 w K, Below W.heap.size W w → (∀ w', Below w.heap.size w w' → K ⟨set6 T s0 s1 s2 s3 s4 s5 x0 x1 VB (.agg #[z1, z2, z3, z4]) x4 x5, D⟩ w') → wpOp P ops Q 3 K ⟨set6 T s0 s1 s2 s3 s4 s5 x0 x1 VB x3 x4 x5, D⟩ w)
    (H4 : ∀ x0 x1 x2 x3 x4 x5 w K, (∃ a b c, K ⟨set6 T s0 s1 s2 s3 s4 s5 x0 x1 x2 x3 (ptr w.heap.size) x5, D⟩ (w.alloc (.cells #[a, b, c] tA)) → wpOp P ops Q 4 K ⟨set6 T s0 s1 s2 s3 s4 s5 x0 x1 x2 x3 x4 x5, D⟩ w))
    (H5 : ∀ x0 x1 x2 x3 x4 x5 w K, (∃ a b c d, K ⟨set6 T s0 s1 s2 s3 s4 s5 x0 x1 x2 x3 x4 (ptr w.heap.size), D⟩ (w.alloc (.cells #[a, b, c, d] tB)) → wpOp P ops Q 5 K ⟨set6 T s0 s1 s2 s3 s4 s5 x0 x1 x2 x3 x4 x5, D⟩ w))
    (H6 : ∀ x0 x2 x3 x5 w K q ka kc y1 y2 y3, w.heap[q]? = some (.cells #[y1, y2, y3] tA (0, 0)) → K ⟨set6 T s0 s1 s2 s3 s4 s5 x0 (.agg #[i1, i2, .slice ka m kc]) x2 x3 (ptr q) x5, D⟩ (put3 w q i1 i2 (.slice ka m kc)) → wpOp P ops Q 6 K ⟨set6 T s0 s1 s2 s3 s4 s5 x0 (.agg #[i1, i2, .slice ka m kc]) x2 x3 (ptr q) x5, D⟩ w)
    (H7 : ∀ x0 x1 x2 x4 w K q y1 y2 y3 y4, w.heap[q]? = some (.cells #[y1, y2, y3, y4] tB (0, 0)) → K ⟨set6 T s0 s1 s2 s3 s4 s5 x0 x1 x2 (.agg #[z1, z2, z3, z4]) x4 (ptr q), D⟩ (put4c w q z1 z2 z3 z4) → wpOp P ops Q 7 K ⟨set6 T s0 s1 s2 s3 s4 s5 x0 x1 x2 (.agg #[z1, z2, z3, z4]) x4 (ptr q), D⟩ w)
    (hend : ∀ w qA qB ka kc, Below W.heap.size W w → W.heap.size ≤ qA → W.heap.size ≤ qB → qA ≠ qB → w.heap[qA]? = some (.cells #[i1, i2, .slice ka m kc] tA (0, 0)) → w.heap[qB]? = some (.cells #[z1, z2, z3, z4] tB (0, 0)) → w.ownsRow W.heap.size tR 2 (.slice ka m kc) m R →
      Q .normal ⟨set6 T s0 s1 s2 s3 s4 s5 VA (.agg #[i1, i2, .slice ka m kc]) VB (.agg #[z1, z2, z3, z4]) (ptr qA) (ptr qB), D⟩ w) :
    (Code.region id ops true).wp P Q ⟨T, D⟩ W := by
  have h := two2_region (P := P) (ops := ops) (id := id) (Q := Q) (W := W) (fun x0 x1 x2 x3 x4 x5 => ⟨set6 T s0 s1 s2 s3 s4 s5 x0 x1 x2 x3 x4 x5, D⟩) (u0 := T.getD s0 undef) (u1 := T.getD s1 undef) (u2 := T.getD s2 undef) (u3 := T.getD s3 undef) (u4 := T.getD s4 undef) (u5 := T.getD s5 undef) VA VB i1 i2 z1 z2 z3 z4 tR tA tB m R hm hsz hlow hd1 hd3 hd61 hd64 hd73 hd75 H0 H1 H2 H3 H4 H5 H6 H7 hend
  rw [set6_own] at h
  exact h
end Go.Proofs.YteaiidcconggcaaDoor
