/- A region that draws its order, of operations of three sorts: a value, a new box, a value written to a box: one obligation each. -/
import Derived.Test.YteaiidcconggcaaDoorATwoG
namespace Go.Proofs.YteaiidcconggcaaDoor
open Go.RowKit
set_option linter.unusedVariables false
set_option maxRecDepth 100000

inductive Kd where
  | val (s : Nat) (R : Res)
  | box (s n : Nat) (t : TypeId)
  | put (c b : Nat)
def upd (f : Nat → Value) (i : Nat) (v : Value) : Nat → Value := fun j => if j = i then v else f j
theorem upd_same (f : Nat → Value) (i : Nat) (v : Value) : upd f i v i = v := by unfold upd; rw [if_pos rfl]
theorem upd_ne (f : Nat → Value) {i j : Nat} (v : Value) (h : j ≠ i) : upd f i v j = f j := by unfold upd; rw [if_neg h]
def setN (T : Array Value) : List Kd → (Nat → Value) → Nat → Array Value
  | [], _, _ => T
  | .val s _ :: r, f, i => (setN T r f (i + 1)).setIfInBounds s (f i)
  | .box s _ _ :: r, f, i => (setN T r f (i + 1)).setIfInBounds s (f i)
  | .put _ _ :: r, f, i => setN T r f (i + 1)
def fst0 (T : Array Value) (ks : List Kd) (i : Nat) : Value :=
  match ks[i]? with
  | some (.val s _) => T.getD s undef
  | some (.box s _ _) => T.getD s undef
  | _ => undef
theorem setN_own (T : Array Value) (ks : List Kd) : ∀ (r : List Kd) (i : Nat), (∀ j, r[j]? = ks[i + j]?) → setN T r (fst0 T ks) i = T
  | [], _, _ => rfl
  | .val s R :: r, i, h => by
    have h0 := h 0
    have hr := setN_own T ks r (i + 1) fun j => by have := h (j + 1); rw [show i + 1 + j = i + (j + 1) by omega]; simpa using this
    have e : fst0 T ks i = T.getD s undef := by
      unfold fst0
      rw [← show (Kd.val s R :: r)[0]? = ks[i]? from h0]
      rfl
    show (setN T r (fst0 T ks) (i + 1)).setIfInBounds s (fst0 T ks i) = T
    rw [hr, e, set_own]
  | .box s n t :: r, i, h => by
    have h0 := h 0
    have hr := setN_own T ks r (i + 1) fun j => by have := h (j + 1); rw [show i + 1 + j = i + (j + 1) by omega]; simpa using this
    have e : fst0 T ks i = T.getD s undef := by
      unfold fst0
      rw [← show (Kd.box s n t :: r)[0]? = ks[i]? from h0]
      rfl
    show (setN T r (fst0 T ks) (i + 1)).setIfInBounds s (fst0 T ks i) = T
    rw [hr, e, set_own]
  | .put c b :: r, i, h => by
    have hr := setN_own T ks r (i + 1) fun j => by have := h (j + 1); rw [show i + 1 + j = i + (j + 1) by omega]; simpa using this
    exact hr

structure InvN (W : World) (ks : List Kd) (l : Array Bool) (f : Nat → Value) (w : World) : Prop where
  low : Below W.heap.size W w
  v : ∀ i s R, ks[i]? = some (.val s R) → up l i → R.F (f i) w
  b : ∀ i s n t, ks[i]? = some (.box s n t) → up l i → ∃ q, f i = ptr q ∧ W.heap.size ≤ q ∧ ∃ ys : List Value, ys.length = n ∧ w.heap[q]? = some (.cells ys.toArray t (0, 0)) ∧ ∀ j c s' R, ks[j]? = some (.put c i) → ks[c]? = some (.val s' R) → up l j → ys = R.cells (f c)
  bb : ∀ i j s n t s' n' t', i ≠ j → ks[i]? = some (.box s n t) → ks[j]? = some (.box s' n' t') → up l i → up l j → f i ≠ f j
  vb : ∀ i j s R s' n t, ks[i]? = some (.val s R) → ks[j]? = some (.box s' n t) → up l i → up l j → ∀ q, f j = ptr q → R.own (f i) ≠ some q
  d : ∀ j c b, ks[j]? = some (.put c b) → up l j → up l c ∧ up l b
section
variable {W w w' : World} {ks : List Kd} {l : Array Bool} {f : Nat → Value} {i : Nat}
theorem InvN.start (n : Nat) (f : Nat → Value) (hb : Below W.heap.size W w) : InvN W ks (Array.replicate n false) f w :=
  ⟨hb, fun i s R _ h => absurd h (up_none _ _), fun i s n t _ h => absurd h (up_none _ _), fun i j s n t s' n' t' _ _ _ h _ => absurd h (up_none _ _), fun i j s R s' n t _ _ h _ => absurd h (up_none _ _), fun j c b _ h => absurd h (up_none _ _)⟩
theorem InvN.val {s : Nat} {R : Res} {v : Value} (h : InvN W ks l f w) (hni : ¬ up l i) (hk : ks[i]? = some (.val s R)) (hb : Below w.heap.size w w') (hF : R.F v w') (hnew : ∀ k, R.own v = some k → w.heap.size ≤ k ∨ k < W.heap.size) :
    InvN W ks (l.setIfInBounds i true) (upd f i v) w' := by
  have u := fun j (hj : j ≠ i) (hu : up (l.setIfInBounds i true) j) => (up_set hu).resolve_left hj
  have nb : ∀ j s' n t, ks[j]? = some (.box s' n t) → j ≠ i := fun j s' n t hj e => by subst e; rw [hk] at hj; cases hj
  have np : ∀ j c b, ks[j]? = some (.put c b) → j ≠ i := fun j c b hj e => by subst e; rw [hk] at hj; cases hj
  refine ⟨h.low.trans (hb.mono h.low.size), fun j s' R' hj hu => ?_, fun j s' n t hj hu => ?_, fun j j' s1 n1 t1 s2 n2 t2 hne h1 h2 u1 u2 => ?_, fun j j' s1 R1 s2 n t h1 h2 u1 u2 q hq => ?_, fun j c b hj hu => ?_⟩
  · by_cases e : j = i
    · subst e
      rw [hk] at hj
      cases hj
      rw [upd_same]
      exact hF
    · rw [upd_ne _ _ e]
      exact R'.later _ _ _ (h.v j s' R' hj (u j e hu)) hb
  · have e := nb j s' n t hj
    obtain ⟨q, g1, g2, ys, g3, g4, g5⟩ := h.b j s' n t hj (u j e hu)
    refine ⟨q, by rw [upd_ne _ _ e]; exact g1, g2, ys, g3, (hb.block q (block_lt g4)).trans g4, fun j' c s2 R2 k1 k2 hu2 => ?_⟩
    have hu3 := u j' (np _ _ _ k1) hu2
    have hc : c ≠ i := fun e2 => hni (by subst e2; exact (h.d j' c j k1 hu3).1)
    rw [upd_ne _ _ hc]
    exact g5 j' c s2 R2 k1 k2 hu3
  · have e1 := nb _ _ _ _ h1
    have e2 := nb _ _ _ _ h2
    rw [upd_ne _ _ e1, upd_ne _ _ e2]
    exact h.bb j j' _ _ _ _ _ _ hne h1 h2 (u j e1 u1) (u j' e2 u2)
  · have e2 := nb _ _ _ _ h2
    rw [upd_ne _ _ e2] at hq
    by_cases e : j = i
    · subst e
      rw [hk] at h1
      cases h1
      rw [upd_same]
      intro e3
      obtain ⟨q', g1, g2, ys, _, g3, _⟩ := h.b j' _ _ _ h2 (u j' e2 u2)
      have hqq := ptr_inj (g1.symm.trans hq)
      subst hqq
      have := block_lt g3
      have := hnew _ e3
      omega
    · rw [upd_ne _ _ e]
      exact h.vb j j' _ _ _ _ _ h1 h2 (u j e u1) (u j' e2 u2) q hq
  · have := h.d j c b hj (u j (np _ _ _ hj) hu)
    exact ⟨up_on this.1, up_on this.2⟩
theorem InvN.box {s n : Nat} {t : TypeId} (h : InvN W ks l f w) (hni : ¬ up l i) (hk : ks[i]? = some (.box s n t)) (ys : List Value) (hy : ys.length = n) :
    InvN W ks (l.setIfInBounds i true) (upd f i (ptr w.heap.size)) (w.alloc (.cells ys.toArray t)) := by
  have u := fun j (hj : j ≠ i) (hu : up (l.setIfInBounds i true) j) => (up_set hu).resolve_left hj
  have hb : Below w.heap.size w (w.alloc (.cells ys.toArray t)) := under_box _
  have nv : ∀ j s' R, ks[j]? = some (.val s' R) → j ≠ i := fun j s' R hj e => by subst e; rw [hk] at hj; cases hj
  have np : ∀ j c b, ks[j]? = some (.put c b) → j ≠ i := fun j c b hj e => by subst e; rw [hk] at hj; cases hj
  refine ⟨h.low.trans (hb.mono h.low.size), fun j s' R' hj hu => ?_, fun j s' n' t' hj hu => ?_, fun j j' s1 n1 t1 s2 n2 t2 hne h1 h2 u1 u2 => ?_, fun j j' s1 R1 s2 n' t' h1 h2 u1 u2 q hq => ?_, fun j c b hj hu => ?_⟩
  · have e := nv j s' R' hj
    rw [upd_ne _ _ e]
    exact R'.later _ _ _ (h.v j s' R' hj (u j e hu)) hb
  · by_cases e : j = i
    · subst e
      rw [hk] at hj
      cases hj
      refine ⟨w.heap.size, upd_same _ _ _, h.low.size, ys, hy, heap_alloc_new w _, fun j' c s2 R2 k1 k2 hu2 => ?_⟩
      exact absurd (h.d j' c j k1 (u j' (np _ _ _ k1) hu2)).2 hni
    · obtain ⟨q, g1, g2, zs, g3, g4, g5⟩ := h.b j s' n' t' hj (u j e hu)
      refine ⟨q, by rw [upd_ne _ _ e]; exact g1, g2, zs, g3, (hb.block q (block_lt g4)).trans g4, fun j' c s2 R2 k1 k2 hu2 => ?_⟩
      rw [upd_ne _ _ (nv _ _ _ k2)]
      exact g5 j' c s2 R2 k1 k2 (u j' (np _ _ _ k1) hu2)
  · by_cases e1 : j = i
    · subst e1
      have e2 : j' ≠ j := fun e => hne e.symm
      rw [upd_same, upd_ne _ _ e2]
      intro e3
      obtain ⟨q', g1, _, zs, _, g3, _⟩ := h.b j' _ _ _ h2 (u j' e2 u2)
      have := ptr_inj (e3.trans g1)
      have := block_lt g3
      omega
    · by_cases e2 : j' = i
      · subst e2
        rw [upd_same, upd_ne _ _ e1]
        intro e3
        obtain ⟨q', g1, _, zs, _, g3, _⟩ := h.b j _ _ _ h1 (u j e1 u1)
        have := ptr_inj (e3.symm.trans g1)
        have := block_lt g3
        omega
      · rw [upd_ne _ _ e1, upd_ne _ _ e2]
        exact h.bb j j' _ _ _ _ _ _ hne h1 h2 (u j e1 u1) (u j' e2 u2)
  · have e1 := nv _ _ _ h1
    rw [upd_ne _ _ e1]
    have hF := h.v j _ _ h1 (u j e1 u1)
    by_cases e : j' = i
    · subst e
      rw [upd_same] at hq
      intro e3
      have h3 := R1.low _ _ _ hF e3
      have := ptr_inj hq
      omega
    · rw [upd_ne _ _ e] at hq
      exact h.vb j j' _ _ _ _ _ h1 h2 (u j e1 u1) (u j' e u2) q hq
  · have := h.d j c b hj (u j (np _ _ _ hj) hu)
    exact ⟨up_on this.1, up_on this.2⟩
theorem InvN.put {c b s s' n : Nat} {R : Res} {t : TypeId} (h : InvN W ks l f w) (hk : ks[i]? = some (.put c b)) (hc : ks[c]? = some (.val s R)) (hbx : ks[b]? = some (.box s' n t)) (hn : R.n = n)
    (huq : ∀ (j c' : Nat), ks[j]? = some (Kd.put c' b) → c' = c) (uc : up l c) (ub : up l b) :
    ∃ (q : Nat) (ys : List Value), f b = ptr q ∧ ys.length = n ∧ w.heap[q]? = some (.cells ys.toArray t (0, 0)) ∧ R.F (f c) w ∧ InvN W ks (l.setIfInBounds i true) f (putL w q 0 (R.cells (f c))) := by
  have u := fun j (hj : j ≠ i) (hu : up (l.setIfInBounds i true) j) => (up_set hu).resolve_left hj
  have nv : ∀ j s' R, ks[j]? = some (.val s' R) → j ≠ i := fun j s' R hj e => by subst e; rw [hk] at hj; cases hj
  have nb : ∀ j s' n t, ks[j]? = some (.box s' n t) → j ≠ i := fun j s' n t hj e => by subst e; rw [hk] at hj; cases hj
  obtain ⟨q, g1, g2, ys, g3, g4, g5⟩ := h.b b _ _ _ hbx ub
  have hF := h.v c _ _ hc uc
  have hlen := R.len _ _ hF
  have ho : ∀ j, j ≠ q → (putL w q 0 (R.cells (f c))).heap[j]? = w.heap[j]? := fun j hj => putL_other hj _ _ _
  obtain ⟨r1, r2, r3⟩ := putL_rest (q := q) (R.cells (f c)) w 0
  refine ⟨q, ys, g1, g3, g4, hF, ⟨r1.trans h.low.os, r2.trans h.low.tape, r3.trans h.low.output, by rw [putL_size]; exact h.low.size, fun k hk => by rw [ho k (by omega)]; exact h.low.block k hk⟩,
    fun j s1 R1 hj hu => ?_, fun j s1 n1 t1 hj hu => ?_, fun j j' s1 n1 t1 s2 n2 t2 hne h1 h2 u1 u2 => h.bb j j' _ _ _ _ _ _ hne h1 h2 (u j (nb _ _ _ _ h1) u1) (u j' (nb _ _ _ _ h2) u2), fun j j' s1 R1 s2 n1 t1 h1 h2 u1 u2 => h.vb j j' _ _ _ _ _ h1 h2 (u j (nv _ _ _ h1) u1) (u j' (nb _ _ _ _ h2) u2), fun j c' b' hj hu => ?_⟩
  · have e := nv _ _ _ hj
    exact R1.other _ _ _ q (h.v j _ _ hj (u j e hu)) ho (h.vb j b _ _ _ _ _ hj hbx (u j e hu) ub q g1)
  · have e := nb _ _ _ _ hj
    by_cases e2 : j = b
    · subst e2
      rw [hbx] at hj
      cases hj
      refine ⟨q, g1, g2, R.cells (f c), by rw [hlen, hn], putL_all (by rw [g3, hlen, hn]) g4, fun j' c' s2 R2 k1 k2 hu2 => ?_⟩
      have := huq j' c' k1
      subst this
      rw [hc] at k2
      cases k2
      rfl
    · obtain ⟨p, p1, p2, zs, p3, p4, p5⟩ := h.b j _ _ _ hj (u j e hu)
      have hpq : p ≠ q := fun e3 => h.bb j b _ _ _ _ _ _ e2 hj hbx (u j e hu) ub (by rw [g1, p1, e3])
      refine ⟨p, p1, p2, zs, p3, by rw [ho p hpq]; exact p4, fun j' c' s2 R2 k1 k2 hu2 => p5 j' c' s2 R2 k1 k2 ?_⟩
      refine u j' (fun e3 => ?_) hu2
      subst e3
      rw [hk] at k1
      injection k1 with k1
      injection k1 with _ k1
      exact e2 k1.symm
  · by_cases e : j = i
    · subst e
      rw [hk] at hj
      cases hj
      exact ⟨up_on uc, up_on ub⟩
    · have := h.d j c' b' hj (u j e hu)
      exact ⟨up_on this.1, up_on this.2⟩
end
/- What is known of a value that came up. -/
def FactAt (ks : List Kd) (f : Nat → Value) (w : World) (i : Nat) : Prop :=
  match ks[i]? with
  | some (.val _ R) => R.F (f i) w
  | _ => True
def OwnAt (ks : List Kd) (f : Nat → Value) (i j : Nat) : Prop :=
  match ks[i]?, ks[j]? with
  | some (.val _ R), some (.box _ _ _) => ∀ q, f j = ptr q → R.own (f i) ≠ some q
  | _, _ => True
def NeAt (ks : List Kd) (f : Nat → Value) (i j : Nat) : Prop :=
  match ks[i]?, ks[j]? with
  | some (.box _ _ _), some (.box _ _ _) => f i ≠ f j
  | _, _ => True
def PutAt (W : World) (ks : List Kd) (f : Nat → Value) (w : World) (j : Nat) : Prop :=
  match ks[j]? with
  | some (.put c b) => match ks[c]?, ks[b]? with
    | some (.val _ R), some (.box _ _ t) => ∃ q, f b = ptr q ∧ W.heap.size ≤ q ∧ w.heap[q]? = some (.cells (R.cells (f c)).toArray t (0, 0))
    | _, _ => True
  | _ => True
def putOk (ks : List Kd) : Kd → Bool
  | .put c b => match ks[c]?, ks[b]? with
    | some (.val _ R), some (.box _ n _) => R.n == n
    | _, _ => false
  | _ => true
def putOne : Kd → Kd → Bool
  | .put c b, .put c' b' => b != b' || c == c'
  | _, _ => true
def putOn (ops : Array Oper) (ks : List Kd) (i : Nat) : Bool :=
  match ks[i]?, ops[i]? with
  | some (.put c b), some o => (o.after.any fun e => (e.on == c) && Region.binds .any e) && (o.after.any fun e => (e.on == b) && Region.binds .any e)
  | some (.put _ _), none => false
  | _, _ => true
def depOn (ops : Array Oper) (dp : Nat → List Nat) (i : Nat) : Bool :=
  match ops[i]? with
  | some o => (dp i).all fun j => o.after.any fun e => (e.on == j) && Region.binds .any e
  | none => true
/- What each operation must do. -/
def DoesN (P : Program) (ops : Array Oper) (Q : Exit → Act → World → Prop) (W : World) (T : Array Value) (D : List Deferred) (ks : List Kd) (dp : Nat → List Nat) (i : Nat) : Prop :=
  match ks[i]? with
  | some (.val _ R) => ∀ (f : Nat → Value) (w : World) (K : Act → World → Prop), Below W.heap.size W w → (∀ j, j ∈ dp i → FactAt ks f w j) → (∀ v w', Below w.heap.size w w' → R.F v w' → (∀ k, R.own v = some k → w.heap.size ≤ k ∨ k < W.heap.size) → K ⟨setN T ks (upd f i v) 0, D⟩ w') → wpOp P ops Q i K ⟨setN T ks f 0, D⟩ w
  | some (.box _ n t) => ∀ (f : Nat → Value) (w : World) (K : Act → World → Prop), ∃ ys : List Value, ys.length = n ∧ (K ⟨setN T ks (upd f i (ptr w.heap.size)) 0, D⟩ (w.alloc (.cells ys.toArray t)) → wpOp P ops Q i K ⟨setN T ks f 0, D⟩ w)
  | some (.put c b) => match ks[c]?, ks[b]? with
    | some (.val _ R), some (.box _ n t) => ∀ (f : Nat → Value) (w : World) (K : Act → World → Prop) (q : Nat) (ys : List Value), f b = ptr q → ys.length = n → w.heap[q]? = some (.cells ys.toArray t (0, 0)) → R.F (f c) w → K ⟨setN T ks f 0, D⟩ (putL w q 0 (R.cells (f c))) → wpOp P ops Q i K ⟨setN T ks f 0, D⟩ w
    | _, _ => False
  | none => True
/- One operation, held shut: what looks at a goal does not look into it. -/
structure OpDoes (P : Program) (ops : Array Oper) (Q : Exit → Act → World → Prop) (i : Nat) (K : Act → World → Prop) (a : Act) (w : World) : Prop where
  h : wpOp P ops Q i K a w
section
variable {P : Program} {ops : Array Oper} {Q : Exit → Act → World → Prop} {W : World} {T : Array Value} {D : List Deferred} {ks : List Kd} {dp : Nat → List Nat} {i : Nat}
theorem DoesN.val {s : Nat} {R : Res} (hk : ks[i]? = some (.val s R)) (h : ∀ (f : Nat → Value) (w : World) (K : Act → World → Prop), Below W.heap.size W w → (∀ j, j ∈ dp i → FactAt ks f w j) → (∀ v w', Below w.heap.size w w' → R.F v w' → (∀ k, R.own v = some k → w.heap.size ≤ k ∨ k < W.heap.size) → K ⟨setN T ks (upd f i v) 0, D⟩ w') → OpDoes P ops Q i K ⟨setN T ks f 0, D⟩ w) : DoesN P ops Q W T D ks dp i := by
  unfold DoesN
  rw [hk]
  exact fun f w K hb hd hK => (h f w K hb hd hK).h
theorem DoesN.plain {s : Nat} {v : Value} (hk : ks[i]? = some (.val s (Res.plain v []))) (h : ∀ (f : Nat → Value) (w : World) (K : Act → World → Prop), Below W.heap.size W w → (∀ j, j ∈ dp i → FactAt ks f w j) → (∀ w', Below w.heap.size w w' → K ⟨setN T ks (upd f i v) 0, D⟩ w') → OpDoes P ops Q i K ⟨setN T ks f 0, D⟩ w) : DoesN P ops Q W T D ks dp i :=
  DoesN.val hk fun f w K hb hd hK => h f w K hb hd fun w' hb' => hK v w' hb' rfl fun k e => by cases e
theorem DoesN.box {s n : Nat} {t : TypeId} (hk : ks[i]? = some (.box s n t)) (h : ∀ (f : Nat → Value) (w : World) (K : Act → World → Prop), ∃ ys : List Value, ys.length = n ∧ (K ⟨setN T ks (upd f i (ptr w.heap.size)) 0, D⟩ (w.alloc (.cells ys.toArray t)) → OpDoes P ops Q i K ⟨setN T ks f 0, D⟩ w)) : DoesN P ops Q W T D ks dp i := by
  unfold DoesN
  rw [hk]
  exact fun f w K => let ⟨ys, h1, h2⟩ := h f w K; ⟨ys, h1, fun hK => (h2 hK).h⟩
theorem DoesN.put {c b s s' n : Nat} {R : Res} {t : TypeId} (hk : ks[i]? = some (.put c b)) (hc : ks[c]? = some (.val s R)) (hbx : ks[b]? = some (.box s' n t)) (h : ∀ (f : Nat → Value) (w : World) (K : Act → World → Prop) (q : Nat) (ys : List Value), f b = ptr q → ys.length = n → w.heap[q]? = some (.cells ys.toArray t (0, 0)) → R.F (f c) w → K ⟨setN T ks f 0, D⟩ (putL w q 0 (R.cells (f c))) → OpDoes P ops Q i K ⟨setN T ks f 0, D⟩ w) : DoesN P ops Q W T D ks dp i := by
  unfold DoesN
  rw [hk]
  dsimp only
  rw [hc, hbx]
  exact fun f w K q ys e1 e2 e3 e4 hK => (h f w K q ys e1 e2 e3 e4 hK).h
end
theorem factAt {ks : List Kd} {f : Nat → Value} {w : World} {i s : Nat} {R : Res} (h : FactAt ks f w i) (hk : ks[i]? = some (.val s R)) : R.F (f i) w := by
  unfold FactAt at h
  rw [hk] at h
  exact h
theorem plainAt {ks : List Kd} {f : Nat → Value} {w : World} {i s : Nat} {v : Value} {cs : List Value} (h : FactAt ks f w i) (hk : ks[i]? = some (.val s (Res.plain v cs))) : f i = v := factAt h hk
theorem putAt {W : World} {ks : List Kd} {f : Nat → Value} {w : World} {j c b s s' n : Nat} {R : Res} {t : TypeId} (h : PutAt W ks f w j) (hk : ks[j]? = some (.put c b)) (hc : ks[c]? = some (.val s R)) (hbx : ks[b]? = some (.box s' n t)) : ∃ q, f b = ptr q ∧ W.heap.size ≤ q ∧ w.heap[q]? = some (.cells (R.cells (f c)).toArray t (0, 0)) := by
  unfold PutAt at h
  rw [hk] at h
  dsimp only at h
  rw [hc, hbx] at h
  exact h
theorem neAt {ks : List Kd} {f : Nat → Value} {i j s n s' n' : Nat} {t t' : TypeId} (h : NeAt ks f i j) (h1 : ks[i]? = some (.box s n t)) (h2 : ks[j]? = some (.box s' n' t')) : f i ≠ f j := by
  unfold NeAt at h
  rw [h1, h2] at h
  exact h
theorem ownAt {ks : List Kd} {f : Nat → Value} {i j s s' n' : Nat} {R : Res} {t' : TypeId} (h : OwnAt ks f i j) (h1 : ks[i]? = some (.val s R)) (h2 : ks[j]? = some (.box s' n' t')) : ∀ q, f j = ptr q → R.own (f i) ≠ some q := by
  unfold OwnAt at h
  rw [h1, h2] at h
  exact h
theorem wpOp_do {P : Program} {ops : Array Oper} {Q : Exit → Act → World → Prop} {i : Nat} {K : Act → World → Prop} {a : Act} {w : World} {o : Oper} (ho : ops[i]? = some o) (hw : Region.wanted o (yielded ops a.tmps) = true) (h : o.wp P a w K Q) : OpDoes P ops Q i K a w := by
  refine ⟨?_⟩
  unfold wpOp
  rw [ho]
  simp only [hw, if_true]
  exact Or.inl h
theorem wpOp_skip {P : Program} {ops : Array Oper} {Q : Exit → Act → World → Prop} {i : Nat} {K : Act → World → Prop} {a : Act} {w : World} {o : Oper} (ho : ops[i]? = some o) (hw : Region.wanted o (yielded ops a.tmps) = false) (h : K (a.put o.dst undef) w) : OpDoes P ops Q i K a w := by
  refine ⟨?_⟩
  unfold wpOp
  rw [ho]
  simp only [hw]
  exact h
theorem ready_endB {ops : Array Oper} {l : Array Bool} (hs : l.size = ops.size) (hlow : ∀ i : Nat, i < ops.size → (ops[i]?.map fun o => o.after.all fun e => !Region.binds .any e || decide (e.on < i)) = some true) (h : Region.ready .any ops l = []) : ∀ j, j < ops.size → up l j := by
  intro j
  induction j using Nat.strongRecOn with
  | ind j ih =>
    intro hj
    have hl := hlow j hj
    obtain ⟨o, ho⟩ : ∃ o, ops[j]? = some o := ⟨ops[j], Array.getElem?_eq_getElem hj⟩
    rw [ho] at hl
    simp only [Option.map_some, Option.some.injEq] at hl
    cases hu : l.getD j true
    · have hm : j ∈ Region.ready .any ops l := mem_ready.2 ⟨hu, o, ho, fun e he hbe => by
        obtain ⟨k, hk, rfl⟩ := Array.getElem_of_mem he
        have := (Array.all_eq_true.1 hl) k hk
        rw [hbe] at this
        have hlt : (o.after[k]).on < j := by simpa using this
        exact ih _ hlt (by omega)⟩
      rw [h] at hm
      cases hm
    · unfold up
      have : l.getD j true = l.getD j false := by
        simp [Array.getD, show j < l.size by omega]
      rw [← this, hu]
theorem all_range {n : Nat} {p : Nat → Bool} (h : (List.range n).all p = true) (i : Nat) (hi : i < n) : p i = true := List.all_eq_true.1 h i (List.mem_range.2 hi)
theorem regN {P : Program} {ops : Array Oper} {id : Nat} {Q : Exit → Act → World → Prop} {W : World} {T : Array Value} {D : List Deferred} (ks : List Kd) (dp : Nat → List Nat) (hm : P.follows .mixedOrders = true) (hsz : ops.size = ks.length)
    (hlow : ((List.range ops.size).all fun i => (ops[i]?.map fun o => o.after.all fun e => !Region.binds .any e || decide (e.on < i)) == some true) = true)
    (hpo : (ks.all (putOk ks)) = true) (hp1 : (ks.all fun k => ks.all (putOne k)) = true) (hpn : ((List.range ops.size).all (putOn ops ks)) = true) (hdp : ((List.range ops.size).all (depOn ops dp)) = true)
    (hstep : ∀ i, i < ks.length → DoesN P ops Q W T D ks dp i)
    (hend : ∀ f w, Below W.heap.size W w → (∀ i, FactAt ks f w i) → (∀ j, PutAt W ks f w j) → (∀ i j, i ≠ j → NeAt ks f i j) → (∀ i j, OwnAt ks f i j) → Q .normal ⟨setN T ks f 0, D⟩ w) :
    (Code.region id ops true).wp P Q ⟨T, D⟩ W := by
  have hone : ∀ (j c b j' c' : Nat), ks[j]? = some (Kd.put c b) → ks[j']? = some (Kd.put c' b) → c' = c := fun j c b j' c' h1 h2 => by
    have := List.all_eq_true.1 hp1 _ (List.mem_of_getElem? h1)
    have := List.all_eq_true.1 this _ (List.mem_of_getElem? h2)
    unfold putOne at this
    simp at this
    exact this.symm
  refine wp_region_inv (fun l a w => ∃ f, a = ⟨setN T ks f 0, D⟩ ∧ InvN W ks l f w) hm ?_ ?_ ?_
  · exact ⟨fst0 T ks, by rw [setN_own T ks ks 0 fun j => by rw [Nat.zero_add]], InvN.start _ _ (Below.refl _ _).drew⟩
  · intro l a w hs hI i hi
    obtain ⟨f, rfl, hv⟩ := hI
    have hni := ready_not hs hi
    have hin : i < ops.size := by
      obtain ⟨_, o, ho, _⟩ := mem_ready.1 hi
      exact (Array.getElem?_eq_some_iff.1 ho).1
    have hst := hstep i (by omega)
    obtain ⟨k, hk⟩ : ∃ k, ks[i]? = some k := ⟨ks[i], List.getElem?_eq_getElem (by omega)⟩
    unfold DoesN at hst
    rw [hk] at hst
    cases k with
    | val s R =>
      refine hst f w _ hv.low (fun j hj => ?_) fun v w' hb hF hn => ⟨_, rfl, hv.val hni hk hb hF hn⟩
      unfold FactAt
      have hu : up l j := by
        have hd := all_range hdp i hin
        unfold depOn at hd
        obtain ⟨o, ho⟩ : ∃ o, ops[i]? = some o := ⟨ops[i], Array.getElem?_eq_getElem hin⟩
        rw [ho] at hd
        have := List.all_eq_true.1 hd j hj
        exact ready_up hi (by rw [ho]; simp only [Option.map_some]; rw [this])
      split
      · rename_i s' R' hj'
        exact hv.v j _ _ hj' hu
      · trivial
    | box s n t =>
      obtain ⟨ys, hy, hK⟩ := hst f w (fun a w => ∃ f, a = ⟨setN T ks f 0, D⟩ ∧ InvN W ks (l.setIfInBounds i true) f w)
      exact hK ⟨_, rfl, hv.box hni hk ys hy⟩
    | put c b =>
      have hok := List.all_eq_true.1 hpo _ (List.mem_of_getElem? hk)
      unfold putOk at hok
      dsimp only at hst hok
      have hd := all_range hpn i hin
      unfold putOn at hd
      obtain ⟨o, ho⟩ : ∃ o, ops[i]? = some o := ⟨ops[i], Array.getElem?_eq_getElem hin⟩
      rw [hk, ho] at hd
      simp only [Bool.and_eq_true] at hd
      have uc : up l c := ready_up hi (by rw [ho]; simp only [Option.map_some]; rw [hd.1])
      have ub : up l b := ready_up hi (by rw [ho]; simp only [Option.map_some]; rw [hd.2])
      split at hst
      · rename_i s R s' n t hc hbx
        rw [hc, hbx] at hok
        obtain ⟨q, ys, g1, g2, g3, g4, g5⟩ := hv.put hk hc hbx (by simpa using hok) (fun j c' hj => hone i c b j c' hk hj) uc ub
        exact hst f w _ q ys g1 g2 g3 g4 ⟨_, rfl, g5⟩
      · exact hst.elim
  · intro l a w hs hI hr
    obtain ⟨f, rfl, hv⟩ := hI
    have hu := ready_endB hs (fun i hi => by simpa using all_range hlow i hi) hr
    have hul : ∀ {i : Nat} {k : Kd}, ks[i]? = some k → up l i := fun {i k} h => hu i (by have := (List.getElem?_eq_some_iff.1 h).1; omega)
    refine hend f w hv.low (fun i => ?_) (fun j => ?_) (fun i j hne => ?_) fun i j => ?_
    · unfold FactAt
      split
      · rename_i s R h
        exact hv.v i _ _ h (hul h)
      · trivial
    · unfold PutAt
      split
      · rename_i c b h
        split
        · rename_i s R s' n t hc hbx
          obtain ⟨q, g1, g2, ys, g3, g4, g5⟩ := hv.b b _ _ _ hbx (hul hbx)
          have := g5 j c _ _ h hc (hul h)
          subst this
          exact ⟨q, g1, g2, g4⟩
        · trivial
      · trivial
    · unfold NeAt
      split
      · rename_i h1 h2
        exact hv.bb i j _ _ _ _ _ _ hne h1 h2 (hul h1) (hul h2)
      · trivial
    · unfold OwnAt
      split
      · rename_i h1 h2
        exact hv.vb i j _ _ _ _ _ h1 h2 (hul h1) (hul h2)
      · trivial
end Go.Proofs.YteaiidcconggcaaDoor
