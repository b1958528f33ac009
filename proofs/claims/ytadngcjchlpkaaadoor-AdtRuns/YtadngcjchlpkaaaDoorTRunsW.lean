/- The walk of AdtRuns. -/
import Derived.Test.YtadngcjchlpkaaaDoorBundleT9
import Derived.Test.YtadngcjchlpkaaaDoorARegN
import Derived.Deep.DeepCutAuto
import Derived.Deep.CutBlock
namespace Go.Proofs.YtadngcjchlpkaaaDoor
open Go.RowKit
set_option linter.unusedVariables false
set_option maxRecDepth 100000

theorem own_unlike7 {w : World} {base size n : Nat} {e t : TypeId} {v : Value} {xs : List Value} (h : w.ownsRow base e size v n xs) {k : Nat} {c : Array Value} (hb : w.heap[k]? = some (.cells c t (0, 0))) (hne : e ≠ t) : v.ownBlock ≠ some k := by
  rcases h.2 with ⟨rfl, _⟩ | ⟨g, cap, cur, rfl, _, hh, _⟩
  · intro e; cases e
  · intro e'
    have e2 : g = k := by injection e'
    subst e2
    rw [hh] at hb
    injection hb with hb
    injection hb with _ hb
    exact hne hb
theorem own_apart7 {w : World} {b1 s1 n1 b2 s2 n2 : Nat} {e1 e2 : TypeId} {v1 v2 : Value} {x1 x2 : List Value} (h1 : w.ownsRow b1 e1 s1 v1 n1 x1) (h2 : w.ownsRow b2 e2 s2 v2 n2 x2) (hne : e2 ≠ e1) : v1.ownBlock = none ∨ v1.ownBlock ≠ v2.ownBlock := by
  rcases h1.2 with ⟨rfl, _⟩ | ⟨g, cap, cur, rfl, _, hh, _⟩
  · exact Or.inl rfl
  · exact Or.inr fun e => own_unlike7 h2 hh hne e.symm
theorem own_zero {w : World} {base size n : Nat} {e : TypeId} {v : Value} {xs : List Value} (h : w.ownsRow base e size v n xs) : w.ownsRow 0 e size v n xs := ownsRow_less h (Nat.zero_le _)
theorem rapply_own {w : World} {v : Value} {s : VS} {c : MC} (h : StOwn 0 71 w v s) (hs : s.rows.length ≤ 1000) (hop : okOp c.op) (hcb : c.op ≠ 11 → c.b = []) (hf : s.fit) (r : MR) :
    Calls Tryd.prog 20 #[v, mcV c, mrV r] w fun e w' => ∃ v', e = .returned v' ∧ StOwn 0 71 w' v' (apply2 s c r) ∧ Below w.heap.size w w' := by
  have key : Calls Tryd.prog 20 #[v, mcV c, mrV r] w fun e w' => ∃ v', e = .returned v' ∧ (StOwn w.heap.size 71 w' v' (apply2 s c r) ∨ (v' = v ∧ apply2 s c r = s)) ∧ Below w.heap.size w w' := by
    by_cases hk : (mfact c.op).kind = s.kind
    · exact rapply_eq h.at hs hop hcb hf r hk
    · rw [show apply2 s c r = s by unfold apply2 applyBy; rw [if_pos (Or.inl hk)]]
      exact rapply_ne h.at hop r hk
  refine key.mono fun e w' hh => ?_
  obtain ⟨v', rfl, hor, hb⟩ := hh
  rcases hor with ⟨kk, hv, ho⟩ | ⟨rfl, hs2⟩
  · exact ⟨_, rfl, ⟨kk, hv, own_zero ho⟩, hb⟩
  · obtain ⟨kk, hv, ho⟩ := h
    exact ⟨_, rfl, by rw [hs2]; exact ⟨kk, hv, ownsRow_below ho hb⟩, hb⟩
theorem tk_one (s : VS) : ∀ k r, r ∈ tk s k → r.code = 1
  | 0, r, h => by cases h
  | k + 1, r, h => by
    unfold tk at h
    rcases List.mem_append.mp h with h | h
    · exact tk_one s k r h
    · split at h
      · simp only [List.mem_singleton] at h
        rw [h]
      · cases h
theorem okR_12 (b : Bool) : (okR b).code = 1 ∨ (okR b).code = 2 := by cases b <;> decide
theorem answers_12 {x : VS} {c : MC} {r : MR} (hr : r ∈ answers x c) : r.code = 1 ∨ r.code = 2 := by
  unfold answers at hr
  split at hr
  · cases hr
  split at hr
  · simp only [List.mem_singleton] at hr; subst hr; exact Or.inl rfl
  split at hr
  · simp only [List.mem_singleton] at hr; subst hr; exact Or.inl rfl
  split at hr
  · simp only [List.mem_singleton] at hr; subst hr; exact okR_12 _
  split at hr
  · simp only [List.mem_singleton] at hr; subst hr; exact okR_12 _
  split at hr
  · simp only [List.mem_singleton] at hr; subst hr; exact okR_12 _
  split at hr
  · simp only [List.mem_singleton] at hr; subst hr
    unfold lookR
    split
    · exact Or.inl rfl
    · exact okR_12 _
  split at hr
  · simp only [List.mem_singleton] at hr; subst hr
    unfold frontR
    split
    · exact okR_12 _
    · exact Or.inl rfl
  split at hr
  · unfold takes at hr
    split at hr
    · simp only [List.mem_singleton] at hr; subst hr; exact okR_12 _
    · exact Or.inl (tk_one x _ r hr)
  · simp only [List.mem_singleton] at hr; subst hr; exact okR_12 _
theorem under_steps : Tryd.prog.underlying 58 = some (.slice 60) := by kernel_rfl
theorem info_step : (Tryd.prog.info? 60).map (fun i => (i.zero, i.size, i.bytes)) = some (some (.agg #[.int .i64 0, .string ⟨#[]⟩, .string ⟨#[]⟩, .int .i64 0, .int .i64 0, .string ⟨#[]⟩, .int .i64 0]), 7, 80) := by kernel_rfl
theorem seven_new (w : World) (a b c d e f g : Value) (t : TypeId) {n : Nat} (hn : w.heap.size = n) : ∀ j u, [a, b, c, d, e, f, g][j]? = some u → (w.alloc (.cells #[a, b, c, d, e, f, g] t)).cell? ((⟨n, 0, none⟩ : Addr).add j) = some u := by
  subst hn
  intro j u hu
  rw [plain_add, Nat.zero_add, block_cell (heap_alloc_new w _)]
  match j, hu with
  | 0, hu => exact hu
  | 1, hu => exact hu
  | 2, hu => exact hu
  | 3, hu => exact hu
  | 4, hu => exact hu
  | 5, hu => exact hu
  | 6, hu => exact hu
  | j + 7, hu => simp at hu

/- The law's state, its box, the steps so far. -/
structure Rr (W : World) (y : VS) (ya : Option Addr) (yc : Nat) (la : Option Addr) (lc : Nat) (l : List (MC × MR)) (wr : World) : Prop where
  low : Below W.heap.size W wr
  box : wr.heap[W.heap.size]? = some (.cells #[.int .i64 y.kind, .int .i64 y.n, .slice ya y.rows.length yc] 30 (0, 0))
  rows : wr.ownsRow 0 71 2 (.slice ya y.rows.length yc) y.rows.length (R9 y.rows)
  own : wr.ownsRow (W.heap.size + 1) 60 7 (.slice la l.length lc) l.length (E7 l)
section
variable {W wr w5 w6 : World} {y z : VS} {ya za la ua : Option Addr} {yc zc lc uc : Nat} {l : List (MC × MR)}
theorem Rr.later (h : Rr W y ya yc la lc l wr) (hb : Below wr.heap.size wr w5) : Rr W y ya yc la lc l w5 :=
  ⟨h.low.trans (hb.mono h.low.size), (hb.block _ (block_lt h.box)).trans h.box, ownsRow_below h.rows hb, ownsRow_below h.own hb⟩
theorem Rr.at (h : Rr W y ya yc la lc l wr) : StOwn 0 71 wr (.agg #[.int .i64 y.kind, .int .i64 y.n, .slice ya y.rows.length yc]) y := ⟨_, rfl, h.rows⟩
theorem Rr.grow (h : Rr W y ya yc la lc l w5) (hg : w5.grownBy w6 (Value.slice la l.length lc).ownBlock) (p : MC × MR) (ho : w6.ownsRow (W.heap.size + 1) 60 7 (.slice ua (l.length + 1) uc) (l.length + 1) (E7 l ++ E7 [p])) : Rr W y ya yc ua uc (l ++ [p]) w6 := by
  have hlo := h.own.lt
  have e1 : (l ++ [p]).length = l.length + 1 := by simp
  refine ⟨h.low.grown hg h.low.size (fun k e => by have := (hlo k e).1; omega), (hg.block _ (block_lt h.box) (fun e => by have := (hlo _ e.symm).1; omega)).trans h.box, World.ownsRow.kept h.rows hg (own_apart7 h.rows h.own (by decide)), ?_⟩
  rw [e1, E7_append]
  exact ho
theorem Rr.put (h : Rr W y ya yc la lc l w5) (ho : w5.ownsRow 0 71 2 (.slice za z.rows.length zc) z.rows.length (R9 z.rows)) : Rr W z za zc la lc l (put3 w5 W.heap.size (.int .i64 z.kind) (.int .i64 z.n) (.slice za z.rows.length zc)) := by
  refine ⟨⟨h.low.os, h.low.tape, h.low.output, by rw [put3_size]; exact h.low.size, fun j hj => by rw [put3_other _ _ _ _ (by omega)]; exact h.low.block j hj⟩, ?_, ownsRow_same ho fun j hj => ?_, ownsRow_same h.own fun j hj => ?_⟩
  · have f1 := heap_setCell_same w5 W.heap.size 0 _ _ (.int .i64 z.kind) h.box
    have f2 := heap_setCell_same _ W.heap.size 1 _ _ (.int .i64 z.n) f1
    have f3 := heap_setCell_same _ W.heap.size 2 _ _ (.slice za z.rows.length zc) f2
    unfold put3
    simpa [Array.setIfInBounds] using f3
  · refine put3_other _ _ _ _ fun e => ?_
    subst e
    exact own_unlike7 ho h.box (by decide) hj
  · have := (h.own.lt j hj).1
    exact put3_other _ _ _ _ (by omega)
end
/- Two boxes stay. -/
structure Sx (W : World) (q : Nat) (D : Obj) (R : Nat) (E : Obj) (w' : World) : Prop where
  low : Below W.heap.size W w'
  d : w'.heap[q]? = some D
  r : w'.heap[R]? = some E
theorem blk_lt {w : World} {k : Nat} {o : Obj} (h : w.heap[k]? = some o) : k < w.heap.size := by
  rcases Nat.lt_or_ge k w.heap.size with h1 | h1
  · exact h1
  · rw [Array.getElem?_eq_none h1] at h; cases h
section
variable {W w1 w2 : World} {q R : Nat} {D E : Obj}
theorem Sx.below (h : Sx W q D R E w1) (hb : Below w1.heap.size w1 w2) : Sx W q D R E w2 := ⟨h.low.trans (hb.mono h.low.size), (hb.block _ (blk_lt h.d)).trans h.d, (hb.block _ (blk_lt h.r)).trans h.r⟩
theorem Sx.drew (h : Sx W q D R E w1) : Sx W q D R E w1.drew := h.below ((Below.refl _ _).drew)
theorem Sx.dcells {a b c d : Value} {t : TypeId} (W : World) (q R : Nat) (E : Obj) : (∀ w1, Sx W q (.cells #[a, b, c, d] t (0, 0)) R E w1 → w1.cell? ⟨q, 0, none⟩ = some a) ∧ (∀ w1, Sx W q (.cells #[a, b, c, d] t (0, 0)) R E w1 → w1.cell? ⟨q, 1, none⟩ = some b) ∧ (∀ w1, Sx W q (.cells #[a, b, c, d] t (0, 0)) R E w1 → w1.cell? ⟨q, 2, none⟩ = some c) ∧ (∀ w1, Sx W q (.cells #[a, b, c, d] t (0, 0)) R E w1 → w1.cell? ⟨q, 3, none⟩ = some d) := by
  refine ⟨fun w1 h => ?_, fun w1 h => ?_, fun w1 h => ?_, fun w1 h => ?_⟩ <;> rw [block_cell h.d] <;> rfl
theorem Sx.rcells {a b c : Value} {t : TypeId} (W : World) (q R : Nat) (D : Obj) : (∀ w1, Sx W q D R (.cells #[a, b, c] t (0, 0)) w1 → w1.cell? ⟨R, 0, none⟩ = some a) ∧ (∀ w1, Sx W q D R (.cells #[a, b, c] t (0, 0)) w1 → w1.cell? ⟨R, 1, none⟩ = some b) ∧ (∀ w1, Sx W q D R (.cells #[a, b, c] t (0, 0)) w1 → w1.cell? ⟨R, 2, none⟩ = some c) := by
  refine ⟨fun w1 h => ?_, fun w1 h => ?_, fun w1 h => ?_⟩ <;> rw [block_cell h.r] <;> rfl
end
theorem Fr.set {W w : World} (h : Fr W w) {q : Nat} (hq : W.heap.size ≤ q) (k : Nat) (v : Value) : Fr W (w.setCell ⟨q, k, none⟩ v) :=
  ⟨h.low.os, h.low.tape, h.low.output, by simpa using h.low.size, fun j hj => by rw [heap_setCell_other _ ⟨q, k, none⟩ j _ (by show j ≠ q; omega)]; exact h.low.block j hj⟩
/- A result that is a call. -/
def Res.call : Res where
  F := fun v _ => ∃ V : MC, V.may ∧ v = mcV V
  own := fun _ => none
  cells := stCells
  n := 4
  len := fun v w ⟨V, _, e⟩ => by subst e; rfl
  later := fun v w w' h _ => h
  other := fun v w w' q h _ _ => h
  low := fun v w k _ h => by cases h
theorem box4_before {w8 ww : World} {a b c d : Value} {t : TypeId} (h : Below ((w8.alloc (.cells #[a, b, c, d] t)).drew).heap.size ((w8.alloc (.cells #[a, b, c, d] t)).drew) ww) : ww.heap[w8.heap.size]? = some (.cells #[a, b, c, d] t (0, 0)) := (h.block w8.heap.size (by simp)).trans (heap_alloc_new w8 _)
/- What the loop has found: steps, how many of them are legal, the state behind these. -/
structure Rf (x : VS) (bent : Int) (l : List (MC × MR)) (m : Nat) : Prop where
  len : l.length ≤ 12
  steps : Steps l
  few : m ≤ l.length
  good : ∀ k (hk : k < l.length), k < m → legal (runSt x (l.take k)) (l[k]'hk).1 (l[k]'hk).2 = true
  stop : ∀ hk : m < l.length, legal (runSt x (l.take m)) (l[m]'hk).1 (l[m]'hk).2 = false
  yes : 0 ≤ bent ∧ bent < (l.length : Int) → (m : Int) = bent
  no : ¬ (0 ≤ bent ∧ bent < (l.length : Int)) → m = l.length
structure Rg (x : VS) (bent : Int) (l : List (MC × MR)) : Prop where
  steps : Steps l
  good : ∀ k (hk : k < l.length), legal (runSt x (l.take k)) (l[k]'hk).1 (l[k]'hk).2 = true
  no : ¬ (0 ≤ bent ∧ bent < (l.length : Int))
theorem Rg.nil (x : VS) (bent : Int) : Rg x bent [] := ⟨fun p h => (by cases h), fun k h => (by simp at h), fun h => (by simp at h; omega)⟩
theorem Rg.full {x : VS} {bent : Int} {l : List (MC × MR)} (h : Rg x bent l) (h12 : l.length ≤ 12) : Rf x bent l l.length := ⟨h12, h.steps, Nat.le_refl _, fun k hk _ => h.good k hk, fun hk => absurd hk (Nat.lt_irrefl _), fun hb => absurd hb h.no, fun _ => rfl⟩
theorem steps_snoc {l : List (MC × MR)} {p : MC × MR} (h : Steps l) (hp : okOp p.1.op) : Steps (l ++ [p]) := fun q hq => by
  rcases List.mem_append.mp hq with hq | hq
  · exact h q hq
  · rw [List.mem_singleton.mp hq]; exact hp
theorem Rg.on {x : VS} {bent : Int} {l : List (MC × MR)} (h : Rg x bent l) (p : MC × MR) (hp : okOp p.1.op) (hl : legal (runSt x l) p.1 p.2 = true) (hb : ¬ (l.length : Int) = bent) : Rg x bent (l ++ [p]) := by
  refine ⟨steps_snoc h.steps hp, fun k hk => ?_, fun hn => ?_⟩
  · rcases Nat.lt_or_ge k l.length with h1 | h1
    · rw [List.take_append_of_le_length (by omega), List.getElem_append_left h1]
      exact h.good k h1
    · have e : k = l.length := by simp at hk; omega
      subst e
      rw [List.take_append_of_le_length (Nat.le_refl _), List.take_length, List.getElem_append_right (Nat.le_refl _)]
      simpa using hl
  · have := h.no
    simp at hn
    omega
theorem Rg.bend {x : VS} {bent : Int} {l : List (MC × MR)} (h : Rg x bent l) (h12 : l.length < 12) (p : MC × MR) (hp : okOp p.1.op) (hl : legal (runSt x l) p.1 p.2 = false) (hb : (l.length : Int) = bent) : Rf x bent (l ++ [p]) l.length := by
  refine ⟨by simp; omega, steps_snoc h.steps hp, by simp, fun k hk hk2 => ?_, fun hk => ?_, fun _ => hb, fun hn => absurd (by simp; omega) hn⟩
  · rw [List.take_append_of_le_length (by omega), List.getElem_append_left hk2]
    exact h.good k hk2
  · rw [List.take_append_of_le_length (Nat.le_refl _), List.take_length, List.getElem_append_right (Nat.le_refl _)]
    simpa using hl
theorem take_run {x : VS} {l : List (MC × MR)} (p : MC × MR) : runSt x ((l ++ [p]).take l.length) = runSt x l := by rw [List.take_append_of_le_length (Nat.le_refl _), List.take_length]
theorem bent_code {c : Int} (h : c = 1 ∨ c = 2) : IntKind.i64.wrap (3 - c) = 3 - c := by rw [IntKind.wrap_i64]; omega

set_option maxHeartbeats 102400000 in
theorem truns_any {w : World} {v : Value} {s : VS} (hs : StAt w v s) (hsn : -9223372036854775808 ≤ s.n ∧ s.n ≤ 9223372036854775807) (hsz : ∀ i (h : i < s.rows.length), (s.rows[i]'h).1.length ≤ maxLen ∧ (s.rows[i]'h).2.length ≤ maxLen)
    (ca : Option Addr) (len cap : Nat) (hlen : (len : Int) ≤ 9223372036854775807) (hrc : RCalls w ca len) (bent : Int) (hbI : I64 bent) (hw : MD w) :
    Calls Tryd.prog 6 #[v, .slice ca len cap, .int .i64 bent] w fun e w' => e = .returned (.bool true) ∧ Below w.heap.size w w' := by
  obtain ⟨i0, hi, hz0, hz1, hz2⟩ := info_parts info_step
  have HTS := hide (fun (w1 : World) (hb : Below w.heap.size w w1) => tstate_any (hs.later hb) hsn hsz)
  have HAW := hide (fun (w1 : World) (hb : Below w.heap.size w w1) => tawake_any (hw.later hb))
  have HMD := hide hw
  have HRC := hide hrc
  have HBI := hide hbI
  obtain ⟨k0, rfl, hr⟩ := hs
  obtain ⟨a, c, rfl, hc, hm⟩ := hr.shape
  have hst := under_box (w := w) (.cells #[.int .i64 s.kind, .int .i64 s.n, .slice a s.rows.length c] 24)
  clear hr hw hsn hsz hrc hbI
  go_enter Tryd.func6, Tryd.ntmps6
  go_wp2_with fail
  refine (unhide HTS _ hst).mono ?_
  rintro e w1 ⟨v1, rfl, x, hmay, _, ⟨kx, rfl, hox⟩, hb1⟩
  obtain ⟨xa, xc, rfl, _⟩ := ownsRow_slice hox
  have hl1 := hst.trans (hb1.mono hst.size)
  have HMAY := hide hmay
  have HL1 := hide (hl1.alloc hl1.size (.cells #[.int .i64 x.kind, .int .i64 x.n, .slice xa x.rows.length xc] 30))
  have HXO1 := hide (own_zero (hox.alloc (.cells #[.int .i64 x.kind, .int .i64 x.n, .slice xa x.rows.length xc] 30)))
  have HXAT : Hid (StAt (w1.alloc (.cells #[.int .i64 x.kind, .int .i64 x.n, .slice xa x.rows.length xc] 30)) (.agg #[.int .i64 x.kind, .int .i64 x.n, .slice xa x.rows.length xc]) x) := ⟨_, rfl, Row2.of_own (hox.alloc _)⟩
  have HXBOX := hide (heap_alloc_new w1 (.cells #[.int .i64 x.kind, .int .i64 x.n, .slice xa x.rows.length xc] 30))
  clear hmay hox hb1 hl1 hst HTS
  go_wp2_with fail
  refine (own_any (unhide HXAT) (by have := may_small (unhide HMAY); omega)).mono ?_
  rintro e w2 ⟨v2, rfl, ⟨k2, rfl, hoo⟩, hb2⟩
  obtain ⟨oa, oc, rfl, _⟩ := ownsRow_slice hoo
  have hbw := hb2.trans ((under_box (.cells #[.int .i64 x.kind, .int .i64 x.n, .slice oa x.rows.length oc] 24)).mono hb2.size)
  have HL2 := hide ((unhide HL1).trans (hbw.mono (unhide HL1).size))
  have HXO2 := hide (ownsRow_below (unhide HXO1) hbw)
  have HXBOX2 := hide ((hbw.block w1.heap.size (by simp)).trans (unhide HXBOX))
  have HOBOX2 := hide (heap_alloc_new w2 (.cells #[.int .i64 x.kind, .int .i64 x.n, .slice oa x.rows.length oc] 24))
  have HOO2 := hide (hoo.alloc (.cells #[.int .i64 x.kind, .int .i64 x.n, .slice oa x.rows.length oc] 24))
  clear hoo hb2 hbw HL1 HXO1 HXBOX HXAT
  go_wp2_with fail
  refine (unhide HAW _ (unhide HL2)).mono ?_
  rintro e w3 ⟨rfl, hb3⟩
  have HL3 := hide ((unhide HL2).trans (hb3.mono (unhide HL2).size))
  have HXO3 := hide (ownsRow_below (unhide HXO2) hb3)
  have HOO3 := hide (ownsRow_below (unhide HOO2) hb3)
  have HXB := hide ((hb3.block w1.heap.size (block_lt (unhide HXBOX2))).trans (unhide HXBOX2))
  have HOB := hide ((hb3.block w2.heap.size (block_lt (unhide HOBOX2))).trans (unhide HOBOX2))
  obtain ⟨k0, k1, k2, _⟩ := cell3 (unhide HXB)
  clear hb3 HL2 HXO2 HOO2 HXBOX2 HOBOX2 HAW
  go_upto_block 0 with fail
  have HR0 : Hid (Rr w3 x xa xc none 0 [] (w3.alloc (.cells #[.int .i64 x.kind, .int .i64 x.n, .slice xa x.rows.length xc] 30))) :=
    ⟨under_box _, heap_alloc_new w3 _, (unhide HXO3).alloc _, World.ownsRow_nil _ _ _ _⟩
  have HRC3 := hide ((unhide HRC).later (unhide HL3))
  clear k0 k1 k2 HRC
  go_cut [9] (fun lv wx => ∃ (l : List (MC × MR)) (m : Nat) (y : VS) (ya : Option Addr) (yc : Nat) (la : Option Addr) (lc : Nat), lv = .slice la l.length lc ∧ Rf x bent l m ∧ y = runSt x (l.take m) ∧ Rr w3 y ya yc la lc l wx)
  case first =>
    go_wp2_with fail
    go_loopw [9, 11, 12, 13, 14] (fun lv i _ _ _ wr => ∃ (l : List (MC × MR)) (ya : Option Addr) (yc : Nat) (la : Option Addr) (lc : Nat), l.length ≤ len ∧ l.length ≤ 12 ∧ lv = .slice la l.length lc ∧ i = .int .i64 (l.length : Int) ∧ Rg x bent l ∧ Rr w3 (runSt x l) ya yc la lc l wr) (fun _ i _ _ _ _ => 12 - (intOf i).toNat)
    case atStart => exact ⟨[], xa, xc, none, 0, Nat.zero_le _, Nat.zero_le _, rfl, rfl, Rg.nil _ _, unhide HR0⟩
    case round =>
      obtain ⟨l, ya, yc, la, lc, hll, hl12, rfl, rfl, hrg, hrr⟩ := hrel
      have HRG := hide hrg
      have HRR := hide hrr
      clear hrg hrr HR0
      by_cases hlt : l.length < len
      · have j1 : ((l.length : Nat) : Int) < ((len : Nat) : Int) := by omega
        by_cases h12 : l.length < 12
        · have j2 : ((l.length : Nat) : Int) < 12 := by omega
          have hi0 : (0 : Int) ≤ (l.length : Int) := by omega
          obtain ⟨op, ta, tb, cn, ⟨cb, off, rfl, hcb, g0, g1, g2, g3⟩, hop, hcn, hta, htb⟩ := unhide HRC3 l.length hlt
          have hlow := (unhide HRR).low
          have hcb2 : cb < wr.heap.size := by have := hlow.size; omega
          have m0 := Fr.one (W := wr) (p := ⟨cb, off + l.length * 4, none⟩) hcb2 ((hlow.cell (p := ⟨cb, off + l.length * 4, none⟩) hcb).trans g0)
          have m1 := Fr.one (W := wr) (p := ⟨cb, off + l.length * 4 + 1, none⟩) hcb2 ((hlow.cell (p := ⟨cb, off + l.length * 4 + 1, none⟩) hcb).trans g1)
          have m2 := Fr.one (W := wr) (p := ⟨cb, off + l.length * 4 + 2, none⟩) hcb2 ((hlow.cell (p := ⟨cb, off + l.length * 4 + 2, none⟩) hcb).trans g2)
          have m3 := Fr.one (W := wr) (p := ⟨cb, off + l.length * 4 + 3, none⟩) hcb2 ((hlow.cell (p := ⟨cb, off + l.length * 4 + 3, none⟩) hcb).trans g3)
          obtain ⟨xc0, xc1, xc2⟩ := Fr.cell3 ((hlow.block _ (block_lt (unhide HXB))).trans (unhide HXB))
          have HOF : Hid (∀ wz, Fr wr wz → Calls Tryd.prog 9 #[.agg #[.int .i64 x.kind, .int .i64 x.n, .slice xa x.rows.length xc], .agg #[.int .i64 op, .string ta, .string tb, .int .i64 cn]] wz fun e w' => ∃ V : MC, e = .returned (mcV V) ∧ V.may ∧ Below wz.heap.size wz w') := fun wz hf => of_any (s := x) ⟨_, rfl, Row2.of_own (ownsRow_below (unhide HXO3) (hlow.trans (hf.low.mono hlow.size)))⟩ op ta tb cn hop hcn hta htb
          have hst := Fr.start wr
          have hstd := hst.drew
          have HH12 := hide h12
          have HLL := hide hll
          clear hlow g0 g1 g2 g3 hop hcn hta htb hcb hcb2 h12 hll hl12
          go_upto_region 10 with fail
          go_cut [12] (fun p wx => ∃ (q : Nat) (V : MC), p = .pointer (some ⟨q, 0, none⟩) ∧ V.may ∧ Fr wr wx ∧ wx.heap[q]? = some (.cells #[.int .i64 V.op, .string (S V.a), .string (S V.b), .int .i64 V.n] 33 (0, 0)))
          case first =>
            refine regN [.val 35 (Res.plain (.agg #[.int .i64 x.kind, .int .i64 x.n, .slice xa x.rows.length xc]) []), .val 36 (Res.plain (.slice (some ⟨cb, off, none⟩) len cap) []), .val 37 (Res.plain (.int .i64 (l.length : Int)) []), .val 38 (Res.plain (.pointer (some ⟨cb, off + l.length * 4, none⟩)) []), .val 39 (Res.plain (.agg #[.int .i64 op, .string ta, .string tb, .int .i64 cn]) []), .val 40 Res.call, .box 12 4 33, .put 5 6] (fun i => if i = 3 then [1, 2] else if i = 4 then [3] else if i = 5 then [0, 4] else []) (by kernel_rfl) rfl (by kernel_rfl) (by kernel_rfl) (by kernel_rfl) (by kernel_rfl) (by kernel_rfl) (fun i hi => ?hstep) ?hend
            case hstep =>
              have hc : i = 0 ∨ i = 1 ∨ i = 2 ∨ i = 3 ∨ i = 4 ∨ i = 5 ∨ i = 6 ∨ i = 7 := by have : i < 8 := hi; omega
              clear hi
              rcases hc with rfl | rfl | rfl | rfl | rfl | rfl | rfl | rfl
              · intro f wz K hb hd hK
                have d0 := xc0 _ hb
                have d1 := xc1 _ hb
                have d2 := xc2 _ hb
                simp only [setN, upd, Nat.reduceAdd, Nat.reduceEqDiff, reduceIte, List.setIfInBounds_toArray, List.set_cons_zero, List.set_cons_succ] at hK ⊢
                unfold wpOp
                simp only [List.getElem?_toArray, List.getElem?_cons_zero, Region.wanted, if_true]
                refine .inl ?_
                unfold Oper.wp execOp
                go_simp
                exact hK _ _ (Below.refl _ _) rfl (fun k h => by cases h)
              · intro f wz K hb hd hK
                simp only [setN, upd, Nat.reduceAdd, Nat.reduceEqDiff, reduceIte, List.setIfInBounds_toArray, List.set_cons_zero, List.set_cons_succ] at hK ⊢
                unfold wpOp
                simp only [List.getElem?_toArray, List.getElem?_cons_zero, List.getElem?_cons_succ, Region.wanted, if_true]
                refine .inl ?_
                unfold Oper.wp execOp
                go_simp
                exact hK _ _ (Below.refl _ _) rfl (fun k h => by cases h)
              · intro f wz K hb hd hK
                simp only [setN, upd, Nat.reduceAdd, Nat.reduceEqDiff, reduceIte, List.setIfInBounds_toArray, List.set_cons_zero, List.set_cons_succ] at hK ⊢
                unfold wpOp
                simp only [List.getElem?_toArray, List.getElem?_cons_zero, List.getElem?_cons_succ, Region.wanted, if_true]
                refine .inl ?_
                unfold Oper.wp execOp
                go_simp
                exact hK _ _ (Below.refl _ _) rfl (fun k h => by cases h)
              · intro f wz K hb hd hK
                have e1 : f 1 = .slice (some ⟨cb, off, none⟩) len cap := hd 1 (by decide)
                have e2 : f 2 = .int .i64 (l.length : Int) := hd 2 (by decide)
                simp only [setN, upd, Nat.reduceAdd, Nat.reduceEqDiff, reduceIte, List.setIfInBounds_toArray, List.set_cons_zero, List.set_cons_succ] at hK ⊢
                simp only [e1, e2] at hK ⊢
                unfold wpOp
                simp only [List.getElem?_toArray, List.getElem?_cons_zero, List.getElem?_cons_succ, Region.wanted, if_true]
                refine .inl ?_
                unfold Oper.wp execOp
                go_simp
                exact hK _ _ (Below.refl _ _) rfl (fun k h => by cases h)
              · intro f wz K hb hd hK
                have e3 : f 3 = .pointer (some ⟨cb, off + l.length * 4, none⟩) := hd 3 (by decide)
                have d0 := m0 _ hb
                have d1 := m1 _ hb
                have d2 := m2 _ hb
                have d3 := m3 _ hb
                simp only [setN, upd, Nat.reduceAdd, Nat.reduceEqDiff, reduceIte, List.setIfInBounds_toArray, List.set_cons_zero, List.set_cons_succ] at hK ⊢
                simp only [e3] at hK ⊢
                unfold wpOp
                simp only [List.getElem?_toArray, List.getElem?_cons_zero, List.getElem?_cons_succ, Region.wanted, if_true]
                refine .inl ?_
                unfold Oper.wp execOp
                go_simp
                exact hK _ _ (Below.refl _ _) rfl (fun k h => by cases h)
              · intro f wz K hb hd hK
                have e0 : f 0 = .agg #[.int .i64 x.kind, .int .i64 x.n, .slice xa x.rows.length xc] := hd 0 (by decide)
                have e4 : f 4 = .agg #[.int .i64 op, .string ta, .string tb, .int .i64 cn] := hd 4 (by decide)
                simp only [setN, upd, Nat.reduceAdd, Nat.reduceEqDiff, reduceIte, List.setIfInBounds_toArray, List.set_cons_zero, List.set_cons_succ] at hK ⊢
                simp only [e0, e4] at hK ⊢
                unfold wpOp
                simp only [List.getElem?_toArray, List.getElem?_cons_zero, List.getElem?_cons_succ, Region.wanted, if_true]
                refine .inl ?_
                unfold Oper.wp execOp
                go_simp
                refine (unhide HOF _ hb).mono ?_
                rintro e w' ⟨V, rfl, hV, hb'⟩
                exact hK _ _ hb' ⟨V, hV, rfl⟩ (fun k h => by cases h)
              · intro f wz K
                refine ⟨[.int .i64 0, .string ⟨#[]⟩, .string ⟨#[]⟩, .int .i64 0], rfl, fun hK => ?_⟩
                unfold ptr at hK
                simp only [setN, upd, Nat.reduceAdd, Nat.reduceEqDiff, reduceIte, List.setIfInBounds_toArray, List.set_cons_zero, List.set_cons_succ] at hK ⊢
                unfold wpOp
                simp only [List.getElem?_toArray, List.getElem?_cons_zero, List.getElem?_cons_succ, Region.wanted, if_true]
                refine .inl ?_
                unfold Oper.wp execOp
                go_simp
                exact hK
              · intro f wz K q ys eb hy hq hF hK
                obtain ⟨V, hV, ev⟩ := hF
                have ec := ev
                simp only [ec, Res.call, mcV, stCells] at hK
                simp only [setN, Nat.reduceAdd, List.setIfInBounds_toArray, List.set_cons_zero, List.set_cons_succ] at hK ⊢
                simp only [ec, eb, mcV] at hK ⊢
                match ys, hy with
                | [y1, y2, y3, y4], _ =>
                obtain ⟨d0, d1, d2, d3, fz⟩ := cell4 hq
                unfold ptr at *
                simp only [putL] at hK
                unfold wpOp
                simp only [List.getElem?_toArray, List.getElem?_cons_zero, List.getElem?_cons_succ, Region.wanted, if_true]
                refine .inl ?_
                unfold Oper.wp execOp
                go_simp
                exact hK
            case hend =>
              intro f w6 hb6 hv hp hne ho
              obtain ⟨q, hq, hqw, hqb⟩ := hp 7
              obtain ⟨V, hV, ev⟩ := hv 5
              have h0 : f 0 = .agg #[.int .i64 x.kind, .int .i64 x.n, .slice xa x.rows.length xc] := hv 0
              rw [ev] at hqb
              simp only [setN, Nat.reduceAdd, List.setIfInBounds_toArray, List.set_cons_zero, List.set_cons_succ]
              rw [hq]
              unfold ptr
              go_wp2_with fail
              go_meet
              exact ⟨q, V, rfl, hV, hb6, hqb⟩
          case rest =>
          obtain ⟨q, V, rfl, hV, hfr, hdb⟩ := hcut
          have hop := MC.may_op hV
          have HV := hide hV
          have HRR1 := hide ((unhide HRR).later hfr.low)
          have HDB1 := hide hdb
          obtain ⟨y, hy⟩ : ∃ y, runSt x l = y := ⟨_, rfl⟩
          have HY := hide hy
          have hyl : y.rows.length ≤ 1000 := by rw [← hy]; have := runSt_len x l; have := may_small (unhide HMAY); have := unhide HH12; omega
          have HYL := hide hyl
          rw [hy] at HRR1
          obtain ⟨y0, y1, y2, _⟩ := cell3 (unhide HRR1).box
          obtain ⟨d0, d1, d2, d3, _⟩ := cell4 hdb
          have HAN := hide (ranswers_any (c := V) (unhide HRR1).at.at hyl hop)
          clear hV hfr hdb hy hyl hop hst hstd HOF m0 m1 m2 m3 xc0 xc1 xc2 HRR
          go_wp2_with fail
          refine (unhide HAN).mono ?_
          rintro e w5 ⟨v5, rfl, hra, hb5⟩
          obtain ⟨sa, sc, rfl, hsc, hsm⟩ := hra.shape
          unfold maxLen at hsm
          have HRR5 := hide ((unhide HRR1).later hb5)
          have HDB5 := hide ((hb5.block _ (block_lt (unhide HDB1))).trans (unhide HDB1))
          clear y0 y1 y2 d0 d1 d2 d3 hb5 HRR1 HDB1 HAN
          obtain ⟨y0, y1, y2, fy⟩ := cell3 (unhide HRR5).box
          have HYE := hide (unhide HY)
          obtain ⟨A, hA⟩ : ∃ A, answers y V = A := ⟨_, rfl⟩
          rw [hA] at hra hsc
          dsimp only
          simp only [hA]
          by_cases hA0 : A.length = 0
          · have e1 : (((A.length : Nat) : Int) == 0) = true := by rw [hA0]; rfl
            clear hra hA
            go_wp2_with fail
            go_meet
            exact ⟨l, l.length, _, ya, yc, la, lc, rfl, (unhide HRG).full (by have := unhide HH12; omega), by rw [List.take_length]; exact (unhide HY).symm, unhide HRR5⟩
          · have e1 : (((A.length : Nat) : Int) == 0) = false := by rw [beq_eq_false_iff_ne]; omega
            by_cases hy7 : 7 < y.rows.length
            · have e2 : (7 : Int) < ((y.rows.length : Nat) : Int) := by omega
              clear hra hA
              go_wp2_with fail
              go_meet
              exact ⟨l, l.length, _, ya, yc, la, lc, rfl, (unhide HRG).full (by have := unhide HH12; omega), by rw [List.take_length]; exact (unhide HY).symm, unhide HRR5⟩
            · have e2 : ¬ (7 : Int) < ((y.rows.length : Nat) : Int) := by omega
              have hA1 : 0 < A.length := by omega
              have i0' : (0 : Int) < ((A.length : Nat) : Int) := by omega
              obtain ⟨bA, oA, rfl, hbA, f0, f1, f2⟩ := hra.at 0 hA1
              have hmem : A[0]'hA1 ∈ answers y V := by rw [hA]; exact List.getElem_mem hA1
              generalize A[0]'hA1 = Q at *
              obtain ⟨q1, q2, q3⟩ := Q
              simp only [Nat.zero_mul, Nat.add_zero] at f0 f1 f2
              have h12q := answers_12 hmem
              have HMEM := hide hmem
              clear hra hA hmem
              by_cases hbe : ((l.length : Nat) : Int) = bent
              · have e3 : (((l.length : Nat) : Int) == bent) = true := by rw [beq_iff_eq]; exact hbe
                have e4 := bent_code h12q
                have HBE := hide hbe
                obtain ⟨Z, hZ⟩ : ∃ Z, 3 - q1 = Z := ⟨_, rfl⟩
                dsimp only at e4
                rw [hZ] at e4
                have hwf : IntKind.i64.wrap (3 - q1) = Z := by rw [hZ]; exact e4
                obtain ⟨W9, hW9⟩ : ∃ W9, (w5.alloc (.cells #[.int .i64 q1, .string (S q2), .int .i64 q3] 45)).setCell ⟨w5.heap.size, 0, none⟩ (.int .i64 Z) = W9 := ⟨_, rfl⟩
                have hb9 : Below w5.heap.size w5 W9 := by rw [← hW9]; exact Fr.set (under_box _) (Nat.le_refl _) _ _
                have hr9 : W9.heap[w5.heap.size]? = some (.cells #[.int .i64 Z, .string (S q2), .int .i64 q3] 45 (0, 0)) := by
                  have := heap_setCell_same _ w5.heap.size 0 _ _ (.int .i64 Z) (heap_alloc_new w5 (.cells #[.int .i64 q1, .string (S q2), .int .i64 q3] 45))
                  rw [hW9] at this
                  simpa [Array.setIfInBounds] using this
                have hNL : legal (runSt x l) V ⟨Z, q2, q3⟩ = false := by rw [unhide HY, ← hZ]; exact bent_not (unhide HMEM) h12q
                have HNL := hide hNL
                clear hZ e4 h12q hbe hNL
                have HR9 := hide ((unhide HRR5).later hb9)
                have HSX9 : Hid (Sx w3 q (.cells #[.int .i64 V.op, .string (S V.a), .string (S V.b), .int .i64 V.n] 33 (0, 0)) w5.heap.size (.cells #[.int .i64 Z, .string (S q2), .int .i64 q3] 45 (0, 0)) W9) := ⟨(unhide HR9).low, (hb9.block _ (block_lt (unhide HDB5))).trans (unhide HDB5), hr9⟩
                have HOWN : Hid (∀ wz, Fr W9 wz → Rr w3 y ya yc la lc l wz) := fun wz hf => (unhide HR9).later hf.low
                obtain ⟨dc0, dc1, dc2, dc3⟩ := Sx.dcells (a := .int .i64 V.op) (b := .string (S V.a)) (c := .string (S V.b)) (d := .int .i64 V.n) (t := 33) w3 q w5.heap.size (.cells #[.int .i64 Z, .string (S q2), .int .i64 q3] 45 (0, 0))
                obtain ⟨rc0, rc1, rc2⟩ := Sx.rcells (a := .int .i64 Z) (b := .string (S q2)) (c := .int .i64 q3) (t := 45) w3 q w5.heap.size (.cells #[.int .i64 V.op, .string (S V.a), .string (S V.b), .int .i64 V.n] 33 (0, 0))
                have HOWC : Hid (∀ wz : World, Calls Tryd.prog 12 #[.agg #[.int .i64 V.op, .string (S V.a), .string (S V.b), .int .i64 V.n]] wz fun e w' => e = .returned (.agg #[.int .i64 V.op, .string (S V.a), .string (S V.b), .int .i64 V.n]) ∧ Below wz.heap.size wz w') := fun wz => mown_any V
                go_upto_region 16 with fail
                try rw [hW9]
                clear hW9 hr9 hb9 f0 f1 f2 y0 y1 y2 fy
                have hsx := unhide HSX9
                have hsxd := hsx.drew
                have hlb := (unhide HR9).low.size
                have hll12 := unhide HH12
                refine wp_region_held_drew (S := fun w' => Sx w3 q (.cells #[.int .i64 V.op, .string (S V.a), .string (S V.b), .int .i64 V.n] 33 (0, 0)) w5.heap.size (.cells #[.int .i64 Z, .string (S q2), .int .i64 q3] 45 (0, 0)) w') (by kernel_rfl) ?_ (fun hHeld => ?_)
                · exact hsxd
                refine wpAnyH_take (i := 0) (oi := { dst := some 63, op := _, type := _, pos := _, after := _, guard := _ }) (v := ?_) rfl (by kernel_rfl) (by kernel_rfl) (by kernel_rfl) (fun _ _ _ h => h) (Or.inl ⟨by kernel_rfl, ?_⟩) (by assumption) ?_
                rotate_left
                · intro w hSw; (try dsimp only at hSw); go_simp; try (with_reducible rfl)
                try simp only [Act.put, List.setIfInBounds_toArray, List.set_cons_zero, List.set_cons_succ]
                refine wpAnyH_take (i := 1) (oi := { dst := some 64, op := _, type := _, pos := _, after := _, guard := _ }) (v := ?_) rfl (by kernel_rfl) (by kernel_rfl) (by kernel_rfl) (fun _ _ _ h => h) (Or.inl ⟨by kernel_rfl, ?_⟩) (by assumption) ?_
                rotate_left
                · intro w hSw; (try dsimp only at hSw); go_simp; try (with_reducible rfl)
                try simp only [Act.put, List.setIfInBounds_toArray, List.set_cons_zero, List.set_cons_succ]
                refine wpAnyH_take (i := 3) (oi := { dst := some 66, op := _, type := _, pos := _, after := _, guard := _ }) (v := ?_) rfl (by kernel_rfl) (by kernel_rfl) (by kernel_rfl) (fun _ _ _ h => h) (Or.inl ⟨by kernel_rfl, ?_⟩) (by assumption) ?_
                rotate_left
                · intro w hSw; (try dsimp only at hSw); go_simp; try (with_reducible rfl)
                try simp only [Act.put, List.setIfInBounds_toArray, List.set_cons_zero, List.set_cons_succ]
                refine wpAnyH_ready (rs := [2]) (by kernel_rfl) (by simp) ?_
                refine AllReadyH.cons rfl (fun K hK => ?_) AllReadyH.nil
                go_simp
                go_at_call 12; refine (unhide HOWC _).mono ?_; rintro e wm ⟨rfl, hbm⟩; have hfm : Fr W9 wm := Fr.below (Fr.drew (Fr.start W9)) hbm; have hsm : Sx w3 q (.cells #[.int .i64 V.op, .string (S V.a), .string (S V.b), .int .i64 V.n] 33 (0, 0)) w5.heap.size (.cells #[.int .i64 Z, .string (S q2), .int .i64 q3] 45 (0, 0)) wm := hsxd.below hbm
                refine hK.out _ _ ?_ (fun hHeld => ?_)
                · exact hsm
                clear hK K
                try simp only [Act.put, List.setIfInBounds_toArray, List.set_cons_zero, List.set_cons_succ]
                refine wpAnyH_take (i := 4) (oi := { dst := some 67, op := _, type := _, pos := _, after := _, guard := _ }) (v := ?_) rfl (by kernel_rfl) (by kernel_rfl) (by kernel_rfl) (fun _ _ _ h => h) (Or.inl ⟨by kernel_rfl, ?_⟩) (by assumption) ?_
                rotate_left
                · intro w hSw; (try dsimp only at hSw); go_simp; try (with_reducible rfl)
                try simp only [Act.put, List.setIfInBounds_toArray, List.set_cons_zero, List.set_cons_succ]
                refine wpAnyH_ready (rs := [5]) (by kernel_rfl) (by simp) ?_
                refine AllReadyH.cons rfl (fun K hK => ?_) AllReadyH.nil
                go_simp

                refine hK.out _ _ ?_ (fun hHeld => ?_)
                · exact hsm.below (under_box _)
                clear hK K
                try simp only [Act.put, List.setIfInBounds_toArray, List.set_cons_zero, List.set_cons_succ]
                refine wpAnyH_ready (rs := [6]) (by kernel_rfl) (by simp) ?_
                refine AllReadyH.cons rfl (fun K hK => ?_) AllReadyH.nil
                refine step_append_fresh rfl (.tmp 63) (.tmp 68) 58 rfl (w3.heap.size + 1) 60 i0 (.agg #[.int .i64 0, .string ⟨#[]⟩, .string ⟨#[]⟩, .int .i64 0, .int .i64 0, .string ⟨#[]⟩, .int .i64 0]) 7 80 under_steps hi hz0 hz1 hz2 rfl (by decide) (.slice la l.length lc) l.length (E7 l) (by simp [Act.eval]) (unhide HOWN _ (Fr.below hfm (under_box _))).own ⟨wm.heap.size, 0, none⟩ 1 1 [.int .i64 V.op, .string (S V.a), .string (S V.b), .int .i64 V.n, .int .i64 Z, .string (S q2), .int .i64 q3] (by simp [Act.eval]) rfl (fun j u hu => by exact seven_new _ _ _ _ _ _ _ _ _ rfl j u hu) (fun u hu => by simp at hu; rcases hu with rfl | rfl | rfl | rfl | rfl | rfl | rfl <;> rfl) (by unfold maxLen; omega) (by omega) (by have h1 := (blk_lt (unhide HOWN _ (Fr.below hfm (under_box (.cells #[.int .i64 V.op, .string (S V.a), .string (S V.b), .int .i64 V.n, .int .i64 Z, .string (S q2), .int .i64 q3] 60)))).box); omega) ?_; intro v' w8 hown' hgrow _; obtain ⟨ua, uc, rfl, _⟩ := ownsRow_slice hown'; have hro := (unhide HOWN _ (Fr.below hfm (under_box (.cells #[.int .i64 V.op, .string (S V.a), .string (S V.b), .int .i64 V.n, .int .i64 Z, .string (S q2), .int .i64 q3] 60)))); have HRR8 := hide (hro.grow hgrow (V, ⟨Z, q2, q3⟩) hown'); have hSX8 : Sx w3 q (.cells #[.int .i64 V.op, .string (S V.a), .string (S V.b), .int .i64 V.n] 33 (0, 0)) w5.heap.size (.cells #[.int .i64 Z, .string (S q2), .int .i64 q3] 45 (0, 0)) w8 := (by have hsa := hsm.below (under_box (.cells #[.int .i64 V.op, .string (S V.a), .string (S V.b), .int .i64 V.n, .int .i64 Z, .string (S q2), .int .i64 q3] 60)); exact ⟨(unhide HRR8).low, (hgrow.block _ (blk_lt hsa.d) (fun e => own_unlike7 hro.own hsa.d (by decide) e.symm)).trans hsa.d, (hgrow.block _ (blk_lt hsa.r) (fun e => own_unlike7 hro.own hsa.r (by decide) e.symm)).trans hsa.r⟩); have HSX8 := hide hSX8; clear hown' hgrow hro
                refine hK.out _ _ ?_ (fun hHeld => ?_)
                · exact hSX8
                clear hK K
                try simp only [Act.put, List.setIfInBounds_toArray]
                refine wpAnyH_take (i := 7) (oi := { dst := some 9, op := _, type := _, pos := _, after := _, guard := _ }) (v := ?_) rfl (by kernel_rfl) (by kernel_rfl) (by kernel_rfl) (fun _ _ _ h => h) (Or.inl ⟨by kernel_rfl, ?_⟩) (by assumption) ?_
                rotate_left
                · intro w hSw; (try dsimp only at hSw); go_simp; try (with_reducible rfl)
                try simp only [Act.put]
                refine wpAnyH_done (by kernel_rfl) ?_ _
                clear hsx hsxd HSX9 HOWN HOWC dc0 dc1 dc2 dc3 rc0 rc1 rc2 HR9 hbm hfm hsm hSX8 hlb
                all_goals
                  have HRRf := HRR8
                  go_wp2_with fail
                  go_meet
                  exact ⟨l ++ [(V, ⟨Z, q2, q3⟩)], l.length, _, ya, yc, ua, uc, by simp, (unhide HRG).bend (unhide HH12) (V, ⟨Z, q2, q3⟩) (MC.may_op (unhide HV)) (unhide HNL) (unhide HBE), by rw [take_run]; exact (unhide HY).symm, unhide HRRf⟩
              · have e3 : (((l.length : Nat) : Int) == bent) = false := by rw [beq_eq_false_iff_ne]; exact hbe
                have HBE := hide hbe
                obtain ⟨Z, hZ⟩ : ∃ Z, q1 = Z := ⟨_, rfl⟩
                subst hZ
                obtain ⟨W9, hW9⟩ : ∃ W9, w5.alloc (.cells #[.int .i64 q1, .string (S q2), .int .i64 q3] 45) = W9 := ⟨_, rfl⟩
                have hb9 : Below w5.heap.size w5 W9 := by rw [← hW9]; exact under_box _
                have hr9 : W9.heap[w5.heap.size]? = some (.cells #[.int .i64 q1, .string (S q2), .int .i64 q3] 45 (0, 0)) := by rw [← hW9]; exact heap_alloc_new w5 _
                have hLE : legal (runSt x l) V ⟨q1, q2, q3⟩ = true := by rw [unhide HY]; unfold legal; exact decide_eq_true (unhide HMEM)
                have HLE := hide hLE
                clear h12q hbe hLE
                have HR9 := hide ((unhide HRR5).later hb9)
                have HSX9 : Hid (Sx w3 q (.cells #[.int .i64 V.op, .string (S V.a), .string (S V.b), .int .i64 V.n] 33 (0, 0)) w5.heap.size (.cells #[.int .i64 q1, .string (S q2), .int .i64 q3] 45 (0, 0)) W9) := ⟨(unhide HR9).low, (hb9.block _ (block_lt (unhide HDB5))).trans (unhide HDB5), hr9⟩
                have HOWN : Hid (∀ wz, Fr W9 wz → Rr w3 y ya yc la lc l wz) := fun wz hf => (unhide HR9).later hf.low
                obtain ⟨dc0, dc1, dc2, dc3⟩ := Sx.dcells (a := .int .i64 V.op) (b := .string (S V.a)) (c := .string (S V.b)) (d := .int .i64 V.n) (t := 33) w3 q w5.heap.size (.cells #[.int .i64 q1, .string (S q2), .int .i64 q3] 45 (0, 0))
                obtain ⟨rc0, rc1, rc2⟩ := Sx.rcells (a := .int .i64 q1) (b := .string (S q2)) (c := .int .i64 q3) (t := 45) w3 q w5.heap.size (.cells #[.int .i64 V.op, .string (S V.a), .string (S V.b), .int .i64 V.n] 33 (0, 0))
                have HOWC : Hid (∀ wz : World, Calls Tryd.prog 12 #[.agg #[.int .i64 V.op, .string (S V.a), .string (S V.b), .int .i64 V.n]] wz fun e w' => e = .returned (.agg #[.int .i64 V.op, .string (S V.a), .string (S V.b), .int .i64 V.n]) ∧ Below wz.heap.size wz w') := fun wz => mown_any V
                go_upto_region 16 with fail
                try rw [hW9]
                clear hW9 hr9 hb9 f0 f1 f2 y0 y1 y2 fy
                have hsx := unhide HSX9
                have hsxd := hsx.drew
                have hlb := (unhide HR9).low.size
                have hll12 := unhide HH12
                refine wp_region_held_drew (S := fun w' => Sx w3 q (.cells #[.int .i64 V.op, .string (S V.a), .string (S V.b), .int .i64 V.n] 33 (0, 0)) w5.heap.size (.cells #[.int .i64 q1, .string (S q2), .int .i64 q3] 45 (0, 0)) w') (by kernel_rfl) ?_ (fun hHeld => ?_)
                · exact hsxd
                refine wpAnyH_take (i := 0) (oi := { dst := some 63, op := _, type := _, pos := _, after := _, guard := _ }) (v := ?_) rfl (by kernel_rfl) (by kernel_rfl) (by kernel_rfl) (fun _ _ _ h => h) (Or.inl ⟨by kernel_rfl, ?_⟩) (by assumption) ?_
                rotate_left
                · intro w hSw; (try dsimp only at hSw); go_simp; try (with_reducible rfl)
                try simp only [Act.put, List.setIfInBounds_toArray, List.set_cons_zero, List.set_cons_succ]
                refine wpAnyH_take (i := 1) (oi := { dst := some 64, op := _, type := _, pos := _, after := _, guard := _ }) (v := ?_) rfl (by kernel_rfl) (by kernel_rfl) (by kernel_rfl) (fun _ _ _ h => h) (Or.inl ⟨by kernel_rfl, ?_⟩) (by assumption) ?_
                rotate_left
                · intro w hSw; (try dsimp only at hSw); go_simp; try (with_reducible rfl)
                try simp only [Act.put, List.setIfInBounds_toArray, List.set_cons_zero, List.set_cons_succ]
                refine wpAnyH_take (i := 3) (oi := { dst := some 66, op := _, type := _, pos := _, after := _, guard := _ }) (v := ?_) rfl (by kernel_rfl) (by kernel_rfl) (by kernel_rfl) (fun _ _ _ h => h) (Or.inl ⟨by kernel_rfl, ?_⟩) (by assumption) ?_
                rotate_left
                · intro w hSw; (try dsimp only at hSw); go_simp; try (with_reducible rfl)
                try simp only [Act.put, List.setIfInBounds_toArray, List.set_cons_zero, List.set_cons_succ]
                refine wpAnyH_ready (rs := [2]) (by kernel_rfl) (by simp) ?_
                refine AllReadyH.cons rfl (fun K hK => ?_) AllReadyH.nil
                go_simp
                go_at_call 12; refine (unhide HOWC _).mono ?_; rintro e wm ⟨rfl, hbm⟩; have hfm : Fr W9 wm := Fr.below (Fr.drew (Fr.start W9)) hbm; have hsm : Sx w3 q (.cells #[.int .i64 V.op, .string (S V.a), .string (S V.b), .int .i64 V.n] 33 (0, 0)) w5.heap.size (.cells #[.int .i64 q1, .string (S q2), .int .i64 q3] 45 (0, 0)) wm := hsxd.below hbm
                refine hK.out _ _ ?_ (fun hHeld => ?_)
                · exact hsm
                clear hK K
                try simp only [Act.put, List.setIfInBounds_toArray, List.set_cons_zero, List.set_cons_succ]
                refine wpAnyH_take (i := 4) (oi := { dst := some 67, op := _, type := _, pos := _, after := _, guard := _ }) (v := ?_) rfl (by kernel_rfl) (by kernel_rfl) (by kernel_rfl) (fun _ _ _ h => h) (Or.inl ⟨by kernel_rfl, ?_⟩) (by assumption) ?_
                rotate_left
                · intro w hSw; (try dsimp only at hSw); go_simp; try (with_reducible rfl)
                try simp only [Act.put, List.setIfInBounds_toArray, List.set_cons_zero, List.set_cons_succ]
                refine wpAnyH_ready (rs := [5]) (by kernel_rfl) (by simp) ?_
                refine AllReadyH.cons rfl (fun K hK => ?_) AllReadyH.nil
                go_simp

                refine hK.out _ _ ?_ (fun hHeld => ?_)
                · exact hsm.below (under_box _)
                clear hK K
                try simp only [Act.put, List.setIfInBounds_toArray, List.set_cons_zero, List.set_cons_succ]
                refine wpAnyH_ready (rs := [6]) (by kernel_rfl) (by simp) ?_
                refine AllReadyH.cons rfl (fun K hK => ?_) AllReadyH.nil
                refine step_append_fresh rfl (.tmp 63) (.tmp 68) 58 rfl (w3.heap.size + 1) 60 i0 (.agg #[.int .i64 0, .string ⟨#[]⟩, .string ⟨#[]⟩, .int .i64 0, .int .i64 0, .string ⟨#[]⟩, .int .i64 0]) 7 80 under_steps hi hz0 hz1 hz2 rfl (by decide) (.slice la l.length lc) l.length (E7 l) (by simp [Act.eval]) (unhide HOWN _ (Fr.below hfm (under_box _))).own ⟨wm.heap.size, 0, none⟩ 1 1 [.int .i64 V.op, .string (S V.a), .string (S V.b), .int .i64 V.n, .int .i64 q1, .string (S q2), .int .i64 q3] (by simp [Act.eval]) rfl (fun j u hu => by exact seven_new _ _ _ _ _ _ _ _ _ rfl j u hu) (fun u hu => by simp at hu; rcases hu with rfl | rfl | rfl | rfl | rfl | rfl | rfl <;> rfl) (by unfold maxLen; omega) (by omega) (by have h1 := (blk_lt (unhide HOWN _ (Fr.below hfm (under_box (.cells #[.int .i64 V.op, .string (S V.a), .string (S V.b), .int .i64 V.n, .int .i64 q1, .string (S q2), .int .i64 q3] 60)))).box); omega) ?_; intro v' w8 hown' hgrow _; obtain ⟨ua, uc, rfl, _⟩ := ownsRow_slice hown'; have hro := (unhide HOWN _ (Fr.below hfm (under_box (.cells #[.int .i64 V.op, .string (S V.a), .string (S V.b), .int .i64 V.n, .int .i64 q1, .string (S q2), .int .i64 q3] 60)))); have HRR8 := hide (hro.grow hgrow (V, ⟨q1, q2, q3⟩) hown'); have hSX8 : Sx w3 q (.cells #[.int .i64 V.op, .string (S V.a), .string (S V.b), .int .i64 V.n] 33 (0, 0)) w5.heap.size (.cells #[.int .i64 q1, .string (S q2), .int .i64 q3] 45 (0, 0)) w8 := (by have hsa := hsm.below (under_box (.cells #[.int .i64 V.op, .string (S V.a), .string (S V.b), .int .i64 V.n, .int .i64 q1, .string (S q2), .int .i64 q3] 60)); exact ⟨(unhide HRR8).low, (hgrow.block _ (blk_lt hsa.d) (fun e => own_unlike7 hro.own hsa.d (by decide) e.symm)).trans hsa.d, (hgrow.block _ (blk_lt hsa.r) (fun e => own_unlike7 hro.own hsa.r (by decide) e.symm)).trans hsa.r⟩); have HSX8 := hide hSX8; clear hown' hgrow hro
                refine hK.out _ _ ?_ (fun hHeld => ?_)
                · exact hSX8
                clear hK K
                try simp only [Act.put, List.setIfInBounds_toArray]
                refine wpAnyH_take (i := 7) (oi := { dst := some 9, op := _, type := _, pos := _, after := _, guard := _ }) (v := ?_) rfl (by kernel_rfl) (by kernel_rfl) (by kernel_rfl) (fun _ _ _ h => h) (Or.inl ⟨by kernel_rfl, ?_⟩) (by assumption) ?_
                rotate_left
                · intro w hSw; (try dsimp only at hSw); go_simp; try (with_reducible rfl)
                try simp only [Act.put]
                refine wpAnyH_done (by kernel_rfl) ?_ _
                clear hsx hsxd HSX9 HOWN HOWC dc0 dc1 dc2 dc3 rc0 rc1 rc2 HR9 hbm hfm hsm hSX8 hlb
                all_goals
                  have hrr8 := unhide HRR8
                  obtain ⟨s0, s1, s2, fs⟩ := cell3 hrr8.box
                  have hsx8 := unhide HSX8
                  obtain ⟨u0, u1, u2, u3, _⟩ := cell4 hsx8.d
                  obtain ⟨t0, t1, t2, _⟩ := cell3 hsx8.r
                  have HAP := hide (rapply_own (c := V) hrr8.at (unhide HYL) (MC.may_op (unhide HV)) (may_b (unhide HV)) (by rw [← unhide HY]; exact runSt_fit (VS.may.fit (unhide HMAY)) _ (unhide HRG).steps) ⟨q1, q2, q3⟩)
                  obtain ⟨y', hy'⟩ : ∃ y', apply2 y V ⟨q1, q2, q3⟩ = y' := ⟨_, rfl⟩
                  rw [hy'] at HAP
                  have HY2 : Hid (runSt x (l ++ [(V, ⟨q1, q2, q3⟩)]) = y') := by show _ = _; rw [runSt_snoc, unhide HY]; exact hy'
                  clear hrr8 hsx8 hy' HSX8
                  unfold mcV mrV at *
                  go_wp2_with fail
                  refine (unhide HAP).mono ?_
                  rintro e wp ⟨vp, rfl, ⟨kp, rfl, hop⟩, hbp⟩
                  obtain ⟨pa, pc, rfl, _⟩ := ownsRow_slice hop
                  have hrp := (unhide HRR8).later hbp
                  clear s0 s1 s2 fs t0 t1 t2 u0 u1 u2 u3
                  obtain ⟨s0, s1, s2, fs⟩ := cell3 hrp.box
                  have HRP := hide (hrp.put hop)
                  unfold put3 at HRP
                  clear hrp hop hbp HAP HRR8
                  go_wp2_with fail
                  go_roundw
                  case rel =>
                    refine ⟨l ++ [(V, ⟨q1, q2, q3⟩)], pa, pc, ua, uc, by simp; omega, by have := unhide HH12; simp; omega, by simp, by simp, (unhide HRG).on (V, ⟨q1, q2, q3⟩) (MC.may_op (unhide HV)) (unhide HLE) (unhide HBE), ?_⟩
                    rw [unhide HY2]
                    exact unhide HRP
                  case measure => have := unhide HH12; simp [intOf]; omega
        · have j2 : ¬ ((l.length : Nat) : Int) < 12 := by omega
          go_wp2_with fail
          go_meet
          exact ⟨l, l.length, _, ya, yc, la, lc, rfl, (unhide HRG).full hl12, by rw [List.take_length], unhide HRR⟩
      · have j1 : ¬ ((l.length : Nat) : Int) < ((len : Nat) : Int) := by omega
        go_wp2_with fail
        go_meet
        exact ⟨l, l.length, _, ya, yc, la, lc, rfl, (unhide HRG).full hl12, by rw [List.take_length], unhide HRR⟩
  case rest =>
  obtain ⟨l, m, y, ya, yc, la, lc, rfl, hrf, hy, hrr⟩ := hcut
  have HRF := hide hrf
  have HY := hide hy
  have HRR := hide hrr
  have hlow := hrr.low
  obtain ⟨o0, o1, o2, _⟩ := cell3 ((hlow.block _ (block_lt (unhide HOB))).trans (unhide HOB))
  have hlw := (unhide HL3).trans (hlow.mono (unhide HL3).size)
  have HLW := hide hlw
  have hx12 := may_small (unhide HMAY)
  have HRUN := hide (arun_any (x := x) ⟨_, rfl, ownsRow_below (unhide HOO3) hlow⟩ (VS.may.fit (unhide HMAY)) (by omega) (Row7.of_own hrr.own) (by have := hrf.len; omega) hrf.steps ((unhide HMD).later hlw) m hrf.few hrf.good hrf.stop)
  rw [← hy] at HRUN
  have hyl : y.rows.length ≤ 1000 := by rw [hy]; have h1 := runSt_len x (l.take m); have h2 := hrf.len; rw [List.length_take] at h1; omega
  have HYL := hide hyl
  clear hrf hy hrr hlow hlw hx12 hyl HR0 HXO3 HOO3 HXB HMAY HRC3
  go_wp2_with fail
  refine (unhide HRUN).mono ?_
  rintro e w4 ⟨v4, rfl, ⟨k4, rfl, ho4⟩, hb4⟩
  obtain ⟨za, zc, rfl, _⟩ := ownsRow_slice ho4
  obtain ⟨W5, hW5⟩ : ∃ W5, w4.alloc (.cells #[.int .i64 y.kind, .int .i64 y.n, .slice za y.rows.length zc] 24) = W5 := ⟨_, rfl⟩
  have hb5 : Below wc.heap.size wc W5 := by rw [← hW5]; exact hb4.trans ((under_box _).mono hb4.size)
  have hzb : W5.heap[w4.heap.size]? = some (.cells #[.int .i64 y.kind, .int .i64 y.n, .slice za y.rows.length zc] 24 (0, 0)) := by rw [← hW5]; exact heap_alloc_new w4 _
  have hzat : StAt W5 (.agg #[.int .i64 y.kind, .int .i64 y.n, .slice za y.rows.length zc]) y := ⟨_, rfl, Row2.of_own (by rw [← hW5]; exact ho4.alloc _)⟩
  have hrr5 := (unhide HRR).later hb5
  have HL5 := hide ((unhide HLW).trans (hb5.mono (unhide HLW).size))
  obtain ⟨zc0, zc1, zc2⟩ := Fr.cell3 hzb
  obtain ⟨yc0, yc1, yc2⟩ := Fr.cell3 hrr5.box
  have HTO : Hid (∀ wz, Fr W5 wz → Calls Tryd.prog 18 #[.agg #[.int .i64 y.kind, .int .i64 y.n, .slice za y.rows.length zc]] wz fun e w' => ∃ v', e = .returned v' ∧ StOwn wz.heap.size 71 w' v' y ∧ Below wz.heap.size wz w') := fun wz hf => told_any (hzat.later hf.low) (unhide HYL)
  have HYA : Hid (∀ wz, Fr W5 wz → StAt wz (.agg #[.int .i64 y.kind, .int .i64 y.n, .slice ya y.rows.length yc]) y) := fun wz hf => hrr5.at.at.later hf.low
  have HLI : Hid (∀ (wz : World) (va vb : Value), StAt wz va y → StAt wz vb y → Calls Tryd.prog 17 #[va, vb] wz fun e w' => e = .returned (.bool true) ∧ Below wz.heap.size wz w') := fun wz va vb h1 h2 => like_same h1 h2
  have hst := Fr.start W5
  have hstd := hst.drew
  have hlen7 : ((l.length : Nat) : Int) ≤ 12 := by have := (unhide HRF).len; omega
  have HRFY := hide (unhide HRF).yes
  have HRFN := hide (unhide HRF).no
  clear hb4 hb5 hzb hzat hrr5 ho4 HRUN o0 o1 o2 HRF HRR HLW HYL HY
  by_cases hb0 : 0 ≤ bent
  · by_cases hbl : bent < ((l.length : Nat) : Int)
    · have em := unhide HRFY ⟨hb0, hbl⟩
      have em2 : (((m : Nat) : Int) == bent) = true := by rw [beq_iff_eq]; exact em
      have hge : bent ≥ 0 := hb0
      clear HRFY HRFN em
      go_upto_region 23 with fail
      try rw [hW5]
      clear hW5
      go_region_held3 (fun w' => Fr W5 w') (with_reducible (first | exact hstd | exact hst | (refine Fr.below ?_ (by assumption) <;> assumption)))
        (first | (go_at_call 18; refine (unhide HTO _ (by assumption)).mono ?_; rintro e wd ⟨vd, rfl, hyd, hbd⟩; have HYD := hide hyd.at; obtain ⟨kd', rfl, hod⟩ := hyd; obtain ⟨pa, pc, rfl, _⟩ := ownsRow_slice hod; clear hod) | (go_at_call 17; refine (unhide HLI _ _ _ (unhide HYD) (unhide HYA _ (by assumption))).mono ?_; rintro e wf ⟨rfl, hbf⟩) | fail)
      have hfin : Fr W5 wf := by assumption
      have HL8 := hide ((unhide HL5).trans (hfin.low.mono (unhide HL5).size))
      clear hfin hbf hbd
      go_wp2_with fail
      go_ret
      exact ⟨rfl, unhide HL8⟩
    · have em := unhide HRFN (fun h => hbl h.2)
      subst em
      have em2 : ((((l.length : Nat) : Int)) == ((l.length : Nat) : Int)) = true := by simp
      have hge : bent ≥ 0 := hb0
      clear HRFY HRFN
      go_upto_region 23 with fail
      try rw [hW5]
      clear hW5
      go_region_held3 (fun w' => Fr W5 w') (with_reducible (first | exact hstd | exact hst | (refine Fr.below ?_ (by assumption) <;> assumption)))
        (first | (go_at_call 18; refine (unhide HTO _ (by assumption)).mono ?_; rintro e wd ⟨vd, rfl, hyd, hbd⟩; have HYD := hide hyd.at; obtain ⟨kd', rfl, hod⟩ := hyd; obtain ⟨pa, pc, rfl, _⟩ := ownsRow_slice hod; clear hod) | (go_at_call 17; refine (unhide HLI _ _ _ (unhide HYD) (unhide HYA _ (by assumption))).mono ?_; rintro e wf ⟨rfl, hbf⟩) | fail)
      have hfin : Fr W5 wf := by assumption
      have HL8 := hide ((unhide HL5).trans (hfin.low.mono (unhide HL5).size))
      clear hfin hbf hbd
      go_wp2_with fail
      go_ret
      exact ⟨rfl, unhide HL8⟩
  · have em := unhide HRFN (fun h => hb0 h.1)
    subst em
    have em2 : ((((l.length : Nat) : Int)) == ((l.length : Nat) : Int)) = true := by simp
    have hge : ¬ bent ≥ 0 := hb0
    clear HRFY HRFN
    go_upto_region 23 with fail
    try rw [hW5]
    clear hW5
    go_region_held3 (fun w' => Fr W5 w') (with_reducible (first | exact hstd | exact hst | (refine Fr.below ?_ (by assumption) <;> assumption)))
      (first | (go_at_call 18; refine (unhide HTO _ (by assumption)).mono ?_; rintro e wd ⟨vd, rfl, hyd, hbd⟩; have HYD := hide hyd.at; obtain ⟨kd', rfl, hod⟩ := hyd; obtain ⟨pa, pc, rfl, _⟩ := ownsRow_slice hod; clear hod) | (go_at_call 17; refine (unhide HLI _ _ _ (unhide HYD) (unhide HYA _ (by assumption))).mono ?_; rintro e wf ⟨rfl, hbf⟩) | fail)
    have hfin : Fr W5 wf := by assumption
    have HL8 := hide ((unhide HL5).trans (hfin.low.mono (unhide HL5).size))
    clear hfin hbf hbd
    go_wp2_with fail
    go_ret
    exact ⟨rfl, unhide HL8⟩
theorem adtRuns_walk {H : Type} {enc : TypeId × Value → H} {base b0 : Nat} {spare : Nat → Bool} {held : Bool} {r : Reach} {va vb : Value} {d1 d2 : DataW H} {p1 p2 : List MemPlace} (w : World)
    (hva : Value.okWide Tryd.prog w r b0 24 va) (hda : DataW.Trod enc Tryd.prog w base spare held 24 va d1 p1) (hvb : Value.okWide Tryd.prog w r b0 57 vb) (hdb : DataW.Trod enc Tryd.prog w base spare held 57 vb d2 p2)
    (n : Int) (hn : (Lit.int .i64 n).wf = true) (hw : MD w) :
    Calls Tryd.prog 6 #[va, vb, .int .i64 n] w fun e w' => e = .returned (.bool true) ∧ Below w.heap.size w w' := by
  obtain ⟨s, hs, _, hsn, hsz⟩ := open_state hva hda
  obtain ⟨a, len, cap, rfl, hlen, hrc⟩ := open_calls hvb hdb
  exact truns_any hs hsn hsz a len cap hlen hrc n (vwf_i64 hn) hw
end Go.Proofs.YtadngcjchlpkaaaDoor
