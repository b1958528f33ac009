/- Texts that this proof needs, one behind the other: TSteps, TRun. -/
import Derived.Test.YteaiidcconggcaaDoorBundleT6
import Derived.Test.YteaiidcconggcaaDoorBundleT9
/- A row of steps in memory: of seven cells each, wherever it lies. -/
namespace Go.Proofs.YteaiidcconggcaaDoor
open Go.RowKit
set_option linter.unusedVariables false
set_option maxRecDepth 100000

def E7 : List (MC × MR) → List Value
  | [] => []
  | x :: r => .int .i64 x.1.op :: .string (S x.1.a) :: .string (S x.1.b) :: .int .i64 x.1.n :: .int .i64 x.2.code :: .string (S x.2.text) :: .int .i64 x.2.n :: E7 r
theorem E7_append (a b : List (MC × MR)) : E7 (a ++ b) = E7 a ++ E7 b := by
  induction a with
  | nil => rfl
  | cons x r ih => simp [E7, ih]
theorem E7_length (a : List (MC × MR)) : (E7 a).length = a.length * 7 := by
  induction a with
  | nil => rfl
  | cons x r ih => simp [E7, ih]; omega
theorem E7_get : ∀ (a : List (MC × MR)) (k : Nat) (h : k < a.length), (E7 a)[k * 7]? = some (.int .i64 (a[k]'h).1.op) ∧ (E7 a)[k * 7 + 1]? = some (.string (S (a[k]'h).1.a)) ∧ (E7 a)[k * 7 + 2]? = some (.string (S (a[k]'h).1.b)) ∧ (E7 a)[k * 7 + 3]? = some (.int .i64 (a[k]'h).1.n) ∧ (E7 a)[k * 7 + 4]? = some (.int .i64 (a[k]'h).2.code) ∧ (E7 a)[k * 7 + 5]? = some (.string (S (a[k]'h).2.text)) ∧ (E7 a)[k * 7 + 6]? = some (.int .i64 (a[k]'h).2.n)
  | x :: r, 0, h => by simp [E7]
  | x :: r, k + 1, h => by
    have := E7_get r k (by simpa using h)
    have e : (k + 1) * 7 = k * 7 + 1 + 1 + 1 + 1 + 1 + 1 + 1 := by omega
    rw [e]
    simpa [E7] using this
def Row7 (w : World) (v : Value) (l : List (MC × MR)) : Prop :=
  ∃ a c, v = .slice a l.length c ∧ l.length ≤ c ∧ c ≤ maxLen ∧ (a = none → c = 0) ∧ ∀ i u, (E7 l)[i]? = some u → ∃ b off, a = some ⟨b, off, none⟩ ∧ b < w.heap.size ∧ w.cell? ⟨b, off + i, none⟩ = some u
theorem Row7.later {w w' : World} {v : Value} {l : List (MC × MR)} (h : Row7 w v l) (hb : Below w.heap.size w w') : Row7 w' v l := by
  obtain ⟨a, c, e, h1, h2, h0, h3⟩ := h
  refine ⟨a, c, e, h1, h2, h0, fun i u hu => ?_⟩
  obtain ⟨b, off, ea, hlt, hc⟩ := h3 i u hu
  exact ⟨b, off, ea, by have := hb.size; omega, by rw [hb.cell (p := ⟨b, off + i, none⟩) hlt]; exact hc⟩
theorem Row7.nil (w : World) : Row7 w (.slice none 0 0) [] := ⟨none, 0, rfl, Nat.le_refl _, by simp [maxLen], fun _ => rfl, fun i u h => by simp [E7] at h⟩
theorem Row7.of_own {w : World} {base : Nat} {e : TypeId} {v : Value} {l : List (MC × MR)} (h : w.ownsRow base e 7 v l.length (E7 l)) : Row7 w v l := by
  rcases h.2 with ⟨rfl, h0⟩ | ⟨g, cap, cur, rfl, hb, hh, hn, hm, hs, ht⟩
  · have : l = [] := List.eq_nil_of_length_eq_zero h0
    subst this
    exact Row7.nil w
  · refine ⟨_, cap, rfl, hn, hm, fun e => (by cases e), fun i u hu => ⟨g, 0, rfl, block_lt hh, ?_⟩⟩
    rw [Nat.zero_add]
    exact ownsRow_cell h rfl i u hu
theorem Row7.at {w : World} {a : Option Addr} {n c : Nat} {l : List (MC × MR)} (h : Row7 w (.slice a n c) l) (i : Nat) (hi : i < l.length) :
    ∃ b off, a = some ⟨b, off, none⟩ ∧ b < w.heap.size ∧ w.cell? ⟨b, off + i * 7, none⟩ = some (.int .i64 (l[i]'hi).1.op) ∧ w.cell? ⟨b, off + i * 7 + 1, none⟩ = some (.string (S (l[i]'hi).1.a)) ∧ w.cell? ⟨b, off + i * 7 + 2, none⟩ = some (.string (S (l[i]'hi).1.b)) ∧ w.cell? ⟨b, off + i * 7 + 3, none⟩ = some (.int .i64 (l[i]'hi).1.n) ∧ w.cell? ⟨b, off + i * 7 + 4, none⟩ = some (.int .i64 (l[i]'hi).2.code) ∧ w.cell? ⟨b, off + i * 7 + 5, none⟩ = some (.string (S (l[i]'hi).2.text)) ∧ w.cell? ⟨b, off + i * 7 + 6, none⟩ = some (.int .i64 (l[i]'hi).2.n) := by
  obtain ⟨a', c', e, h1, h2, h0, h3⟩ := h
  injection e with e1 e2 e3
  subst e1 e2 e3
  obtain ⟨g0, g1, g2, g3, g4, g5, g6⟩ := E7_get l i hi
  obtain ⟨b, off, ea, hlt, hc⟩ := h3 _ _ g0
  have key (j : Nat) (u : Value) (hu : (E7 l)[i * 7 + j]? = some u) : w.cell? ⟨b, off + i * 7 + j, none⟩ = some u := by
    obtain ⟨b', off', ea', _, hc'⟩ := h3 _ _ hu
    rw [ea] at ea'
    cases ea'
    rw [Nat.add_assoc]
    exact hc'
  exact ⟨b, off, ea, hlt, hc, key 1 _ g1, key 2 _ g2, key 3 _ g3, key 4 _ g4, key 5 _ g5, key 6 _ g6⟩
theorem Row7.shape {w : World} {v : Value} {l : List (MC × MR)} (h : Row7 w v l) : ∃ a c, v = .slice a l.length c ∧ l.length ≤ c ∧ c ≤ maxLen := by
  obtain ⟨a, c, e, h1, h2, _, _⟩ := h
  exact ⟨a, c, e, h1, h2⟩
/- How far steps are legal, one behind the other. -/
def runSt (x : VS) : List (MC × MR) → VS
  | [] => x
  | p :: r => runSt (apply2 x p.1 p.2) r
theorem runSt_snoc (x : VS) (l : List (MC × MR)) (p : MC × MR) : runSt x (l ++ [p]) = apply2 (runSt x l) p.1 p.2 := by
  induction l generalizing x with
  | nil => rfl
  | cons q r ih => exact ih _
theorem runSt_take (x : VS) (l : List (MC × MR)) (k : Nat) (hk : k < l.length) : runSt x (l.take (k + 1)) = apply2 (runSt x (l.take k)) (l[k]'hk).1 (l[k]'hk).2 := by
  rw [List.take_succ_eq_append_getElem hk, runSt_snoc]
/- Steps whose calls are calls. -/
def Steps (l : List (MC × MR)) : Prop := ∀ p ∈ l, okOp p.1.op
theorem runSt_fit {x : VS} (h : x.fit) : ∀ (l : List (MC × MR)), Steps l → (runSt x l).fit := by
  intro l
  induction l generalizing x with
  | nil => intro _; exact h
  | cons p r ih => exact fun hs => ih (h.apply (hs p (List.mem_cons_self ..)) _) fun q hq => hs q (List.mem_cons_of_mem _ hq)
theorem runSt_len (x : VS) (l : List (MC × MR)) : (runSt x l).rows.length ≤ x.rows.length + l.length := by
  induction l generalizing x with
  | nil => exact Nat.le_refl _
  | cons p r ih =>
    have h1 := apply_len x p.1 p.2
    have h2 := ih (apply2 x p.1 p.2)
    show (runSt (apply2 x p.1 p.2) r).rows.length ≤ _
    simp
    omega
end Go.Proofs.YteaiidcconggcaaDoor
/- The contract of adt's Run. -/
namespace Go.Proofs.YteaiidcconggcaaDoor
open Go.RowKit
set_option linter.unusedVariables false
set_option maxRecDepth 100000

structure Rn (w : World) (y : VS) (sl : Value) (wr : World) : Prop where
  low : Below w.heap.size w wr
  st : wr.heap[w.heap.size]? = some (.cells #[.int .i64 y.kind, .int .i64 y.n, sl] 47 (0, 0))
  res : wr.heap[w.heap.size + 1]? = some (.cells #[.int .i64 0, .int .i64 0, .slice none 0 0] 47 (0, 0))
  own : wr.ownsRow (w.heap.size + 1 + 1) 82 2 sl y.rows.length (R9 y.rows)
section
variable {w wr w' : World} {y : VS} {sl : Value}
theorem Rn.later (h : Rn w y sl wr) (hb : Below wr.heap.size wr w') : Rn w y sl w' := ⟨h.low.trans (hb.mono h.low.size), (hb.block _ (block_lt h.st)).trans h.st, (hb.block _ (block_lt h.res)).trans h.res, ownsRow_below h.own hb⟩
theorem Rn.put (h : Rn w y sl wr) {z : VS} {u : Value} (ho : wr.ownsRow (w.heap.size + 1 + 1) 82 2 u z.rows.length (R9 z.rows)) : Rn w z u (put3 wr w.heap.size (.int .i64 z.kind) (.int .i64 z.n) u) := by
  refine ⟨⟨h.low.os, h.low.tape, h.low.output, by rw [put3_size]; exact h.low.size, fun j hj => by rw [put3_other _ _ _ _ (by omega)]; exact h.low.block j hj⟩, ?_, by rw [put3_other _ _ _ _ (by omega)]; exact h.res, ownsRow_same ho fun j hj => ?_⟩
  · have f1 := heap_setCell_same wr w.heap.size 0 _ _ (.int .i64 z.kind) h.st
    have f2 := heap_setCell_same _ w.heap.size 1 _ _ (.int .i64 z.n) f1
    have f3 := heap_setCell_same _ w.heap.size 2 _ _ u f2
    unfold put3
    simpa [Array.setIfInBounds] using f3
  · have := (ho.lt j hj).1
    rw [put3_other _ _ _ _ (by omega)]
theorem Rn.at (h : Rn w y sl wr) : StOwn (w.heap.size + 1 + 1) 82 wr (.agg #[.int .i64 y.kind, .int .i64 y.n, sl]) y := ⟨_, rfl, h.own⟩
end
theorem cells7 {w : World} {N : Nat} {a b c d e f g : Value} {t : TypeId} (h : w.heap[N]? = some (.cells #[a, b, c, d, e, f, g] t (0, 0))) : w.cell? ⟨N, 0, none⟩ = some a ∧ w.cell? ⟨N, 1, none⟩ = some b ∧ w.cell? ⟨N, 2, none⟩ = some c ∧ w.cell? ⟨N, 3, none⟩ = some d ∧ w.cell? ⟨N, 4, none⟩ = some e ∧ w.cell? ⟨N, 5, none⟩ = some f ∧ w.cell? ⟨N, 6, none⟩ = some g := by
  refine ⟨?_, ?_, ?_, ?_, ?_, ?_, ?_⟩ <;> rw [block_cell h] <;> rfl
theorem cells3 {w : World} {N : Nat} {a b c : Value} {t : TypeId} (h : w.heap[N]? = some (.cells #[a, b, c] t (0, 0))) : w.cell? ⟨N, 0, none⟩ = some a ∧ w.cell? ⟨N, 1, none⟩ = some b ∧ w.cell? ⟨N, 2, none⟩ = some c ∧ ∀ j, w.frozen? ⟨N, j, none⟩ = false := by
  refine ⟨?_, ?_, ?_, fun j => block_frozen h j⟩ <;> rw [block_cell h] <;> rfl

set_option maxHeartbeats 25600000 in
theorem arun_any {base : Nat} {w : World} {v lv : Value} {x : VS} {l : List (MC × MR)} (h : StOwn base 82 w v x) (hfit : x.fit) (hxl : x.rows.length ≤ 100) (hl : Row7 w lv l) (hll : l.length ≤ 100) (hsteps : Steps l) (hw : MD w) (m : Nat) (hm : m ≤ l.length)
    (hleg : ∀ k (hk : k < l.length), k < m → legal (runSt x (l.take k)) (l[k]'hk).1 (l[k]'hk).2 = true) (hstop : ∀ hk : m < l.length, legal (runSt x (l.take m)) (l[m]'hk).1 (l[m]'hk).2 = false) :
    Calls Tryd.prog 24 #[v, lv] w fun e w' => ∃ v', e = .returned (.tuple #[v', .int .i64 (m : Int)]) ∧ StOwn w.heap.size 82 w' v' (runSt x (l.take m)) ∧ Below w.heap.size w w' := by
  have HCL := hide (fun (w1 : World) (hb : Below w.heap.size w w1) => vclone_any (h.later hb) (by omega))
  have HLG : Hid (∀ (k : Nat) (hk : k < l.length) (w1 : World) (sl : Value), Below w.heap.size w w1 → Rn w (runSt x (l.take k)) sl w1 → Calls Tryd.prog 40 #[.agg #[.int .i64 (runSt x (l.take k)).kind, .int .i64 (runSt x (l.take k)).n, sl], mcV (l[k]'hk).1, mrV (l[k]'hk).2] w1 fun e w' => e = .returned (.bool (legal (runSt x (l.take k)) (l[k]'hk).1 (l[k]'hk).2)) ∧ Below w1.heap.size w1 w') := fun k hk w1 sl hb hr => alegal_any hr.at.at (by have := runSt_len x (l.take k); simp at this; omega) (hsteps _ (List.getElem_mem hk)) (hw.later hb) _
  have HAP : Hid (∀ (k : Nat) (hk : k < l.length) (w1 : World) (sl : Value), Below w.heap.size w w1 → Rn w (runSt x (l.take k)) sl w1 → Calls Tryd.prog 41 #[.agg #[.int .i64 (runSt x (l.take k)).kind, .int .i64 (runSt x (l.take k)).n, sl], mcV (l[k]'hk).1, mrV (l[k]'hk).2] w1 fun e w' => ∃ v', e = .returned v' ∧ StOwn w1.heap.size 82 w' v' (runSt x (l.take (k + 1))) ∧ Below w1.heap.size w1 w') := fun k hk w1 sl hb hr => by
    rw [runSt_take x l k hk, ← apply_same (runSt_fit hfit _ fun p hp => hsteps p (List.mem_of_mem_take hp))]
    exact aapply_any hr.at (by have := runSt_len x (l.take k); simp at this; omega) (hsteps _ (List.getElem_mem hk)) (hw.later hb) _
  obtain ⟨la, lc, rfl, hlc, hlm⟩ := hl.shape
  unfold maxLen at hlm
  have HROW := hide hl
  obtain ⟨st, hstf⟩ : ∃ st : Nat → VS, (fun k => runSt x (l.take k)) = st := ⟨_, rfl⟩
  have hst' : ∀ k, runSt x (l.take k) = st k := fun k => by rw [← hstf]
  have h00 : st 0 = x := by rw [← hst']; rfl
  simp only [hst'] at HLG HAP hleg hstop ⊢
  have HLE := hide hleg
  have HSP := hide hstop
  clear hst' hstf hl hleg hstop hsteps hw hfit
  obtain ⟨k0, rfl, hr⟩ := h
  obtain ⟨a, cc, rfl, _⟩ := ownsRow_slice hr
  have HST := hide (B2.start w (.cells #[.int .i64 x.kind, .int .i64 x.n, .slice a x.rows.length cc] 47) (.cells #[.int .i64 0, .int .i64 0, .slice none 0 0] 47))
  clear hr
  go_enter Tryd.func24, Tryd.ntmps24
  go_wp2_with fail
  refine (unhide HCL _ (unhide HST).low).mono ?_
  rintro e w1 ⟨v1, rfl, ⟨k1, rfl, ho⟩, hb1⟩
  obtain ⟨ka, kc, rfl, _⟩ := ownsRow_slice ho
  have hx1 := (unhide HST).on hb1
  obtain ⟨⟨c0, c1, c2⟩, _, f0, _⟩ := hx1.facts
  have HR0 : Hid (Rn w (st 0) (.slice ka (st 0).rows.length kc) (put3 w1 w.heap.size (.int .i64 x.kind) (.int .i64 x.n) (.slice ka x.rows.length kc))) := by
    show Rn _ _ _ _
    rw [h00]
    have : Rn w x (.slice a x.rows.length cc) w1 → Rn w x (.slice ka x.rows.length kc) (put3 w1 w.heap.size (.int .i64 x.kind) (.int .i64 x.n) (.slice ka x.rows.length kc)) := fun h => h.put (ownsRow_less ho (by simp))
    obtain ⟨g1, g2, g3⟩ := hx1.blocks
    refine ⟨⟨hx1.low.os, hx1.low.tape, hx1.low.output, by rw [put3_size]; exact hx1.low.size, fun j hj => by rw [put3_other _ _ _ _ (by omega)]; exact hx1.low.block j hj⟩, ?_, by rw [put3_other _ _ _ _ (by omega)]; exact g2, ownsRow_same (ownsRow_less ho (by simp)) fun j hj => ?_⟩
    · have q1 := heap_setCell_same w1 w.heap.size 0 _ _ (.int .i64 x.kind) g1
      have q2 := heap_setCell_same _ w.heap.size 1 _ _ (.int .i64 x.n) q1
      have q3 := heap_setCell_same _ w.heap.size 2 _ _ (.slice ka x.rows.length kc) q2
      unfold put3
      simpa [Array.setIfInBounds] using q3
    · have := (ho.lt j hj).1
      rw [put3_other _ _ _ _ (by simp at this; omega)]
  unfold put3 at HR0
  clear hx1 ho hb1 HCL HST h00
  go_wp2_with fail
  go_loopw [12] (fun i wr => ∃ (k : Nat) (ka : Option Addr) (kc : Nat), k ≤ m ∧ i = .int .i64 (k : Int) ∧ Rn w (st k) (.slice ka (st k).rows.length kc) wr) (fun i _ => l.length - (intOf i).toNat)
  case atStart => exact ⟨0, _, _, Nat.zero_le _, rfl, unhide HR0⟩
  case round =>
    obtain ⟨k, ka, kc, hk, rfl, hrn⟩ := hrel
    clear c0 c1 c2 f0 HR0
    by_cases hlt : k < l.length
    · obtain ⟨b, off, rfl, hbl, e0, e1, e2, e3, e4, e5, e6⟩ := (unhide HROW).at k hlt
      have hlow := hrn.low
      rw [← hlow.cell (p := ⟨b, off + k * 7, none⟩) hbl] at e0
      rw [← hlow.cell (p := ⟨b, off + k * 7 + 1, none⟩) hbl] at e1
      rw [← hlow.cell (p := ⟨b, off + k * 7 + 2, none⟩) hbl] at e2
      rw [← hlow.cell (p := ⟨b, off + k * 7 + 3, none⟩) hbl] at e3
      rw [← hlow.cell (p := ⟨b, off + k * 7 + 4, none⟩) hbl] at e4
      rw [← hlow.cell (p := ⟨b, off + k * 7 + 5, none⟩) hbl] at e5
      rw [← hlow.cell (p := ⟨b, off + k * 7 + 6, none⟩) hbl] at e6
      have HLK := hide (unhide HLG k hlt)
      have HAK := hide (unhide HAP k hlt)
      have HL1 := hide (fun h : k < m => unhide HLE k hlt h)
      have HL2 : Hid (k = m → legal (st k) (l[k]'hlt).1 (l[k]'hlt).2 = false) := fun e => by subst e; exact unhide HSP hlt
      clear HLG HAP HLE HSP HROW
      generalize l[k]'hlt = q at *
      obtain ⟨⟨q1, q2, q3, q4⟩, ⟨q5, q6, q7⟩⟩ := q
      unfold mcV mrV at *
      dsimp only at *
      have hi0 : (0 : Int) ≤ (k : Int) := by omega
      have hi1 : (k : Int) < ((l.length : Nat) : Int) := by omega
      have hne : wr.heap.size ≠ b := by have := hlow.size; omega
      obtain ⟨W2, hW2⟩ : ∃ W2, wr.alloc (.cells #[.int .i64 q1, .string (S q2), .string (S q3), .int .i64 q4, .int .i64 q5, .string (S q6), .int .i64 q7] 41) = W2 := ⟨_, rfl⟩
      have hb2 : Below wr.heap.size wr W2 := by rw [← hW2]; exact under_box _
      have hc2 : W2.heap[wr.heap.size]? = some (.cells #[.int .i64 q1, .string (S q2), .string (S q3), .int .i64 q4, .int .i64 q5, .string (S q6), .int .i64 q7] 41 (0, 0)) := by rw [← hW2]; exact heap_alloc_new wr _
      have HN2 := hide (hrn.later hb2)
      have HC2 := hide hc2
      obtain ⟨p0, p1, p2, p3, p4, p5, p6⟩ := cells7 hc2
      obtain ⟨s0, s1, s2, _⟩ := cells3 (unhide HN2).st
      clear hrn hlow hb2 hc2
      go_upto_region 5 with fail
      try rw [hW2]
      clear hW2 e0 e1 e2 e3 e4 e5 e6
      go_wp2_with fail
      refine (unhide HLK _ _ (unhide HN2).low (unhide HN2)).mono ?_
      rintro e w3 ⟨rfl, hb3⟩
      have HN3 := hide ((unhide HN2).later hb3)
      have HC3 := hide ((hb3.block _ (block_lt (unhide HC2))).trans (unhide HC2))
      clear hb3 p0 p1 p2 p3 p4 p5 p6 s0 s1 s2 HN2 HC2 HLK
      obtain ⟨s0, s1, s2, fz⟩ := cells3 (unhide HN3).st
      by_cases hkm : k < m
      · rw [unhide HL1 hkm]
        obtain ⟨p0, p1, p2, p3, p4, p5, p6⟩ := cells7 (unhide HC3)
        have HKM := hide hkm
        clear HL1 HL2 hkm HC3
        go_wp2_with fail
        refine (unhide HAK _ _ (unhide HN3).low (unhide HN3)).mono ?_
        rintro e w4 ⟨v4, rfl, ⟨k4, rfl, ho4⟩, hb4⟩
        obtain ⟨za, zc, rfl, _⟩ := ownsRow_slice ho4
        have hn4 := (unhide HN3).later hb4
        clear s0 s1 s2 fz
        obtain ⟨s0, s1, s2, fz⟩ := cells3 hn4.st
        have HN5 := hide (hn4.put (ownsRow_less ho4 (by have := block_lt (unhide HN3).res; omega)))
        unfold put3 at HN5
        clear hn4 hb4 ho4 HAK HN3
        go_wp2_with fail
        go_roundw
        case rel => exact ⟨k + 1, _, _, by have := unhide HKM; omega, by go_num, unhide HN5⟩
        case measure => simp [intOf]; omega
      · have hke : k = m := by omega
        rw [unhide HL2 hke]
        obtain ⟨y0, y1, y2, fy⟩ := cells3 (unhide HN3).res
        obtain ⟨z0, z1, z2, zl, zo, _⟩ := give3 (unhide HN3).low (Nat.le_succ _) (unhide HN3).res (.int .i64 (st k).kind) (.int .i64 (st k).n) (.slice ka (st k).rows.length kc)
        have ZO := hide (zo _ _ _ _ _ _ (by omega) (unhide HN3).own)
        unfold put3 at z0 z1 z2 zl ZO
        have ZL := hide zl
        clear zl zo HN3 HC3 HAK HL1 HL2
        subst hke
        go_wp2_with fail
        exact bodyPost_ret (v := .tuple #[.agg #[.int .i64 (st k).kind, .int .i64 (st k).n, .slice ka (st k).rows.length kc], .int .i64 (k : Int)]) (by simp [results, Tryd.results24, go_sem, z0, z1, z2]) rfl ⟨_, rfl, ⟨_, rfl, unhide ZO⟩, unhide ZL⟩
    · have hke : k = m := by omega
      have hkl : l.length = m := by omega
      obtain ⟨s0, s1, s2, fz⟩ := cells3 hrn.st
      obtain ⟨y0, y1, y2, fy⟩ := cells3 hrn.res
      obtain ⟨z0, z1, z2, zl, zo, _⟩ := give3 hrn.low (Nat.le_succ _) hrn.res (.int .i64 (st k).kind) (.int .i64 (st k).n) (.slice ka (st k).rows.length kc)
      have ZO := hide (zo _ _ _ _ _ _ (by omega) hrn.own)
      unfold put3 at z0 z1 z2 zl ZO
      have ZL := hide zl
      clear zl zo hrn HLG HAP HLE HSP HROW
      subst hke
      have hi1 : ¬ (k : Int) < ((l.length : Nat) : Int) := by omega
      rw [hkl] at *
      clear hkl hlt hm hk
      go_wp2_with fail
      exact bodyPost_ret (v := .tuple #[.agg #[.int .i64 (st k).kind, .int .i64 (st k).n, .slice ka (st k).rows.length kc], .int .i64 (k : Int)]) (by simp [results, Tryd.results24, go_sem, z0, z1, z2]) rfl ⟨_, rfl, ⟨_, rfl, unhide ZO⟩, unhide ZL⟩
end Go.Proofs.YteaiidcconggcaaDoor
