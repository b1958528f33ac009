/- The contract of Join. -/
import Derived.Test.YtochaiinofhdhaaNSplit
import Derived.Test.YtochaiinofhdhaaNConcat2
namespace Go.Proofs.Ytochaiinofhdhaa
open Go.RowKit
set_option linter.unusedVariables false
set_option maxRecDepth 100000

theorem alloc_new' {w : World} {o : Obj} {k : Nat} (h : w.heap.size = k) : (w.alloc o).heap[k]? = some o := by subst h; exact heap_alloc_new w o
theorem alloc_old' {w : World} {o : Obj} {k : Nat} {x : Obj} (h : k < w.heap.size) (hx : w.heap[k]? = some x) : (w.alloc o).heap[k]? = some x := (Below.heap_alloc w o k h).trans hx
theorem below_old' {B : Nat} {w w' : World} {k : Nat} {x : Obj} (hb : Below B w w') (h : k < B) (hx : w.heap[k]? = some x) : w'.heap[k]? = some x := (hb.block k h).trans hx

theorem Reg.undrew {w0 w : World} {X : Nat → Prop} (h : Reg w0 X w.drew) : Reg w0 X w := ⟨h.os, h.tape, h.output, h.size, h.keep, h.box⟩

def joined (a : Nd) (key : List UInt8) (b : Nd) : Nd := if a.leaf then ⟨true, a.keys ++ b.keys, a.vals ++ b.vals, []⟩ else ⟨false, a.keys ++ [key] ++ b.keys, [], a.kids ++ b.kids⟩

theorem three_facts (w : World) (a b c d a' b' c' d' : Value) (t t' t'' : TypeId) : ∃ (A B R : Obj) (X : Nat → Prop), A = .cells #[a, b, c, d] t (0, 0) ∧ B = .cells #[a', b', c', d'] t' (0, 0) ∧ R = .cells #[.bool false, .slice none 0 0, .slice none 0 0, .slice none 0 0] t'' (0, 0) ∧ Hid (X (w.heap.size + 1 + 1)) ∧
    Reg (((w.alloc A).alloc B).alloc R) X (((w.alloc A).alloc B).alloc R).drew ∧ Hid (∀ w1, Reg (((w.alloc A).alloc B).alloc R) X w1 → Below w.heap.size w w1) ∧
    (∀ w1, Reg (((w.alloc A).alloc B).alloc R) X w1 → w1.cell? ⟨w.heap.size, 0, none⟩ = some a) ∧ (∀ w1, Reg (((w.alloc A).alloc B).alloc R) X w1 → w1.cell? ⟨w.heap.size, 1, none⟩ = some b) ∧
    (∀ w1, Reg (((w.alloc A).alloc B).alloc R) X w1 → w1.cell? ⟨w.heap.size, 2, none⟩ = some c) ∧ (∀ w1, Reg (((w.alloc A).alloc B).alloc R) X w1 → w1.cell? ⟨w.heap.size, 3, none⟩ = some d) ∧
    (∀ w1, Reg (((w.alloc A).alloc B).alloc R) X w1 → w1.cell? ⟨w.heap.size + 1, 1, none⟩ = some b') ∧
    (∀ w1, Reg (((w.alloc A).alloc B).alloc R) X w1 → w1.cell? ⟨w.heap.size + 1, 2, none⟩ = some c') ∧ (∀ w1, Reg (((w.alloc A).alloc B).alloc R) X w1 → w1.cell? ⟨w.heap.size + 1, 3, none⟩ = some d') ∧
    (∀ w1, Reg (((w.alloc A).alloc B).alloc R) X w1 → w1.cell? ⟨w.heap.size + 1 + 1, 0, none⟩ = some (valAt w1 (w.heap.size + 1 + 1) 0)) ∧ (∀ w1, Reg (((w.alloc A).alloc B).alloc R) X w1 → w1.cell? ⟨w.heap.size + 1 + 1, 1, none⟩ = some (valAt w1 (w.heap.size + 1 + 1) 1)) ∧
    (∀ w1, Reg (((w.alloc A).alloc B).alloc R) X w1 → w1.cell? ⟨w.heap.size + 1 + 1, 2, none⟩ = some (valAt w1 (w.heap.size + 1 + 1) 2)) ∧ (∀ w1, Reg (((w.alloc A).alloc B).alloc R) X w1 → w1.cell? ⟨w.heap.size + 1 + 1, 3, none⟩ = some (valAt w1 (w.heap.size + 1 + 1) 3)) ∧
    (∀ w1 j, Reg (((w.alloc A).alloc B).alloc R) X w1 → w1.frozen? ⟨w.heap.size + 1 + 1, j, none⟩ = false) := by
  obtain ⟨e1, e2, e3⟩ := three_blocks w (.cells #[a, b, c, d] t (0, 0)) (.cells #[a', b', c', d'] t' (0, 0)) (.cells #[.bool false, .slice none 0 0, .slice none 0 0, .slice none 0 0] t'' (0, 0))
  obtain ⟨c0, c1, c2, c3⟩ := cells4 e1
  obtain ⟨d0, d1, d2, d3⟩ := cells4 e2
  refine ⟨_, _, _, fun k => k = w.heap.size + 1 + 1, rfl, rfl, rfl, rfl, (Reg.start (by rintro k rfl; exact ⟨_, _, _, _, _, e3⟩)).drew, fun w1 hr => hr.low (three_low w _ _ _) (by intro k hk; omega) (by simp; omega), fun w1 hr => hr.cell (by omega) c0, fun w1 hr => hr.cell (by omega) c1, fun w1 hr => hr.cell (by omega) c2, fun w1 hr => hr.cell (by omega) c3, fun w1 hr => hr.cell (by omega) d1, fun w1 hr => hr.cell (by omega) d2, fun w1 hr => hr.cell (by omega) d3,
    fun w1 hr => (hr.there (N := w.heap.size + 1 + 1) rfl).1, fun w1 hr => (hr.there (N := w.heap.size + 1 + 1) rfl).2.1, fun w1 hr => (hr.there (N := w.heap.size + 1 + 1) rfl).2.2.1, fun w1 hr => (hr.there (N := w.heap.size + 1 + 1) rfl).2.2.2, fun w1 j hr => hr.frozen (N := w.heap.size + 1 + 1) rfl j⟩

theorem two_rows {w : World} {v1 v2 : Value} {l1 l2 : List Value} (h1 : Row w v1 l1) (h2 : Row w v2 l2) : Row w v1 l1 ∧ Row w v2 l2 := ⟨h1, h2⟩
theorem concat2 {w : World} {v1 v2 : Value} {l1 l2 : List (List UInt8)} {b : Nat} (hblk : w.heap[b]? = some (.cells #[v1, v2] 22 (0, 0))) (h1 : Row w v1 (T9 l1)) (h2 : Row w v2 (T9 l2)) (hb : l1.length + l2.length ≤ 3000) :
    Calls Try.prog 66 #[.slice (some ⟨b, 0, none⟩) 2 2] w fun e w' => ∃ v', e = .returned v' ∧ w'.ownsRow w.heap.size 9 1 v' (l1 ++ l2).length (T9 (l1 ++ l2)) ∧ Below w.heap.size w w' := by
  have h := sconcat_any [l1, l2] [v1, v2] b 2 w rfl rfl hblk (fun i hi1 hi2 => by
    simp at hi1
    match i, hi1 with
    | 0, _ => exact h1
    | 1, _ => exact h2) (by decide) (by simpa using hb)
  simpa using h
theorem concat3 {w : World} {v1 v2 v3 : Value} {l1 l2 l3 : List (List UInt8)} {b : Nat} (hblk : w.heap[b]? = some (.cells #[v1, v2, v3] 22 (0, 0))) (h1 : Row w v1 (T9 l1)) (h2 : Row w v2 (T9 l2)) (h3 : Row w v3 (T9 l3)) (hb : l1.length + l2.length + l3.length ≤ 3000) :
    Calls Try.prog 66 #[.slice (some ⟨b, 0, none⟩) 3 3] w fun e w' => ∃ v', e = .returned v' ∧ w'.ownsRow w.heap.size 9 1 v' (l1 ++ l2 ++ l3).length (T9 (l1 ++ l2 ++ l3)) ∧ Below w.heap.size w w' := by
  have h := sconcat_any [l1, l2, l3] [v1, v2, v3] b 3 w rfl rfl hblk (fun i hi1 hi2 => by
    simp at hi1
    match i, hi1 with
    | 0, _ => exact h1
    | 1, _ => exact h2
    | 2, _ => exact h3) (by decide) (by simp; omega)
  rw [show [l1, l2, l3].flatten = l1 ++ l2 ++ l3 by simp] at h
  exact h
theorem iconcat2 {w : World} {v1 v2 : Value} {l1 l2 : List Int} {b : Nat} (hblk : w.heap[b]? = some (.cells #[v1, v2] 23 (0, 0))) (h1 : Row w v1 (I9 l1)) (h2 : Row w v2 (I9 l2)) (hb : l1.length + l2.length ≤ 3000) :
    Calls Try.prog 67 #[.slice (some ⟨b, 0, none⟩) 2 2] w fun e w' => ∃ v', e = .returned v' ∧ w'.ownsRow w.heap.size 3 1 v' (l1 ++ l2).length (I9 (l1 ++ l2)) ∧ Below w.heap.size w w' := by
  have h := iconcat_any [l1, l2] [v1, v2] b 2 w rfl rfl hblk (fun i hi1 hi2 => by
    simp at hi1
    match i, hi1 with
    | 0, _ => exact h1
    | 1, _ => exact h2) (by decide) (by simpa using hb)
  simpa using h
theorem Row.one {w : World} {b : Nat} {x : List UInt8} (h : w.heap[b]? = some (.cells #[.string (S x)] 9 (0, 0))) : Row w (.slice (some ⟨b, 0, none⟩) 1 1) (T9 [x]) := by
  refine ⟨_, 1, rfl, Nat.le_refl _, by simp [maxLen], fun e => (by cases e), fun i u hu => ⟨b, 0, rfl, block_lt h, ?_⟩⟩
  rw [Nat.zero_add, block_cell h]
  match i, hu with
  | 0, hu => exact hu
  | i + 1, hu => simp [T9] at hu

set_option maxHeartbeats 12800000 in
theorem join_any {w : World} {va vb : Value} {a b : Nd} (ha : NdAt w va a) (hb : NdAt w vb b) (hsa : a.small) (hsb : b.small) (key : List UInt8) :
    Calls Try.prog 34 #[va, .string (S key), vb] w fun e w' => ∃ v', e = .returned v' ∧ NdOwn w.heap.size w' v' (joined a key b) ∧ Below w.heap.size w w' := by
  obtain ⟨ka, ua, da, rfl, hka, hua, hda⟩ := ha.rows
  obtain ⟨kb, ub, db, rfl, hkb, hub, hdb⟩ := hb.rows
  obtain ⟨s1, s2, s3⟩ := hsa
  obtain ⟨r1, r2, r3⟩ := hsb
  obtain ⟨A, B, R, X, hA, hB, hR, HX1, hst, HLOW, c0, c1, c2, c3, d1, d2, d3, t0, t1, t2, t3, hf⟩ := three_facts w (.bool a.leaf) ka ua da (.bool b.leaf) kb ub db 25 25 25
  have HKA : Hid (∀ w1, Reg (((w.alloc A).alloc B).alloc R) X w1 → Row w1 ka (T9 a.keys)) := fun w1 hr => hka.later (unhide HLOW w1 hr)
  have HKB : Hid (∀ w1, Reg (((w.alloc A).alloc B).alloc R) X w1 → Row w1 kb (T9 b.keys)) := fun w1 hr => hkb.later (unhide HLOW w1 hr)
  have HUA : Hid (∀ w1, Reg (((w.alloc A).alloc B).alloc R) X w1 → Row w1 ua (T9 a.vals)) := fun w1 hr => hua.later (unhide HLOW w1 hr)
  have HUB : Hid (∀ w1, Reg (((w.alloc A).alloc B).alloc R) X w1 → Row w1 ub (T9 b.vals)) := fun w1 hr => hub.later (unhide HLOW w1 hr)
  have HDA : Hid (∀ w1, Reg (((w.alloc A).alloc B).alloc R) X w1 → Row w1 da (I9 a.kids)) := fun w1 hr => hda.later (unhide HLOW w1 hr)
  have HDB : Hid (∀ w1, Reg (((w.alloc A).alloc B).alloc R) X w1 → Row w1 db (I9 b.kids)) := fun w1 hr => hdb.later (unhide HLOW w1 hr)
  obtain ⟨kaa, kac, rfl, _⟩ := hka.shape
  obtain ⟨uaa, uac, rfl, _⟩ := hua.shape
  obtain ⟨daa, dac, rfl, _⟩ := hda.shape
  obtain ⟨kba, kbc, rfl, _⟩ := hkb.shape
  obtain ⟨uba, ubc, rfl, _⟩ := hub.shape
  obtain ⟨dba, dbc, rfl, _⟩ := hdb.shape
  unfold joined
  have hsl : w.heap.size + 1 + 1 < (((w.alloc A).alloc B).alloc R).heap.size := by simp
  have hle : w.heap.size ≤ (((w.alloc A).alloc B).alloc R).heap.size := by simp; omega
  clear ha hb hka hua hda hkb hub hdb
  cases hlf : a.leaf
  · rw [hlf] at c0 hA
    simp only [Bool.false_eq_true, if_false]
    obtain ⟨K, hK⟩ : ∃ K, a.keys ++ [key] ++ b.keys = K := ⟨_, rfl⟩
    obtain ⟨U, hU⟩ : ∃ U, a.kids ++ b.kids = U := ⟨_, rfl⟩
    have HC1 := hide (fun (w1 : World) (hr : Reg (((w.alloc A).alloc B).alloc R) X w1) (q q0 : Nat) hq (h0 : w1.heap[q0]? = some (.cells #[.string (S key)] 9 (0, 0))) => concat3 (b := q) hq (unhide HKA w1 hr) (Row.one h0) (unhide HKB w1 hr) (by simp; omega))
    have HC2 := hide (fun (w1 : World) (hr : Reg (((w.alloc A).alloc B).alloc R) X w1) (q : Nat) hq => iconcat2 (b := q) hq (unhide HDA w1 hr) (unhide HDB w1 hr) (by omega))
    rw [hK] at HC1 ⊢
    rw [hU] at HC2 ⊢
    clear HKA HKB HUA HUB HDA HDB hK hU hlf
    go_enter Try.func34, Try.ntmps34
    go_wp2_with fail
    rw [← hA, ← hB, ← hR]
    clear hA hB hR
    go_region_held3 (fun w' => Reg (((w.alloc A).alloc B).alloc R) X w') (with_reducible (first | exact hst | (refine Reg.below ?_ (by assumption) <;> assumption) | (refine Reg.alloc ?_ _; assumption) | (refine Reg.drew (Reg.alloc (Reg.undrew ?_) _); assumption) | (refine Reg.put (by assumption) _ (unhide HX1) _ _ _ _)))
      (first
        | (go_at_call 66; refine (unhide HC1 _ (by assumption) _ _ (by first | exact alloc_new' (by simp) | exact alloc_old' (by simp) (alloc_new' (by simp)) | exact alloc_old' (by simp) (alloc_old' (by simp) (alloc_new' (by simp)))) (by first | exact alloc_new' (by simp) | exact alloc_old' (by simp) (alloc_new' (by simp)) | exact alloc_old' (by simp) (alloc_old' (by simp) (alloc_new' (by simp))))).mono ?_; rintro e wk ⟨kv, rfl, hok, hbk⟩; obtain ⟨ea, ec, rfl, _⟩ := ownsRow_slice hok; have HOK := hide (ownsRow_less hok (Reg.size (by assumption))); clear hok)
        | (go_at_call 67; refine (unhide HC2 _ (by assumption) _ (by first | exact alloc_new' (by simp) | exact below_old' hbk (by simp) (alloc_new' (by simp)) | exact below_old' hbk (by simp) (alloc_old' (by simp) (alloc_new' (by simp))) | exact below_old' hbk (by simp) (alloc_old' (by simp) (alloc_old' (by simp) (alloc_new' (by simp)))))).mono ?_; rintro e wu ⟨uv, rfl, hou, hbu⟩; obtain ⟨fa, fc, rfl, _⟩ := ownsRow_slice hou; have HOU := hide (ownsRow_less hou (Reg.size (by assumption))); have hru := Reg.below (by assumption) hbu; clear hou)
        | fail)
    all_goals
      have hfin := unhide HLOW _ (by assumption)
      have hkw : Below wk.heap.size wk wu := by first | exact hbu | exact (below_box _).trans (hbu.mono (by simp))
      go_wp2_with fail
      obtain ⟨q0, q1, q2, q3⟩ := hru.put_cells (unhide HX1) (.bool false) (.slice ea K.length ec) (.slice none 0 0) (.slice fa U.length fc)
      have hr1 := ownsRow_less (ownsRow_put4 (ownsRow_below (unhide HOK) hkw) hsl (.bool false) (.slice ea K.length ec) (.slice none 0 0) (.slice fa U.length fc)) hle
      have hr2 := ownsRow_less (ownsRow_put4 (unhide HOU) hsl (.bool false) (.slice ea K.length ec) (.slice none 0 0) (.slice fa U.length fc)) hle
      unfold put4 at q0 q1 q2 q3 hr1 hr2
      exact bodyPost_ret (v := .agg #[(.bool false), (.slice ea K.length ec), (.slice none 0 0), (.slice fa U.length fc)]) (by simp [results, Try.results34, go_sem, q0, q1, q2, q3]) rfl ⟨_, rfl, ⟨_, _, _, rfl, hr1, World.ownsRow_nil _ _ _ _, hr2⟩, hfin⟩
  · rw [hlf] at c0 hA
    simp only [if_true]
    obtain ⟨K, hK⟩ : ∃ K, a.keys ++ b.keys = K := ⟨_, rfl⟩
    obtain ⟨U, hU⟩ : ∃ U, a.vals ++ b.vals = U := ⟨_, rfl⟩
    have HC1 := hide (fun (w1 : World) (hr : Reg (((w.alloc A).alloc B).alloc R) X w1) (q : Nat) hq => concat2 (b := q) hq (unhide HKA w1 hr) (unhide HKB w1 hr) (by omega))
    have HC2 := hide (fun (w1 : World) (hr : Reg (((w.alloc A).alloc B).alloc R) X w1) (q : Nat) hq => concat2 (b := q) hq (unhide HUA w1 hr) (unhide HUB w1 hr) (by omega))
    rw [hK] at HC1 ⊢
    rw [hU] at HC2 ⊢
    clear HKA HKB HUA HUB HDA HDB hK hU hlf
    go_enter Try.func34, Try.ntmps34
    go_wp2_with fail
    rw [← hA, ← hB, ← hR]
    clear hA hB hR
    go_region_held3 (fun w' => Reg (((w.alloc A).alloc B).alloc R) X w') (with_reducible (first | exact hst | (refine Reg.below ?_ (by assumption) <;> assumption) | (refine Reg.alloc ?_ _; assumption) | (refine Reg.drew (Reg.alloc (Reg.undrew ?_) _); assumption) | (refine Reg.put (by assumption) _ (unhide HX1) _ _ _ _)))
      (first
        | (go_at_call 66; refine (unhide HC1 _ (by assumption) _ (by first | exact alloc_new' (by simp) | exact alloc_old' (by simp) (alloc_new' (by simp)))).mono ?_; rintro e wk ⟨kv, rfl, hok, hbk⟩; obtain ⟨ea, ec, rfl, _⟩ := ownsRow_slice hok; have HOK := hide (ownsRow_less hok (Reg.size (by assumption))); clear hok)
        | (go_at_call 66; refine (unhide HC2 _ (by assumption) _ (by first | exact alloc_new' (by simp) | exact below_old' hbk (by simp) (alloc_new' (by simp)) | exact below_old' hbk (by simp) (alloc_old' (by simp) (alloc_new' (by simp))))).mono ?_; rintro e wu ⟨uv, rfl, hou, hbu⟩; obtain ⟨fa, fc, rfl, _⟩ := ownsRow_slice hou; have HOU := hide (ownsRow_less hou (Reg.size (by assumption))); have hru := Reg.below (by assumption) hbu; clear hou)
        | fail)
    all_goals
      have hfin := unhide HLOW _ (by assumption)
      have hkw : Below wk.heap.size wk wu := by first | exact hbu | exact (below_box _).trans (hbu.mono (by simp))
      go_wp2_with fail
      obtain ⟨q0, q1, q2, q3⟩ := hru.put_cells (unhide HX1) (.bool true) (.slice ea K.length ec) (.slice fa U.length fc) (.slice none 0 0)
      have hr1 := ownsRow_less (ownsRow_put4 (ownsRow_below (unhide HOK) hkw) hsl (.bool true) (.slice ea K.length ec) (.slice fa U.length fc) (.slice none 0 0)) hle
      have hr2 := ownsRow_less (ownsRow_put4 (unhide HOU) hsl (.bool true) (.slice ea K.length ec) (.slice fa U.length fc) (.slice none 0 0)) hle
      unfold put4 at q0 q1 q2 q3 hr1 hr2
      exact bodyPost_ret (v := .agg #[(.bool true), (.slice ea K.length ec), (.slice fa U.length fc), (.slice none 0 0)]) (by simp [results, Try.results34, go_sem, q0, q1, q2, q3]) rfl ⟨_, rfl, ⟨_, _, _, rfl, hr1, hr2, World.ownsRow_nil _ _ _ _⟩, hfin⟩
end Go.Proofs.Ytochaiinofhdhaa
