/- The contracts of a node's fit, whole, part, Split. -/
import Derived.Test.YtochaiinofhdhaaNRegion
namespace Go.Proofs.Ytochaiinofhdhaa
open Go.RowKit
set_option linter.unusedVariables false
set_option maxRecDepth 100000

def fitL (l : List (List UInt8)) (m : Nat) : List (List UInt8) := l.take m ++ List.replicate (m - l.length) []
theorem fitL_length (l : List (List UInt8)) (m : Nat) : (fitL l m).length = m := by simp [fitL]; omega
theorem fitL_self (l : List (List UInt8)) : fitL l l.length = l := by simp [fitL]
theorem fitL_splice (l : List (List UInt8)) (m : Nat) : splice (List.replicate m (Value.string ⟨#[]⟩)) 0 (T9 (l.take m)) = T9 (fitL l m) := by
  unfold splice fitL
  rw [T9_append]
  simp [T9]
  exact ⟨by omega, Or.inr rfl⟩
theorem info_string1 : (Try.prog.info? 9).map (·.size) = some 1 := by kernel_rfl

/- A copy into a row of the call's own, as a run's equation. -/
theorem run_copy_any {P : Program} (w : World) (dT sT ty elem : TypeId) (hu : P.underlying dT = some (.slice elem)) (hsz : (P.info? elem).map (·.size) = some 1) (g dLen dCap : Nat) (sp : Option Addr) (sLen sCap : Nat)
    (cur : List Value) (t : TypeId) (hg : w.heap[g]? = some (.cells cur.toArray t (0, 0))) (cs : List Value) (hn : cs.length = Nat.min sLen dLen)
    (hpos : 0 < cs.length → ∃ ad, sp = some ad ∧ ∀ j v, cs[j]? = some v → w.cell? (ad.add j) = some v) (hfit : cs.length ≤ cur.length) (h1 : ∀ v ∈ cs, v.oneCell' = true) (B : Nat) (w0 : World) (hb : Below B w0 w) (hBg : B ≤ g) :
    ∃ w', (Builtin.copy_ #[dT, sT] ty #[.slice (some ⟨g, 0, none⟩) dLen dCap, .slice sp sLen sCap]).run P w = .ok (goInt cs.length) w' ∧ w'.heap[g]? = some (.cells (splice cur 0 cs).toArray t (0, 0)) ∧ Below B w0 w' := by
  by_cases h0 : cs.length = 0
  · obtain rfl : cs = [] := List.eq_nil_of_length_eq_zero h0
    exact ⟨w, run_copy_none (P := P) w dT sT ty elem _ sp dLen dCap sLen sCap hu hsz (by simpa using hn.symm), by simpa [splice] using hg, hb⟩
  · obtain ⟨ad, rfl, hsrc⟩ := hpos (by omega)
    refine ⟨_, run_copy_row (P := P) w dT sT ty elem g 0 dLen dCap ad sLen sCap cur.toArray t cs hu hsz hg hn hsrc (by simpa using hfit) h1, ?_, below_setRow hb hBg _⟩
    simpa [splice] using setRow_heap w g _ _ t _ hg

set_option maxHeartbeats 1600000 in
theorem fit_any {w : World} {v : Value} {l : List (List UInt8)} (h : Row w v (T9 l)) (m : Int) (h1 : -1000 ≤ m) (h2 : m ≤ 1000000) :
    Calls Try.prog 44 #[v, .int .i64 m] w fun e w' => ∃ v', e = .returned v' ∧ w'.ownsRow w.heap.size 9 1 v' m.toNat (T9 (fitL l m.toNat)) ∧ Below w.heap.size w w' := by
  obtain ⟨a, c, rfl, hlc, hcm, h0, hrow⟩ := h
  rw [T9_length] at hlc ⊢
  obtain ⟨M, hM⟩ : ∃ M : Nat, M = m.toNat := ⟨_, rfl⟩
  have hmx : max m 0 = (M : Int) := by omega
  have hM2 : M ≤ 1000000 := by omega
  rw [← hM]
  obtain ⟨i0, hi, hz0, hz1, hz2⟩ := info_parts info_string
  obtain ⟨w1, hmk, hown1, hgr1⟩ := run_make_full (P := Try.prog) w w.heap.size 22 9 i0 (.string ⟨#[]⟩) 1 under_strings hi hz0 hz1 .i64 .i64 M (by rw [hz2]; omega) (by unfold maxLen; omega) (Nat.le_refl _)
  have hb1 : Below w.heap.size w w1 := (Below.refl _ _).grown hgr1 (Nat.le_refl _) (fun k e => by cases e)
  have hblk : w1.heap[w.heap.size]? = some (.cells (List.replicate M (Value.string ⟨#[]⟩)).toArray 9 (0, 0)) := by
    have e : (madeCells (Value.string ⟨#[]⟩).cells (M * 1)).toList = List.replicate M (.string ⟨#[]⟩) := by
      rw [Nat.mul_one]; exact toList_madeCells_one _ M
    rw [e] at hown1
    rcases hown1.2 with ⟨e1, e2⟩ | ⟨g, cap, cur, e1, hb, hh, hc, hm, hcs, ht⟩
    · cases e1
    · cases e1
      rw [hh, ← ht, List.take_of_length_le (by simp [hcs])]
  have hsrc : 0 < (T9 (l.take M)).length → ∃ ad, a = some ad ∧ ∀ j v, (T9 (l.take M))[j]? = some v → w1.cell? (ad.add j) = some v := by
    intro hp
    rw [T9_length, List.length_take] at hp
    obtain ⟨b, off, ea, hlt, _⟩ := hrow 0 _ (List.getElem?_eq_getElem (by rw [T9_length]; omega))
    refine ⟨_, ea, fun j u hu => ?_⟩
    have hu2 : (T9 l)[j]? = some u := by
      have e : T9 (l.take M) = (T9 l).take M := by simp [T9, List.map_take]
      rw [e, List.getElem?_take] at hu
      split at hu
      · exact hu
      · cases hu
    obtain ⟨b', off', ea', _, hc⟩ := hrow j u hu2
    rw [ea] at ea'
    cases ea'
    rw [plain_add, hb1.cell (p := ⟨b, off + j, none⟩) hlt]
    exact hc
  have hlen : (T9 (l.take M)).length = Nat.min l.length M := by rw [T9_length, List.length_take]; show min M l.length = min l.length M; omega
  obtain ⟨w2, hcp, hblk2, hb2⟩ := run_copy_any (P := Try.prog) w1 22 22 3 9 under_strings info_string1 w.heap.size M M a l.length c (List.replicate M (Value.string ⟨#[]⟩)) 9 hblk (T9 (l.take M)) hlen hsrc (by rw [T9_length, List.length_take, List.length_replicate]; omega) (T9_one _) w.heap.size w hb1 (Nat.le_refl _)
  rw [fitL_splice] at hblk2
  have HG := hide hblk2
  have HB2 := hide hb2
  have HFL := hide (fitL_length l M)
  obtain ⟨N, hN⟩ : ∃ N, w.heap.size = N := ⟨_, rfl⟩
  rw [hN] at hmk hcp HG HB2 ⊢
  clear hrow hsrc hblk hb1 hown1 hgr1 h0 hM hN hlen hblk2 hb2
  generalize (T9 (l.take M)).length = cl at *
  go_enter Try.func44, Try.ntmps44
  go_wp2_with fail
  go_ret
  refine ⟨_, rfl, ⟨by rw [T9_length, unhide HFL, Nat.mul_one], Or.inr ⟨N, M, _, rfl, Nat.le_refl _, unhide HG, Nat.le_refl _, by unfold maxLen; omega, ?_, ?_⟩⟩, unhide HB2⟩
  · simp [T9_length, unhide HFL]
  · simp
    rw [List.take_of_length_le (by rw [T9_length, unhide HFL]; exact Nat.le_refl _)]

/- A node of rows of the call's own. -/
structure NdOwn (base : Nat) (w : World) (v : Value) (n : Nd) : Prop where
  rows : ∃ k u d, v = .agg #[.bool n.leaf, k, u, d] ∧ w.ownsRow base 9 1 k n.keys.length (T9 n.keys) ∧ w.ownsRow base 9 1 u n.vals.length (T9 n.vals) ∧ w.ownsRow base 3 1 d n.kids.length (I9 n.kids)
theorem NdOwn.at {base : Nat} {w : World} {v : Value} {n : Nd} (h : NdOwn base w v n) : NdAt w v n := by
  obtain ⟨k, u, d, e, h1, h2, h3⟩ := h.rows
  exact ⟨k, u, d, e, Row.of_own h1, Row.of_own h2, Row.of_own h3⟩

def Nd.whole (n : Nd) : Nd := if n.leaf then ⟨true, n.keys, fitL n.vals n.keys.length, []⟩ else ⟨false, fitL n.keys (n.kids.length - 1), [], n.kids⟩
def Nd.small (n : Nd) : Prop := n.keys.length ≤ 1000 ∧ n.vals.length ≤ 1000 ∧ n.kids.length ≤ 1000


set_option maxHeartbeats 6400000 in
theorem whole_any {w : World} {v : Value} {n : Nd} (h : NdAt w v n) (hs : n.small) :
    Calls Try.prog 60 #[v] w fun e w' => ∃ v', e = .returned v' ∧ NdOwn w.heap.size w' v' n.whole ∧ Below w.heap.size w w' := by
  obtain ⟨k, u, d, rfl, h1, h2, h3⟩ := h.rows
  obtain ⟨hs1, hs2, hs3⟩ := hs
  obtain ⟨lf, ks, vs, ds⟩ := n
  dsimp only at h1 h2 h3 hs1 hs2 hs3 h ⊢
  cases lf
  · obtain ⟨B, R, X, hB, hR, HX1, hst, HLOW, hc0, hc1, hc2, hc3, t0, t1, t2, t3, hf⟩ := box_facts w (.bool false) k u d 25 25
    have HN : Hid (∀ w1, Reg ((w.alloc B).alloc R) X w1 → NdAt w1 (.agg #[.bool false, k, u, d]) ⟨false, ks, vs, ds⟩) := fun w1 hr => h.later (unhide HLOW w1 hr)
    have HK : Hid (∀ w1, Reg ((w.alloc B).alloc R) X w1 → Row w1 k (T9 ks)) := fun w1 hr => h1.later (unhide HLOW w1 hr)
    have HU : Hid (∀ w1, Reg ((w.alloc B).alloc R) X w1 → Row w1 d (I9 ds)) := fun w1 hr => h3.later (unhide HLOW w1 hr)
    have hw1 : IntKind.i64.wrap (((ds.length : Nat) : Int) - 1) = ((ds.length : Nat) : Int) - 1 := by rw [IntKind.wrap_i64]; omega
    have h16 : ((ds.length : Nat) : Int) - 1 ≤ 1000000 := by omega
    have h17 : (-1000 : Int) ≤ ((ds.length : Nat) : Int) - 1 := by omega
    have HTN := hide (show (((ds.length : Nat) : Int) - 1).toNat = ds.length - 1 by omega)
    have hlen : (Nd.len ⟨false, ks, vs, ds⟩) = ds.length := rfl
    clear h h1 h2 h3
    go_enter Try.func60, Try.ntmps60
    go_wp2_with fail
    rw [← hB, ← hR]
    clear hB hR
    go_region_held3 (fun w' => Reg ((w.alloc B).alloc R) X w') (first | exact hst | (refine Reg.below ?_ (by assumption) <;> assumption) | (refine Reg.put (by assumption) _ (unhide HX1) _ _ _ _))
      (first
        | (go_at_call 79; refine (iclone_any (unhide HU _ (by assumption)) (by omega)).mono ?_; rintro e wk ⟨kv, rfl, hok, hbk⟩; obtain ⟨ka, kc, rfl, _⟩ := ownsRow_slice hok; have HOK := hide (ownsRow_less hok (Reg.size (by assumption))); have HRK := hide (Reg.below (by assumption) hbk); clear hok)
        | (go_at_call 16; refine (nlen_any (unhide HN _ (by assumption))).mono ?_; rintro e wl ⟨rfl, hbl⟩)
        | (go_at_call 44; refine (fit_any (unhide HK _ (by assumption)) _ h17 h16).mono ?_; rintro e wf ⟨uv, rfl, hou, hbu⟩; rw [unhide HTN] at hou; obtain ⟨ua, uc, rfl, _⟩ := ownsRow_slice hou; have HOU := hide (ownsRow_less hou (Reg.size (by assumption))); clear hou)
        | fail)
    all_goals
      have hfin := unhide HLOW _ (by assumption)
      go_wp2_with fail
      obtain ⟨q0, q1, q2, q3⟩ := (unhide HRK).put_cells (unhide HX1) (.bool false) (.slice ua (ds.length - 1) uc) (.slice none 0 0) (.slice ka ds.length kc)
      have hlt : w.heap.size + 1 < ((w.alloc B).alloc R).heap.size := by simp
      have hle : w.heap.size ≤ ((w.alloc B).alloc R).heap.size := by simp; omega
      have hr1 := ownsRow_less (ownsRow_put4 (unhide HOK) hlt (.bool false) (.slice ua (ds.length - 1) uc) (.slice none 0 0) (.slice ka ds.length kc)) hle
      have hr2 := ownsRow_less (ownsRow_put4 (ownsRow_below (unhide HOU) hbk) hlt (.bool false) (.slice ua (ds.length - 1) uc) (.slice none 0 0) (.slice ka ds.length kc)) hle
      unfold put4 at q0 q1 q2 q3 hr1 hr2
      refine bodyPost_ret (v := .agg #[.bool false, .slice ua (ds.length - 1) uc, .slice none 0 0, .slice ka ds.length kc]) (by simp [results, Try.results60, go_sem, q0, q1, q2, q3]) rfl ⟨_, rfl, ⟨_, _, _, rfl, ?_, World.ownsRow_nil _ _ _ _, hr1⟩, hfin⟩
      show World.ownsRow _ _ _ _ _ (fitL ks (ds.length - 1)).length (T9 (fitL ks (ds.length - 1)))
      rw [fitL_length]
      exact hr2
  · obtain ⟨B, R, X, hB, hR, HX1, hst, HLOW, hc0, hc1, hc2, hc3, t0, t1, t2, t3, hf⟩ := box_facts w (.bool true) k u d 25 25
    have HN : Hid (∀ w1, Reg ((w.alloc B).alloc R) X w1 → NdAt w1 (.agg #[.bool true, k, u, d]) ⟨true, ks, vs, ds⟩) := fun w1 hr => h.later (unhide HLOW w1 hr)
    have HK : Hid (∀ w1, Reg ((w.alloc B).alloc R) X w1 → Row w1 k (T9 ks)) := fun w1 hr => h1.later (unhide HLOW w1 hr)
    have HU : Hid (∀ w1, Reg ((w.alloc B).alloc R) X w1 → Row w1 u (T9 vs)) := fun w1 hr => h2.later (unhide HLOW w1 hr)
    have h16 : ((ks.length : Nat) : Int) ≤ 1000000 := by omega
    have h17 : (-1000 : Int) ≤ ((ks.length : Nat) : Int) := by omega
    have hlen : (Nd.len ⟨true, ks, vs, ds⟩) = ks.length := rfl
    clear h h1 h2 h3
    go_enter Try.func60, Try.ntmps60
    go_wp2_with fail
    rw [← hB, ← hR]
    clear hB hR
    go_region_held3 (fun w' => Reg ((w.alloc B).alloc R) X w') (first | exact hst | (refine Reg.below ?_ (by assumption) <;> assumption) | (refine Reg.put (by assumption) _ (unhide HX1) _ _ _ _))
      (first
        | (go_at_call 25; refine (sclone_any (unhide HK _ (by assumption)) (by omega)).mono ?_; rintro e wk ⟨kv, rfl, hok, hbk⟩; obtain ⟨ka, kc, rfl, _⟩ := ownsRow_slice hok; have HOK := hide (ownsRow_less hok (Reg.size (by assumption))); clear hok)
        | (go_at_call 16; refine (nlen_any (unhide HN _ (by assumption))).mono ?_; rintro e wl ⟨rfl, hbl⟩)
        | (go_at_call 44; refine (fit_any (unhide HU _ (by assumption)) _ h17 h16).mono ?_; rintro e wf ⟨uv, rfl, hou, hbu⟩; rw [Int.toNat_natCast] at hou; obtain ⟨ua, uc, rfl, _⟩ := ownsRow_slice hou; have HOU := hide (ownsRow_less hou (Reg.size (by assumption))); have HRU := hide (Reg.below (by assumption) hbu); clear hou)
        | fail)
    all_goals
      have hfin := unhide HLOW _ (by assumption)
      go_wp2_with fail
      obtain ⟨q0, q1, q2, q3⟩ := (unhide HRU).put_cells (unhide HX1) (.bool true) (.slice ka ks.length kc) (.slice ua ks.length uc) (.slice none 0 0)
      have hlt : w.heap.size + 1 < ((w.alloc B).alloc R).heap.size := by simp
      have hle : w.heap.size ≤ ((w.alloc B).alloc R).heap.size := by simp; omega
      have hr1 := ownsRow_less (ownsRow_put4 (ownsRow_below (ownsRow_below (unhide HOK) hbl) hbu) hlt (.bool true) (.slice ka ks.length kc) (.slice ua ks.length uc) (.slice none 0 0)) hle
      have hr2 := ownsRow_less (ownsRow_put4 (unhide HOU) hlt (.bool true) (.slice ka ks.length kc) (.slice ua ks.length uc) (.slice none 0 0)) hle
      unfold put4 at q0 q1 q2 q3 hr1 hr2
      refine bodyPost_ret (v := .agg #[.bool true, .slice ka ks.length kc, .slice ua ks.length uc, .slice none 0 0]) (by simp [results, Try.results60, go_sem, q0, q1, q2, q3]) rfl ⟨_, rfl, ⟨_, _, _, rfl, hr1, ?_, World.ownsRow_nil _ _ _ _⟩, hfin⟩
      show World.ownsRow _ _ _ _ _ (fitL vs ks.length).length (T9 (fitL vs ks.length))
      rw [fitL_length]
      exact hr2
end Go.Proofs.Ytochaiinofhdhaa
