/- The walk of NodeSplits. -/
import Derived.Test.YtochaiinofhdhaaNSame
import Derived.Test.YtochaiinofhdhaaNLeaf
namespace Go.Proofs.Ytochaiinofhdhaa
open Go.RowKit
set_option linter.unusedVariables false
set_option maxRecDepth 100000

theorem leafOf_fine (l vs : List (List UInt8)) (n : Nat) (hn : n ≤ 60) : (leafOf l vs n).fine ∧ Codec.Rise (leafOf l vs n).keys := by
  have h1 := Codec.sorts_length (few l n 24)
  rw [few_length] at h1
  have h2 := valsOf_length vs (Codec.sorts (few l n 24)).length
  refine ⟨⟨⟨?_, ?_, ?_⟩, ?_⟩, Codec.sorts_rise _⟩
  · show (Codec.sorts (few l n 24)).length ≤ 1000; omega
  · show (valsOf vs (Codec.sorts (few l n 24)).length).length ≤ 1000; omega
  · show 0 ≤ 1000; omega
  · exact ⟨h2, rfl⟩
theorem innerOf_fine (l : List (List UInt8)) (ds : List Int) (n : Nat) (hn : n ≤ 60) : (innerOf l ds n).fine ∧ Codec.Rise (innerOf l ds n).keys := by
  have h1 := Codec.sorts_length (few l (n - 1) 24)
  rw [few_length] at h1
  have h2 := kidsOf_length ds ((Codec.sorts (few l (n - 1) 24)).length + 1)
  refine ⟨⟨⟨?_, ?_, ?_⟩, ?_⟩, Codec.sorts_rise _⟩
  · show (Codec.sorts (few l (n - 1) 24)).length ≤ 1000; omega
  · show 0 ≤ 1000; omega
  · show (kidsOf ds ((Codec.sorts (few l (n - 1) 24)).length + 1)).length ≤ 1000; omega
  · refine ⟨?_, rfl⟩
    show (Codec.sorts (few l (n - 1) 24)).length = (kidsOf ds ((Codec.sorts (few l (n - 1) 24)).length + 1)).length - 1
    omega

/- What a Split's halves are. -/
theorem split_leaf (n : Nd) (hf : n.fine) (hr : Codec.Rise n.keys) (hlf : n.leaf = true) (hl : 2 ≤ n.len) : joined (n.part 0 n.half) n.key (n.part n.half n.len) = n ∧ (n.part 0 n.half).leaf = true ∧ (n.part n.half n.len).leaf = true ∧
    (n.part 0 n.half).keys.length = n.half ∧ (n.part n.half n.len).keys.length = n.len - n.half ∧ (n.part n.half n.len).keys.getD 0 [] = n.key ∧ Codec.lt ((n.part 0 n.half).keys.getD (n.half - 1) []) n.key = true := by
  obtain ⟨lf, ks, vs, ds⟩ := n
  dsimp only at hlf hr
  subst hlf
  have hf2 := hf.2
  simp only [if_true] at hf2
  obtain ⟨hv, rfl⟩ := hf2
  have hL : Nd.len ⟨true, ks, vs, []⟩ = ks.length := rfl
  have hH : Nd.half ⟨true, ks, vs, []⟩ = (ks.length + 1) / 2 := rfl
  rw [hL] at hl ⊢
  have hK : Nd.key ⟨true, ks, vs, []⟩ = ks.getD ((ks.length + 1) / 2) [] := rfl
  rw [hH, hK]
  obtain ⟨H, hHH⟩ : ∃ H, (ks.length + 1) / 2 = H := ⟨_, rfl⟩
  rw [hHH]
  have h1 : H < ks.length := by omega
  have h2 : 0 < H := by omega
  have eA : Nd.part ⟨true, ks, vs, []⟩ 0 H = ⟨true, ks.take H, vs.take H, []⟩ := by simp [Nd.part]
  have eC : Nd.part ⟨true, ks, vs, []⟩ H ks.length = ⟨true, ks.drop H, vs.drop H, []⟩ := by
    simp only [Nd.part, if_true]
    rw [List.take_of_length_le (Nat.le_refl _), List.take_of_length_le (by omega)]
  rw [eA, eC]
  refine ⟨?_, rfl, rfl, by simp; omega, by simp, ?_, ?_⟩
  · simp [joined]
  · simp [List.getD, List.getElem?_drop]
  · have h3 := List.pairwise_iff_getElem.1 hr (H - 1) H (by omega) h1 (by omega)
    simp only [List.getD, List.getElem?_take, show H - 1 < H by omega, if_true]
    rw [List.getElem?_eq_getElem (by omega), List.getElem?_eq_getElem h1]
    exact h3
theorem split_inner (n : Nd) (hf : n.fine) (hr : Codec.Rise n.keys) (hlf : n.leaf = false) (hl : 4 ≤ n.len) : joined (n.part 0 n.half) n.key (n.part n.half n.len) = n ∧ (n.part 0 n.half).leaf = false ∧ (n.part n.half n.len).leaf = false ∧
    (n.part 0 n.half).kids.length = n.half ∧ (n.part n.half n.len).kids.length = n.len - n.half ∧ (n.part 0 n.half).keys.length = n.half - 1 ∧ 0 < (n.part n.half n.len).keys.length ∧ Codec.lt n.key ((n.part n.half n.len).keys.getD 0 []) = true ∧ Codec.lt ((n.part 0 n.half).keys.getD (n.half - 1 - 1) []) n.key = true := by
  obtain ⟨lf, ks, vs, ds⟩ := n
  dsimp only at hlf hr
  subst hlf
  have hf2 := hf.2
  simp only [Bool.false_eq_true, if_false] at hf2
  obtain ⟨hv, rfl⟩ := hf2
  have hL : Nd.len ⟨false, ks, [], ds⟩ = ds.length := rfl
  have hH : Nd.half ⟨false, ks, [], ds⟩ = (ds.length + 1) / 2 := rfl
  rw [hL] at hl ⊢
  have hK : Nd.key ⟨false, ks, [], ds⟩ = ks.getD ((ds.length + 1) / 2 - 1) [] := rfl
  rw [hH, hK]
  obtain ⟨H, hHH⟩ : ∃ H, (ds.length + 1) / 2 = H := ⟨_, rfl⟩
  rw [hHH]
  have h1 : H - 1 < ks.length := by omega
  have h2 : 2 ≤ H := by omega
  have eA : Nd.part ⟨false, ks, [], ds⟩ 0 H = ⟨false, ks.take (H - 1), [], ds.take H⟩ := by simp [Nd.part]
  have eC : Nd.part ⟨false, ks, [], ds⟩ H ds.length = ⟨false, ks.drop H, [], ds.drop H⟩ := by
    simp only [Nd.part, Bool.false_eq_true, if_false]
    rw [List.take_of_length_le (by omega), List.take_of_length_le (Nat.le_refl _)]
  rw [eA, eC]
  have hg : ks.getD (H - 1) [] = ks[H - 1]'h1 := by simp [List.getD, h1]
  refine ⟨?_, rfl, rfl, by simp; omega, by simp, by simp; omega, by simp; omega, ?_, ?_⟩
  · rw [hg]
    have e1 : ks.take (H - 1) ++ [ks[H - 1]'h1] ++ ks.drop H = ks := by
      have e := List.take_succ_eq_append_getElem h1
      rw [show H - 1 + 1 = H by omega] at e
      rw [← e, List.take_append_drop]
    simp only [joined, Bool.false_eq_true, if_false, e1, List.take_append_drop]
  · rw [hg]
    have h3 := List.pairwise_iff_getElem.1 hr (H - 1) H h1 (by omega) (by omega)
    simp only [List.getD, List.getElem?_drop, Nat.add_zero]
    rw [List.getElem?_eq_getElem (by omega)]
    exact h3
  · rw [hg]
    have h3 := List.pairwise_iff_getElem.1 hr (H - 1 - 1) (H - 1) (by omega) h1 (by omega)
    simp only [List.getD, List.getElem?_take, show H - 1 - 1 < H - 1 by omega, if_true]
    rw [List.getElem?_eq_getElem (by omega)]
    exact h3

theorem Nd.part_small (n : Nd) (h : n.small) (i j : Nat) : (n.part i j).small := by
  obtain ⟨h1, h2, h3⟩ := h
  unfold Nd.part
  split
  · refine ⟨?_, ?_, by simp⟩
    · simp; omega
    · simp; omega
  · refine ⟨?_, by simp, ?_⟩
    · simp; omega
    · simp; omega
theorem NdOwn.keysAt {base : Nat} {w : World} {b : Bool} {ka : Option Addr} {kc : Nat} {u d : Value} {n : Nd} (h : NdOwn base w (.agg #[.bool b, .slice ka n.keys.length kc, u, d]) n) (hp : 0 < n.keys.length) : ∃ g, ka = some ⟨g, 0, none⟩ ∧ g < w.heap.size ∧ ∀ j, j < n.keys.length → w.cell? ⟨g, j, none⟩ = some (.string (S (n.keys.getD j []))) := by
  obtain ⟨k, u', d', e, h1, _, _⟩ := h.rows
  injection e with e
  injection e with e
  simp only [List.cons.injEq] at e
  obtain ⟨_, rfl, _⟩ := e
  obtain ⟨a, c, e2, hg⟩ := ownsRow_slice h1
  injection e2 with e2 _ e3
  subst e2 e3
  obtain ⟨g, rfl⟩ := hg (by omega)
  refine ⟨g, rfl, (h1.lt g rfl).2, fun j hj => ?_⟩
  rw [h1.cellAt j (by omega)]
  simp [T9, List.getD, hj]
theorem reg_boxes {M : Nat} {w5 : World} {n0 n1 n2 n3 a0 a1 a2 a3 b0 b1 b2 b3 : Value} {t s u : TypeId} (hM : w5.heap[M]? = some (.cells #[n0, n1, n2, n3] t (0, 0))) (wx : World)
    (hx : Reg ((w5.alloc (.cells #[a0, a1, a2, a3] s)).alloc (.cells #[b0, b1, b2, b3] u)) (fun _ => False) wx) :
    (wx.cell? ⟨M, 0, none⟩ = some n0 ∧ wx.cell? ⟨M, 1, none⟩ = some n1 ∧ wx.cell? ⟨M, 2, none⟩ = some n2 ∧ wx.cell? ⟨M, 3, none⟩ = some n3) ∧
    (wx.cell? ⟨w5.heap.size, 0, none⟩ = some a0 ∧ wx.cell? ⟨w5.heap.size, 1, none⟩ = some a1 ∧ wx.cell? ⟨w5.heap.size, 2, none⟩ = some a2 ∧ wx.cell? ⟨w5.heap.size, 3, none⟩ = some a3) ∧
    (wx.cell? ⟨w5.heap.size + 1, 0, none⟩ = some b0 ∧ wx.cell? ⟨w5.heap.size + 1, 1, none⟩ = some b1 ∧ wx.cell? ⟨w5.heap.size + 1, 2, none⟩ = some b2 ∧ wx.cell? ⟨w5.heap.size + 1, 3, none⟩ = some b3) ∧ Below w5.heap.size w5 wx := by
  have hlt := block_lt hM
  have hk : ∀ k, k < w5.heap.size + 1 + 1 → wx.heap[k]? = ((w5.alloc (.cells #[a0, a1, a2, a3] s)).alloc (.cells #[b0, b1, b2, b3] u)).heap[k]? := fun k h => hx.keep k (by simpa using h) (fun h => h)
  refine ⟨cells4 ((hk M (by omega)).trans ((Below.heap_alloc _ _ _ (by simp; omega)).trans ((Below.heap_alloc _ _ _ hlt).trans hM))), cells4 ((hk w5.heap.size (by omega)).trans ((Below.heap_alloc _ _ _ (by simp)).trans (heap_alloc_new w5 _))), cells4 ((hk (w5.heap.size + 1) (by omega)).trans (alloc_new' (by simp))), ?_⟩
  exact ⟨hx.os, hx.tape, hx.output, by have := hx.size; simp at this; omega, fun k h => (hk k (by omega)).trans ((Below.heap_alloc _ _ _ (by simp; omega)).trans (Below.heap_alloc _ _ _ h))⟩

set_option maxHeartbeats 25600000 in
theorem nodeSplits_walk (a : Option Addr) (len cap : Nat) (zs : List ByteArray) (w : World) (h : IsStrs w a len cap zs) (a1 : Option Addr) (len1 cap1 : Nat) (zs1 : List ByteArray) (h1 : IsStrs w a1 len1 cap1 zs1) (a2 : Option Addr) (len2 cap2 : Nat) (zs2 : List Int) (h2 : IsInts w a2 len2 cap2 zs2) (lf : Bool) :
    Calls Try.prog 7 #[.slice a len cap, .slice a1 len1 cap1, .slice a2 len2 cap2, .bool lf] w fun e w' => e = .returned (.bool true) ∧ Below w.heap.size w w' := by
  obtain ⟨l, hll, hlm, hlz, hrow⟩ := h.row
  obtain ⟨vs, hvl, hvm, hvz, hvrow⟩ := h1.row
  obtain ⟨ds, hdl, hdw, hdrow⟩ := h2.row
  have HAW := hide (awake_node w)
  have HLE := hide (fun (w1 : World) (hb : Below w.heap.size w w1) => leaf_any l vs 9 a len cap (.slice a1 len1 cap1) w1 hll hlm hlz (hrow.later hb).words (hvrow.later hb) hvz (by decide))
  have HIN := hide (fun (w1 : World) (hb : Below w.heap.size w w1) => inner_any l ds 12 a len cap (.slice a2 len2 cap2) w1 hll hlm hlz (hrow.later hb).words (hdrow.later hb) (by decide) (by decide))
  have e9 : ((9 : Nat) : Int) = 9 := rfl
  have e12 : ((12 : Nat) : Int) = 12 := rfl
  rw [e9] at HLE
  rw [e12] at HIN
  obtain ⟨fl1, fl2⟩ := leafOf_fine l vs 9 (by decide)
  obtain ⟨fi1, fi2⟩ := innerOf_fine l ds 12 (by decide)
  have hlfL : (leafOf l vs 9).leaf = true := rfl
  have hlfI : (innerOf l ds 12).leaf = false := rfl
  generalize leafOf l vs 9 = nl at *
  generalize innerOf l ds 12 = ni at *
  clear hll hlm hlz hrow h hvl hvm hvz hvrow h1 hdl hdw hdrow h2 e9 e12
  cases lf
  · go_enter Try.func7, Try.ntmps7
    go_wp2_with fail
    refine (unhide HAW).mono ?_
    rintro e w1 ⟨rfl, hb1⟩
    go_wp2_with fail
    refine (unhide HLE w1 hb1).mono ?_
    rintro e w2 ⟨v2, rfl, ho2, hb2⟩
    obtain ⟨lka, lkc, lua, luc, lda, ldc, rfl⟩ := ho2.shape
    rw [hlfL] at ho2
    have hs1 := hb1.size
    have hs2 := hb2.size
    have HLOW2 := hide (hb1.trans (hb2.mono hs1))
    clear ho2
    go_wp2_with fail
    refine (unhide HIN _ ((unhide HLOW2).alloc (unhide HLOW2).size _)).mono ?_
    rintro e w3 ⟨v3, rfl, ho3, hb3⟩
    obtain ⟨nka, nkc, nua, nuc, nda, ndc, rfl⟩ := ho3.shape
    rw [World.size_alloc] at ho3 hb3
    rw [hlfI] at ho3
    have hs3 := hb3.size
    rw [World.size_alloc] at hs3
    have hM3 : w3.heap[w2.heap.size]? = some (.cells #[.bool true, .slice lka nl.keys.length lkc, .slice lua nl.vals.length luc, .slice lda nl.kids.length ldc] 25 (0, 0)) := (hb3.block w2.heap.size (by omega)).trans (heap_alloc_new w2 _)
    obtain ⟨m0, m1, m2, m3⟩ := cells4 hM3
    have mf : ∀ j, w3.frozen? ⟨w2.heap.size, j, none⟩ = false := fun j => block_frozen hM3 j
    have hl23 : Below w2.heap.size w2 (put4 w3 w2.heap.size (.bool false) (.slice nka ni.keys.length nkc) (.slice nua ni.vals.length nuc) (.slice nda ni.kids.length ndc)) :=
      ((((((below_box _).trans (hb3.mono (by omega))).setCell (p := ⟨w2.heap.size, 0, none⟩) (Nat.le_refl _) _).setCell (p := ⟨w2.heap.size, 1, none⟩) (Nat.le_refl _) _).setCell (p := ⟨w2.heap.size, 2, none⟩) (Nat.le_refl _) _).setCell (p := ⟨w2.heap.size, 3, none⟩) (Nat.le_refl _) _)
    have hM3' := put4_same (a' := .bool false) (b' := .slice nka ni.keys.length nkc) (c' := .slice nua ni.vals.length nuc) (d' := .slice nda ni.kids.length ndc) hM3
    have ho3' := ho3.put4 (N := w2.heap.size) (by omega) (.bool false) (.slice nka ni.keys.length nkc) (.slice nua ni.vals.length nuc) (.slice nda ni.kids.length ndc)
    unfold Go.Proofs.Ytochaiinofhdhaa.put4 at hl23 hM3' ho3'
    have HL23 := hide hl23
    have HM3 := hide hM3'
    have HO3 := hide ho3'
    clear hl23 hM3' ho3' ho3 hb3 hM3 hb1 hb2 HAW HLE HIN fl1 fl2 hlfL
    go_wp2_with fail
    refine (nlen_any (unhide HO3).at).mono ?_
    rintro e w4 ⟨rfl, hb4⟩
    have hsc := (unhide HL23).size
    have hM := (hb4.block w2.heap.size (block_lt (unhide HM3))).trans (unhide HM3)
    have hlow4 : Below w.heap.size w w4 := (unhide HLOW2).trans (((unhide HL23).trans (hb4.mono hsc)).mono (by have := (unhide HLOW2).size; omega))
    have ho4 := ((unhide HO3).later hb4).less (show w1.heap.size ≤ w2.heap.size + 1 by omega)
    clear hb4 HO3 HM3 HL23 m0 m1 m2 m3 mf hsc
    obtain ⟨n, hn⟩ : ∃ n, ni = n := ⟨_, rfl⟩
    rw [hn] at hM ho4 hlfI fi1 fi2 ⊢
    clear hn ni
    have hf := fi1
    have hr := fi2
    have hlf := hlfI
    clear fi1 fi2 hlfI
    by_cases hsh : n.len < 4
    · have d2 : ((n.len : Nat) : Int) < 4 := by omega
      go_wp2_with fail
      go_ret
      exact ⟨rfl, hlow4⟩
    have d2 : ¬ ((n.len : Nat) : Int) < 4 := by omega
    obtain ⟨j1, j2, j3, j4, j5, j8, j9, j6, j7⟩ := split_inner n hf hr hlf (by omega)
    obtain ⟨p0, p1, p2, p3⟩ := cells4 hM
    have HSP := hide (split_any ho4.at hf (by omega))
    obtain ⟨H, hH⟩ : ∃ H, n.half = H := ⟨_, rfl⟩
    have hH2 : H = (n.len + 1) / 2 := hH.symm
    obtain ⟨A, hA⟩ : ∃ A, n.part 0 H = A := ⟨_, rfl⟩
    obtain ⟨C, hC⟩ : ∃ C, n.part H n.len = C := ⟨_, rfl⟩
    obtain ⟨x, hx⟩ : ∃ x, n.key = x := ⟨_, rfl⟩
    rw [hH, hA, hC, hx] at HSP j1
    rw [hH] at j2 j3
    rw [hA] at j2
    rw [hC] at j3
    simp only [hH, hA, hC, hx] at j4 j5 j6 j7 j8 j9
    have hsA : A.small := by rw [← hA]; exact n.part_small hf.1 _ _
    have hsC : C.small := by rw [← hC]; exact n.part_small hf.1 _ _
    have hlb : n.len ≤ 1000 := by
      obtain ⟨q1, q2, q3⟩ := hf.1
      unfold Nd.len
      split <;> omega
    have HO4 := hide ho4
    have HM := hide hM
    have HLOW4 := hide hlow4
    clear hM ho4 hA hC hx hH hlow4
    go_wp2_with fail
    refine (unhide HSP).mono ?_
    rintro e w5 ⟨va, vb, rfl, hoa, hob, hb5⟩
    obtain ⟨aka, akc, aua, auc, ada, adc, rfl⟩ := hoa.shape
    obtain ⟨bka, bkc, bua, buc, bda, bdc, rfl⟩ := hob.shape
    have hM5 := (hb5.block w2.heap.size (block_lt (unhide HM))).trans (unhide HM)
    have HO5 := hide ((unhide HO4).later hb5)
    have HLOW5 := hide ((unhide HLOW4).trans (hb5.mono (unhide HLOW4).size))
    rw [j2] at hoa
    rw [j3] at hob
    have hs5 := (unhide HLOW5).size
    have HBX := hide (fun wx => reg_boxes (a0 := .bool false) (a1 := .slice aka A.keys.length akc) (a2 := .slice aua A.vals.length auc) (a3 := .slice ada A.kids.length adc) (b0 := .bool false) (b1 := .slice bka C.keys.length bkc) (b2 := .slice bua C.vals.length buc) (b3 := .slice bda C.kids.length bdc) (s := 25) (u := 25) hM5 wx)
    obtain ⟨W6, hW6⟩ : ∃ W6, ((w5.alloc (.cells #[.bool false, .slice aka A.keys.length akc, .slice aua A.vals.length auc, .slice ada A.kids.length adc] 25)).alloc (.cells #[.bool false, .slice bka C.keys.length bkc, .slice bua C.vals.length buc, .slice bda C.kids.length bdc] 25)) = W6 := ⟨_, rfl⟩
    rw [hW6] at HBX
    obtain ⟨X, hX⟩ : ∃ X : Nat → Prop, X = fun _ => False := ⟨_, rfl⟩
    rw [← hX] at HBX
    have hst0 : Reg W6 X W6 := Reg.start (by rw [hX]; intro k hk; exact hk.elim)
    have hst : Reg W6 X W6.drew := hst0.drew
    have g0 : ∀ wx, Reg W6 X wx → wx.cell? ⟨w2.heap.size, 0, none⟩ = some (.bool false) := fun wx hr => (unhide HBX wx hr).1.1
    have g1 : ∀ wx, Reg W6 X wx → wx.cell? ⟨w2.heap.size, 1, none⟩ = some (.slice nka n.keys.length nkc) := fun wx hr => (unhide HBX wx hr).1.2.1
    have g2 : ∀ wx, Reg W6 X wx → wx.cell? ⟨w2.heap.size, 2, none⟩ = some (.slice nua n.vals.length nuc) := fun wx hr => (unhide HBX wx hr).1.2.2.1
    have g3 : ∀ wx, Reg W6 X wx → wx.cell? ⟨w2.heap.size, 3, none⟩ = some (.slice nda n.kids.length ndc) := fun wx hr => (unhide HBX wx hr).1.2.2.2
    have u0 : ∀ wx, Reg W6 X wx → wx.cell? ⟨w5.heap.size, 0, none⟩ = some (.bool false) := fun wx hr => (unhide HBX wx hr).2.1.1
    have u1 : ∀ wx, Reg W6 X wx → wx.cell? ⟨w5.heap.size, 1, none⟩ = some (.slice aka A.keys.length akc) := fun wx hr => (unhide HBX wx hr).2.1.2.1
    have u2 : ∀ wx, Reg W6 X wx → wx.cell? ⟨w5.heap.size, 2, none⟩ = some (.slice aua A.vals.length auc) := fun wx hr => (unhide HBX wx hr).2.1.2.2.1
    have u3 : ∀ wx, Reg W6 X wx → wx.cell? ⟨w5.heap.size, 3, none⟩ = some (.slice ada A.kids.length adc) := fun wx hr => (unhide HBX wx hr).2.1.2.2.2
    have t0 : ∀ wx, Reg W6 X wx → wx.cell? ⟨w5.heap.size + 1, 0, none⟩ = some (.bool false) := fun wx hr => (unhide HBX wx hr).2.2.1.1
    have t1 : ∀ wx, Reg W6 X wx → wx.cell? ⟨w5.heap.size + 1, 1, none⟩ = some (.slice bka C.keys.length bkc) := fun wx hr => (unhide HBX wx hr).2.2.1.2.1
    have t2 : ∀ wx, Reg W6 X wx → wx.cell? ⟨w5.heap.size + 1, 2, none⟩ = some (.slice bua C.vals.length buc) := fun wx hr => (unhide HBX wx hr).2.2.1.2.2.1
    have t3 : ∀ wx, Reg W6 X wx → wx.cell? ⟨w5.heap.size + 1, 3, none⟩ = some (.slice bda C.kids.length bdc) := fun wx hr => (unhide HBX wx hr).2.2.1.2.2.2
    have HNN : Hid (∀ wx, Reg W6 X wx → NdAt wx (.agg #[.bool false, .slice nka n.keys.length nkc, .slice nua n.vals.length nuc, .slice nda n.kids.length ndc]) n) := fun wx hr => ((unhide HO5).later (unhide HBX wx hr).2.2.2).at
    have HNA : Hid (∀ wx, Reg W6 X wx → NdAt wx (.agg #[.bool false, .slice aka A.keys.length akc, .slice aua A.vals.length auc, .slice ada A.kids.length adc]) A) := fun wx hr => (hoa.later (unhide HBX wx hr).2.2.2).at
    have HNC : Hid (∀ wx, Reg W6 X wx → NdAt wx (.agg #[.bool false, .slice bka C.keys.length bkc, .slice bua C.vals.length buc, .slice bda C.kids.length bdc]) C) := fun wx hr => (hob.later (unhide HBX wx hr).2.2.2).at
    have HLOW6 : Hid (∀ wx, Reg W6 X wx → Below w.heap.size w wx) := fun wx hr => (unhide HLOW5).trans ((unhide HBX wx hr).2.2.2.mono (by omega))
    have hkA : 0 < A.keys.length := by rw [j8]; omega
    have hkC : 0 < C.keys.length := by exact j9
    obtain ⟨ga, hga, hgal, hgac⟩ := hoa.keysAt hkA
    obtain ⟨gc, hgc, hgcl, hgcc⟩ := hob.keysAt hkC
    have hya : Codec.lt (A.keys.getD (A.keys.length - 1) []) x = true := by rw [j8]; exact j7
    obtain ⟨y, hy⟩ : ∃ y, A.keys.getD (A.keys.length - 1) [] = y := ⟨_, rfl⟩
    obtain ⟨z, hz⟩ : ∃ z, C.keys.getD 0 [] = z := ⟨_, rfl⟩
    have ca : ∀ wx, Reg W6 X wx → wx.cell? ⟨ga, A.keys.length - 1, none⟩ = some (.string (S y)) := fun wx hr => by
      rw [(unhide HBX wx hr).2.2.2.cell (p := ⟨ga, A.keys.length - 1, none⟩) hgal, hgac _ (by omega), hy]
    have cc : ∀ wx, Reg W6 X wx → wx.cell? ⟨gc, 0, none⟩ = some (.string (S z)) := fun wx hr => by
      rw [(unhide HBX wx hr).2.2.2.cell (p := ⟨gc, 0, none⟩) hgcl, hgcc _ hkC, hz]
    rw [hy] at hya
    rw [hz] at j6
    have sa : Op.bytesLess (S y).toList (S x).toList = true := by rw [S_lt]; exact hya
    have sc : Op.bytesLess (S x).toList (S z).toList = true := by rw [S_lt]; exact j6
    have hLA : A.len = H := by unfold Nd.len; rw [j2]; exact j4
    have hLC : C.len = n.len - H := by unfold Nd.len; rw [j3]; exact j5
    obtain ⟨Q, hQ⟩ : ∃ Q, n.len - H = Q := ⟨_, rfl⟩
    rw [hQ] at hLC
    have HLA := hide (fun (wx : World) (hr : Reg W6 X wx) => nlen_any (unhide HNA wx hr))
    have HLC := hide (fun (wx : World) (hr : Reg W6 X wx) => nlen_any (unhide HNC wx hr))
    have HLN := hide (fun (wx : World) (hr : Reg W6 X wx) => nlen_any (unhide HNN wx hr))
    rw [hLA] at HLA
    rw [hLC] at HLC
    have hw1 : IntKind.i64.wrap (((n.len : Nat) : Int) + 1) = ((n.len : Nat) : Int) + 1 := by rw [IntKind.wrap_i64]; omega
    have hq1 : (((n.len : Nat) : Int) + 1) / 2 = (H : Int) := by omega
    have hq2 : Int.tdiv (((n.len : Nat) : Int) + 1) 2 = (H : Int) := by rw [Int.tdiv_eq_ediv_of_nonneg (by omega)]; exact hq1
    have hw0 : IntKind.i64.wrap (H : Int) = (H : Int) := by rw [IntKind.wrap_i64]; omega
    have hne1 : ((H : Int) != (H : Int)) = false := by simp
    have hne2 : (((n.len : Nat) : Int) != ((n.len : Nat) : Int)) = false := by simp
    have hw2 : IntKind.i64.wrap ((H : Int) + (Q : Int)) = ((n.len : Nat) : Int) := by rw [IntKind.wrap_i64]; omega
    have hwa : IntKind.i64.wrap (((A.keys.length : Nat) : Int) - 1) = ((A.keys.length - 1 : Nat) : Int) := by rw [IntKind.wrap_i64]; omega
    have ia0 : (0 : Int) ≤ ((A.keys.length - 1 : Nat) : Int) := by omega
    have ia1 : ((A.keys.length - 1 : Nat) : Int) < ((A.keys.length : Nat) : Int) := by omega
    have ic1 : (0 : Int) < ((C.keys.length : Nat) : Int) := by omega
    have za : (((A.keys.length : Nat) : Int) == 0) = false := by rw [beq_eq_false_iff_ne]; omega
    have zc : (((C.keys.length : Nat) : Int) == 0) = false := by rw [beq_eq_false_iff_ne]; omega
    have HJO := hide (fun (wx : World) (hr : Reg W6 X wx) => join_any (unhide HNA wx hr) (unhide HNC wx hr) hsA hsC x)
    rw [j1] at HJO
    subst hga hgc
    clear hoa hob HO5 hgac hgcc hy hz hya hkA hkC hM5 hb5 p0 p1 p2 p3 HSP HO4 HM HLOW4 hLA hLC hQ j4 j5 j8 j9 hX HBX HLOW5 hs5 hsA hsC hf hr hlb hH2 hsh
    go_wp2_with fail
    try rw [hW6]
    clear hW6
    go_region_held3 (fun w' => Reg W6 X w') (with_reducible (first | exact hst | (refine Reg.below ?_ (by assumption) <;> assumption)))
      (first
        | (go_at_call 34; refine (unhide HJO _ (by assumption)).mono ?_; rintro e wj ⟨vj, rfl, hoj, hbj⟩; obtain ⟨jka, jkc, jua, juc, jda, jdc, rfl⟩ := hoj.shape; rw [hlf] at hoj; have HJ := hide hoj.at; clear hoj)
        | (go_at_call_has 13 (Value.slice jka n.keys.length jkc); refine (told_node (unhide HJ)).mono ?_; rintro e wt ⟨rfl, hbt⟩)
        | (go_at_call_has 13 (Value.slice nka n.keys.length nkc); refine (told_node (unhide HNN _ (by assumption))).mono ?_; rintro e wt2 ⟨rfl, hbt2⟩)
        | (go_at_call 21; refine (same_node (((unhide HJ).later hbt).later hbt2) (unhide HNN _ (by assumption))).mono ?_; rintro e ws ⟨rfl, hbs⟩)
        | (go_at_call_has 16 (Value.slice (some ⟨ga, 0, none⟩) A.keys.length akc); refine (unhide HLA _ (by assumption)).mono ?_; rintro e wl ⟨rfl, hbl⟩)
        | (go_at_call_has 16 (Value.slice (some ⟨gc, 0, none⟩) C.keys.length bkc); refine (unhide HLC _ (by assumption)).mono ?_; rintro e wl ⟨rfl, hbl⟩)
        | (go_at_call_has 16 (Value.slice nka n.keys.length nkc); refine (unhide HLN _ (by assumption)).mono ?_; rintro e wl ⟨rfl, hbl⟩)
        | fail)
    all_goals
      go_wp2_with fail
      go_ret
      exact ⟨rfl, unhide HLOW6 _ (by assumption)⟩
  · go_enter Try.func7, Try.ntmps7
    go_wp2_with fail
    refine (unhide HAW).mono ?_
    rintro e w1 ⟨rfl, hb1⟩
    go_wp2_with fail
    refine (unhide HLE w1 hb1).mono ?_
    rintro e w2 ⟨v2, rfl, ho2, hb2⟩
    obtain ⟨lka, lkc, lua, luc, lda, ldc, rfl⟩ := ho2.shape
    rw [hlfL] at ho2
    have hs1 := hb1.size
    have hs2 := hb2.size
    have HLOW2 := hide (hb1.trans (hb2.mono hs1))
    have HO2 := hide ho2
    clear ho2 hb1 hb2 HAW HLE HIN fi1 fi2 hlfI ni
    go_wp2_with fail
    refine (nlen_any ((unhide HO2).at.later (below_box _))).mono ?_
    rintro e w4 ⟨rfl, hb4⟩
    rw [World.size_alloc] at hb4
    have hs4 := hb4.size
    rw [World.size_alloc] at hs4
    have hM : w4.heap[w2.heap.size]? = some (.cells #[.bool true, .slice lka nl.keys.length lkc, .slice lua nl.vals.length luc, .slice lda nl.kids.length ldc] 25 (0, 0)) := (hb4.block w2.heap.size (by omega)).trans (heap_alloc_new w2 _)
    have hl24 : Below w2.heap.size w2 w4 := (below_box _).trans (hb4.mono (by omega))
    have hlow4 : Below w.heap.size w w4 := (unhide HLOW2).trans (hl24.mono (by have := (unhide HLOW2).size; omega))
    have ho4 := (unhide HO2).later hl24
    clear hb4 hl24 HO2
    obtain ⟨n, hn⟩ : ∃ n, nl = n := ⟨_, rfl⟩
    rw [hn] at hM ho4 hlfL fl1 fl2 ⊢
    clear hn nl
    have hf := fl1
    have hr := fl2
    have hlf := hlfL
    clear fl1 fl2 hlfL
    by_cases hsh : n.len < 2
    · have d2 : ((n.len : Nat) : Int) < 2 := by omega
      go_wp2_with fail
      go_ret
      exact ⟨rfl, hlow4⟩
    have d2 : ¬ ((n.len : Nat) : Int) < 2 := by omega
    obtain ⟨j1, j2, j3, j4, j5, j6, j7⟩ := split_leaf n hf hr hlf (by omega)
    obtain ⟨p0, p1, p2, p3⟩ := cells4 hM
    have HSP := hide (split_any ho4.at hf (by omega))
    obtain ⟨H, hH⟩ : ∃ H, n.half = H := ⟨_, rfl⟩
    have hH2 : H = (n.len + 1) / 2 := hH.symm
    obtain ⟨A, hA⟩ : ∃ A, n.part 0 H = A := ⟨_, rfl⟩
    obtain ⟨C, hC⟩ : ∃ C, n.part H n.len = C := ⟨_, rfl⟩
    obtain ⟨x, hx⟩ : ∃ x, n.key = x := ⟨_, rfl⟩
    rw [hH, hA, hC, hx] at HSP j1
    rw [hH] at j2 j3
    rw [hA] at j2
    rw [hC] at j3
    simp only [hH, hA, hC, hx] at j4 j5 j6 j7
    have hsA : A.small := by rw [← hA]; exact n.part_small hf.1 _ _
    have hsC : C.small := by rw [← hC]; exact n.part_small hf.1 _ _
    have hlb : n.len ≤ 1000 := by
      obtain ⟨q1, q2, q3⟩ := hf.1
      unfold Nd.len
      split <;> omega
    have HO4 := hide ho4
    have HM := hide hM
    have HLOW4 := hide hlow4
    clear hM ho4 hA hC hx hH hlow4
    go_wp2_with fail
    refine (unhide HSP).mono ?_
    rintro e w5 ⟨va, vb, rfl, hoa, hob, hb5⟩
    obtain ⟨aka, akc, aua, auc, ada, adc, rfl⟩ := hoa.shape
    obtain ⟨bka, bkc, bua, buc, bda, bdc, rfl⟩ := hob.shape
    have hM5 := (hb5.block w2.heap.size (block_lt (unhide HM))).trans (unhide HM)
    have HO5 := hide ((unhide HO4).later hb5)
    have HLOW5 := hide ((unhide HLOW4).trans (hb5.mono (unhide HLOW4).size))
    rw [j2] at hoa
    rw [j3] at hob
    have hs5 := (unhide HLOW5).size
    have HBX := hide (fun wx => reg_boxes (a0 := .bool true) (a1 := .slice aka A.keys.length akc) (a2 := .slice aua A.vals.length auc) (a3 := .slice ada A.kids.length adc) (b0 := .bool true) (b1 := .slice bka C.keys.length bkc) (b2 := .slice bua C.vals.length buc) (b3 := .slice bda C.kids.length bdc) (s := 25) (u := 25) hM5 wx)
    obtain ⟨W6, hW6⟩ : ∃ W6, ((w5.alloc (.cells #[.bool true, .slice aka A.keys.length akc, .slice aua A.vals.length auc, .slice ada A.kids.length adc] 25)).alloc (.cells #[.bool true, .slice bka C.keys.length bkc, .slice bua C.vals.length buc, .slice bda C.kids.length bdc] 25)) = W6 := ⟨_, rfl⟩
    rw [hW6] at HBX
    obtain ⟨X, hX⟩ : ∃ X : Nat → Prop, X = fun _ => False := ⟨_, rfl⟩
    rw [← hX] at HBX
    have hst0 : Reg W6 X W6 := Reg.start (by rw [hX]; intro k hk; exact hk.elim)
    have hst : Reg W6 X W6.drew := hst0.drew
    have g0 : ∀ wx, Reg W6 X wx → wx.cell? ⟨w2.heap.size, 0, none⟩ = some (.bool true) := fun wx hr => (unhide HBX wx hr).1.1
    have g1 : ∀ wx, Reg W6 X wx → wx.cell? ⟨w2.heap.size, 1, none⟩ = some (.slice lka n.keys.length lkc) := fun wx hr => (unhide HBX wx hr).1.2.1
    have g2 : ∀ wx, Reg W6 X wx → wx.cell? ⟨w2.heap.size, 2, none⟩ = some (.slice lua n.vals.length luc) := fun wx hr => (unhide HBX wx hr).1.2.2.1
    have g3 : ∀ wx, Reg W6 X wx → wx.cell? ⟨w2.heap.size, 3, none⟩ = some (.slice lda n.kids.length ldc) := fun wx hr => (unhide HBX wx hr).1.2.2.2
    have u0 : ∀ wx, Reg W6 X wx → wx.cell? ⟨w5.heap.size, 0, none⟩ = some (.bool true) := fun wx hr => (unhide HBX wx hr).2.1.1
    have u1 : ∀ wx, Reg W6 X wx → wx.cell? ⟨w5.heap.size, 1, none⟩ = some (.slice aka A.keys.length akc) := fun wx hr => (unhide HBX wx hr).2.1.2.1
    have u2 : ∀ wx, Reg W6 X wx → wx.cell? ⟨w5.heap.size, 2, none⟩ = some (.slice aua A.vals.length auc) := fun wx hr => (unhide HBX wx hr).2.1.2.2.1
    have u3 : ∀ wx, Reg W6 X wx → wx.cell? ⟨w5.heap.size, 3, none⟩ = some (.slice ada A.kids.length adc) := fun wx hr => (unhide HBX wx hr).2.1.2.2.2
    have t0 : ∀ wx, Reg W6 X wx → wx.cell? ⟨w5.heap.size + 1, 0, none⟩ = some (.bool true) := fun wx hr => (unhide HBX wx hr).2.2.1.1
    have t1 : ∀ wx, Reg W6 X wx → wx.cell? ⟨w5.heap.size + 1, 1, none⟩ = some (.slice bka C.keys.length bkc) := fun wx hr => (unhide HBX wx hr).2.2.1.2.1
    have t2 : ∀ wx, Reg W6 X wx → wx.cell? ⟨w5.heap.size + 1, 2, none⟩ = some (.slice bua C.vals.length buc) := fun wx hr => (unhide HBX wx hr).2.2.1.2.2.1
    have t3 : ∀ wx, Reg W6 X wx → wx.cell? ⟨w5.heap.size + 1, 3, none⟩ = some (.slice bda C.kids.length bdc) := fun wx hr => (unhide HBX wx hr).2.2.1.2.2.2
    have HNN : Hid (∀ wx, Reg W6 X wx → NdAt wx (.agg #[.bool true, .slice lka n.keys.length lkc, .slice lua n.vals.length luc, .slice lda n.kids.length ldc]) n) := fun wx hr => ((unhide HO5).later (unhide HBX wx hr).2.2.2).at
    have HNA : Hid (∀ wx, Reg W6 X wx → NdAt wx (.agg #[.bool true, .slice aka A.keys.length akc, .slice aua A.vals.length auc, .slice ada A.kids.length adc]) A) := fun wx hr => (hoa.later (unhide HBX wx hr).2.2.2).at
    have HNC : Hid (∀ wx, Reg W6 X wx → NdAt wx (.agg #[.bool true, .slice bka C.keys.length bkc, .slice bua C.vals.length buc, .slice bda C.kids.length bdc]) C) := fun wx hr => (hob.later (unhide HBX wx hr).2.2.2).at
    have HLOW6 : Hid (∀ wx, Reg W6 X wx → Below w.heap.size w wx) := fun wx hr => (unhide HLOW5).trans ((unhide HBX wx hr).2.2.2.mono (by omega))
    have hkA : 0 < A.keys.length := by omega
    have hkC : 0 < C.keys.length := by omega
    obtain ⟨ga, hga, hgal, hgac⟩ := hoa.keysAt hkA
    obtain ⟨gc, hgc, hgcl, hgcc⟩ := hob.keysAt hkC
    have hya : Codec.lt (A.keys.getD (A.keys.length - 1) []) x = true := by rw [j4]; exact j7
    obtain ⟨y, hy⟩ : ∃ y, A.keys.getD (A.keys.length - 1) [] = y := ⟨_, rfl⟩
    obtain ⟨z, hz⟩ : ∃ z, C.keys.getD 0 [] = z := ⟨_, rfl⟩
    have ca : ∀ wx, Reg W6 X wx → wx.cell? ⟨ga, A.keys.length - 1, none⟩ = some (.string (S y)) := fun wx hr => by
      rw [(unhide HBX wx hr).2.2.2.cell (p := ⟨ga, A.keys.length - 1, none⟩) hgal, hgac _ (by omega), hy]
    have cc : ∀ wx, Reg W6 X wx → wx.cell? ⟨gc, 0, none⟩ = some (.string (S z)) := fun wx hr => by
      rw [(unhide HBX wx hr).2.2.2.cell (p := ⟨gc, 0, none⟩) hgcl, hgcc _ hkC, hz]
    rw [hy] at hya
    rw [hz] at j6
    have sa : Op.bytesLess (S y).toList (S x).toList = true := by rw [S_lt]; exact hya
    have j6s := j6.symm
    subst j6s
    have hLA : A.len = H := by unfold Nd.len; rw [j2]; exact j4
    have hLC : C.len = n.len - H := by unfold Nd.len; rw [j3]; exact j5
    obtain ⟨Q, hQ⟩ : ∃ Q, n.len - H = Q := ⟨_, rfl⟩
    rw [hQ] at hLC
    have HLA := hide (fun (wx : World) (hr : Reg W6 X wx) => nlen_any (unhide HNA wx hr))
    have HLC := hide (fun (wx : World) (hr : Reg W6 X wx) => nlen_any (unhide HNC wx hr))
    have HLN := hide (fun (wx : World) (hr : Reg W6 X wx) => nlen_any (unhide HNN wx hr))
    rw [hLA] at HLA
    rw [hLC] at HLC
    have hw1 : IntKind.i64.wrap (((n.len : Nat) : Int) + 1) = ((n.len : Nat) : Int) + 1 := by rw [IntKind.wrap_i64]; omega
    have hq1 : (((n.len : Nat) : Int) + 1) / 2 = (H : Int) := by omega
    have hq2 : Int.tdiv (((n.len : Nat) : Int) + 1) 2 = (H : Int) := by rw [Int.tdiv_eq_ediv_of_nonneg (by omega)]; exact hq1
    have hw0 : IntKind.i64.wrap (H : Int) = (H : Int) := by rw [IntKind.wrap_i64]; omega
    have hne1 : ((H : Int) != (H : Int)) = false := by simp
    have hne2 : (((n.len : Nat) : Int) != ((n.len : Nat) : Int)) = false := by simp
    have hw2 : IntKind.i64.wrap ((H : Int) + (Q : Int)) = ((n.len : Nat) : Int) := by rw [IntKind.wrap_i64]; omega
    have hwa : IntKind.i64.wrap (((A.keys.length : Nat) : Int) - 1) = ((A.keys.length - 1 : Nat) : Int) := by rw [IntKind.wrap_i64]; omega
    have ia0 : (0 : Int) ≤ ((A.keys.length - 1 : Nat) : Int) := by omega
    have ia1 : ((A.keys.length - 1 : Nat) : Int) < ((A.keys.length : Nat) : Int) := by omega
    have ic1 : (0 : Int) < ((C.keys.length : Nat) : Int) := by omega
    have za : (((A.keys.length : Nat) : Int) == 0) = false := by rw [beq_eq_false_iff_ne]; omega
    have zc : (((C.keys.length : Nat) : Int) == 0) = false := by rw [beq_eq_false_iff_ne]; omega
    have HJO := hide (fun (wx : World) (hr : Reg W6 X wx) => join_any (unhide HNA wx hr) (unhide HNC wx hr) hsA hsC x)
    rw [j1] at HJO
    subst hga hgc
    clear hoa hob HO5 hgac hgcc hy hz hya hkA hkC hM5 hb5 p0 p1 p2 p3 HSP HO4 HM HLOW4 hLA hLC hQ j4 j5 hX HBX HLOW5 hs5 hsA hsC hf hr hlb hH2 hsh
    go_wp2_with fail
    try rw [hW6]
    clear hW6
    go_region_held3 (fun w' => Reg W6 X w') (with_reducible (first | exact hst | (refine Reg.below ?_ (by assumption) <;> assumption)))
      (first
        | (go_at_call 34; refine (unhide HJO _ (by assumption)).mono ?_; rintro e wj ⟨vj, rfl, hoj, hbj⟩; obtain ⟨jka, jkc, jua, juc, jda, jdc, rfl⟩ := hoj.shape; rw [hlf] at hoj; have HJ := hide hoj.at; clear hoj)
        | (go_at_call_has 13 (Value.slice jka n.keys.length jkc); refine (told_node (unhide HJ)).mono ?_; rintro e wt ⟨rfl, hbt⟩)
        | (go_at_call_has 13 (Value.slice lka n.keys.length lkc); refine (told_node (unhide HNN _ (by assumption))).mono ?_; rintro e wt2 ⟨rfl, hbt2⟩)
        | (go_at_call 21; refine (same_node (((unhide HJ).later hbt).later hbt2) (unhide HNN _ (by assumption))).mono ?_; rintro e ws ⟨rfl, hbs⟩)
        | (go_at_call_has 16 (Value.slice (some ⟨ga, 0, none⟩) A.keys.length akc); refine (unhide HLA _ (by assumption)).mono ?_; rintro e wl ⟨rfl, hbl⟩)
        | (go_at_call_has 16 (Value.slice (some ⟨gc, 0, none⟩) C.keys.length bkc); refine (unhide HLC _ (by assumption)).mono ?_; rintro e wl ⟨rfl, hbl⟩)
        | (go_at_call_has 16 (Value.slice lka n.keys.length lkc); refine (unhide HLN _ (by assumption)).mono ?_; rintro e wl ⟨rfl, hbl⟩)
        | fail)
    all_goals
      go_wp2_with fail
      go_ret
      exact ⟨rfl, unhide HLOW6 _ (by assumption)⟩
end Go.Proofs.Ytochaiinofhdhaa
