/- The contracts of the law's Inner and Leaf: nodes made of raw texts. -/
import Derived.Test.YtochaiinofhdhaaNSorted
namespace Go.Proofs.Ytochaiinofhdhaa
open Go.RowKit
set_option linter.unusedVariables false
set_option maxRecDepth 100000

def IsInts (w : World) (a : Option Addr) (len cap : Nat) (zs : List Int) : Prop :=
  (a = none ∧ len = 0 ∧ cap = 0 ∧ zs = []) ∨
  ∃ x, a = some x ∧ len ≤ cap ∧ cap ≤ maxLen ∧ zs.length = cap ∧ (∀ i, i < zs.length → w.cell? (x.add i) = some (.int .i64 (zs.getD i 0))) ∧ ∀ n ∈ zs, (Lit.int .i64 n).wf = true
theorem IsInts.row {w : World} {a : Option Addr} {len cap : Nat} {zs : List Int} (h : IsInts w a len cap zs) : ∃ l : List Int, l.length = len ∧ (∀ x ∈ l, (Lit.int .i64 x).wf = true) ∧ Row w (.slice a len cap) (I9 l) := by
  rcases h with ⟨rfl, rfl, rfl, rfl⟩ | ⟨x, rfl, hl, hm, hz, hc, hs⟩
  · exact ⟨[], rfl, by simp, Row.nil w⟩
  · have hlen : (zs.take len).length = len := by simp; omega
    refine ⟨zs.take len, hlen, fun y hy => hs y (List.mem_of_mem_take hy), some x, cap, by rw [I9_length, hlen], by rw [I9_length, hlen]; exact hl, hm, fun e => (by cases e), fun i u hu => ?_⟩
    have hi : i < len := by
      rcases Nat.lt_or_ge i len with h | h
      · exact h
      · rw [List.getElem?_eq_none (by rw [I9_length, hlen]; exact h)] at hu; cases hu
    have h1 := hc i (by omega)
    obtain ⟨b, off, spot⟩ := x
    have hspot : spot = none := by simpa [Addr.add] using World.cell?_spot (hc 0 (by omega))
    subst hspot
    have h2 : w.cell? ⟨b, off + i, none⟩ = some (.int .i64 (zs.getD i 0)) := by rw [← plain_add]; exact h1
    refine ⟨b, off, rfl, cell_lt h2, ?_⟩
    rw [h2, ← hu]
    simp [I9, List.getD, show i < zs.length by omega, hi]
theorem IsStrs.row {w : World} {a : Option Addr} {len cap : Nat} {zs : List ByteArray} (h : IsStrs w a len cap zs) : ∃ l : List (List UInt8), l.length = len ∧ len ≤ maxLen ∧ (∀ i (hi : i < l.length), l[i].length ≤ maxLen) ∧ Row w (.slice a len cap) (T9 l) := by
  obtain ⟨l, h1, h2, h3, h4⟩ := h.norm
  refine ⟨l, h1, h2, h3, ?_⟩
  rcases h with ⟨rfl, rfl, rfl, rfl⟩ | ⟨x, rfl, hl, hm, hz, hc, hs⟩
  · have : l = [] := List.eq_nil_of_length_eq_zero h1
    subst this
    exact Row.nil w
  · refine ⟨some x, cap, by rw [T9_length, h1], by rw [T9_length, h1]; exact hl, hm, fun e => (by cases e), fun i u hu => ?_⟩
    have hi : i < l.length := by
      rcases Nat.lt_or_ge i l.length with h | h
      · exact h
      · rw [List.getElem?_eq_none (by rw [T9_length]; exact h)] at hu; cases hu
    obtain ⟨b, off, e, hlt, hcc⟩ := h4 i hi
    refine ⟨b, off, e, hlt, ?_⟩
    rw [hcc, ← hu]
    simp [T9, hi]
theorem Row.words {w : World} {a : Option Addr} {len cap : Nat} {l : List (List UInt8)} (h : Row w (.slice a len cap) (T9 l)) : Texts w a l := h.texts.2.2.2

def kid (ds : List Int) (i : Nat) : Int := if i < ds.length then ds.getD i 0 % 128 else (i : Int)
def kidsOf (ds : List Int) (m : Nat) : List Int := (List.range m).map (kid ds)
theorem kidsOf_length (ds : List Int) (m : Nat) : (kidsOf ds m).length = m := by simp [kidsOf]
theorem kidsOf_succ (ds : List Int) (m : Nat) : kidsOf ds (m + 1) = kidsOf ds m ++ [kid ds m] := by simp [kidsOf, List.range_succ]

def innerOf (l : List (List UInt8)) (ds : List Int) (n : Nat) : Nd := ⟨false, Codec.sorts (few l (n - 1) 24), [], kidsOf ds ((Codec.sorts (few l (n - 1) 24)).length + 1)⟩

set_option maxHeartbeats 3200000 in
theorem inner_any (l : List (List UInt8)) (ds : List Int) (n : Nat) (a : Option Addr) (len cap : Nat) (dv : Value) (w : World) (hlen : l.length = len) (hm : len ≤ maxLen) (hz : ∀ i (h : i < l.length), l[i].length ≤ maxLen) (ht : Texts w a l)
    (hd : Row w dv (I9 ds)) (h1 : 1 ≤ n) (hn : n ≤ 60) :
    Calls Try.prog 31 #[.slice a len cap, dv, .int .i64 n] w fun e w' => ∃ v, e = .returned v ∧ NdOwn w.heap.size w' v (innerOf l ds n) ∧ Below w.heap.size w w' := by
  obtain ⟨i0, hi, hz0, hz1, hz2⟩ := info_parts info_kid
  have hw1 : IntKind.i64.wrap ((n : Int) - 1) = ((n - 1 : Nat) : Int) := by rw [IntKind.wrap_i64]; omega
  have HS := hide (fun (o : Obj) => sorted_any l (n - 1) 24 a len cap (w.alloc o) hlen hm hz (ht.later (below_box o)) (by omega) (by omega))
  have e24 : ((24 : Nat) : Int) = 24 := rfl
  rw [e24] at HS
  have hcl : (Codec.sorts (few l (n - 1) 24)).length ≤ 64 := by
    have h1 := Codec.sorts_length (few l (n - 1) 24)
    rw [few_length] at h1
    omega
  unfold innerOf
  obtain ⟨C, hC⟩ : ∃ C, Codec.sorts (few l (n - 1) 24) = C := ⟨_, rfl⟩
  rw [hC] at HS hcl ⊢
  obtain ⟨da, dc, rfl, hdl, hdm⟩ := hd.shape
  rw [I9_length] at hdl ⊢
  have HD : Hid (∀ i (hi : i < ds.length), ∃ b off, da = some ⟨b, off, none⟩ ∧ b < w.heap.size ∧ w.cell? ⟨b, off + i, none⟩ = some (.int .i64 (ds[i]'hi))) := fun i hi => by
    obtain ⟨b, off, e, hl, hc⟩ := hd.at i (by rw [I9_length]; exact hi)
    exact ⟨b, off, e, hl, by rw [hc]; simp [I9]⟩
  have hw2 : IntKind.i64.wrap ((C.length : Int) + 1) = ((C.length + 1 : Nat) : Int) := by rw [IntKind.wrap_i64]; omega
  unfold maxLen at hdm
  clear hlen hm hz ht hd hC e24
  go_enter Try.func31, Try.ntmps31
  go_wp2_with fail
  refine (unhide HS _).mono ?_
  rintro e w1 ⟨v1, rfl, ho1, hb1⟩
  obtain ⟨ka, kc, rfl, _⟩ := ownsRow_slice ho1
  rw [World.size_alloc] at ho1 hb1
  have hs1 := hb1.size
  rw [World.size_alloc] at hs1
  have hlow1 : Below w.heap.size w w1 := (below_box _).trans (hb1.mono (by omega))
  have hres : w1.heap[w.heap.size]? = some _ := (hb1.block w.heap.size (by omega)).trans (heap_alloc_new w _)
  have HO1 := hide ho1
  have HL1 := hide hlow1
  have HRES := hide hres
  clear ho1 hb1 hlow1 HS hres
  go_wp2_with fail
  go_loopw [19] (fun i wr => ∃ (k : Nat) (kv : Value), k ≤ C.length + 1 ∧ i = .int .i64 k ∧ wr.heap[w1.heap.size]? = some (.cells #[.bool false, .slice ka C.length kc, .slice none 0 0, kv] 25 (0, 0)) ∧ wr.ownsRow (w1.heap.size + 1) 3 1 kv k (I9 (kidsOf ds k)) ∧ Below w1.heap.size w1 wr) (fun i _ => C.length + 1 - (intOf i).toNat)
  case atStart => exact ⟨0, _, Nat.zero_le _, rfl, heap_alloc_new w1 _, World.ownsRow_nil _ _ _ _, below_box _⟩
  case round =>
    obtain ⟨k, kv, hk, rfl, hblk, hown, hbw⟩ := hrel
    obtain ⟨p0, p1, p2, p3⟩ := cells4 hblk
    have hfz := block_frozen hblk 3
    have hlt1 := block_lt hblk
    by_cases hlt : k < C.length + 1
    · obtain ⟨kva, kvc, rfl, _⟩ := ownsRow_slice hown
      have HOWN := hide hown
      have HBW := hide hbw
      have HBLK := hide hblk
      have HSUC := hide (kidsOf_succ ds k)
      have hpA : ∀ o, (wr.alloc o).cell? ⟨w1.heap.size, 3, none⟩ = some (.slice kva k kvc) := fun o => ((below_box o).cell (p := ⟨w1.heap.size, 3, none⟩) hlt1).trans p3
      have HGO : Hid (∀ (v' : Value) (w2 : World) (x : Int), (∀ o, w2.ownsRow (w1.heap.size + 1) 3 1 v' (k + 1) (I9 (kidsOf ds k) ++ [.int .i64 x]) → (wr.alloc o).grownBy w2 (Value.slice kva k kvc).ownBlock → x = kid ds k →
          (w2.frozen? ⟨w1.heap.size, 3, none⟩ = false ∧ w2.cell? ⟨w1.heap.size, 3, none⟩ = some (.slice kva k kvc)) ∧ (w2.setCell ⟨w1.heap.size, 3, none⟩ v').heap[w1.heap.size]? = some (.cells #[.bool false, .slice ka C.length kc, .slice none 0 0, v'] 25 (0, 0)) ∧ (w2.setCell ⟨w1.heap.size, 3, none⟩ v').ownsRow (w1.heap.size + 1) 3 1 v' (k + 1) (I9 (kidsOf ds (k + 1))) ∧ Below w1.heap.size w1 (w2.setCell ⟨w1.heap.size, 3, none⟩ v'))) := fun v' w2 x o ho2 hg2 hx => by
        have hlo := (unhide HOWN).lt
        have hsz := hg2.size
        rw [World.size_alloc] at hsz
        have hblk2 : w2.heap[w1.heap.size]? = some _ := (hg2.block w1.heap.size (by simp; omega) (fun e => by have := hlo _ e.symm; omega)).trans ((Below.heap_alloc wr o _ hlt1).trans (unhide HBLK))
        refine ⟨⟨block_frozen hblk2 3, (cells4 hblk2).2.2.2⟩, ?_, ?_, ?_⟩
        · have := heap_setCell_same w2 w1.heap.size 3 _ _ v' hblk2
          simpa [Array.setIfInBounds] using this
        · rw [unhide HSUC, I9_append, ← hx]
          exact ownsRow_setCell_below ho2 (a := ⟨w1.heap.size, 3, none⟩) (by simp) v'
        · refine Below.setCell (p := ⟨w1.heap.size, 3, none⟩) ?_ (Nat.le_refl _) _
          exact ((unhide HBW).alloc (by omega) o).grown hg2 (by simp; omega) (fun j hj => by have := (hlo j hj).1; omega)
      have hbase : w1.heap.size + 1 ≤ wr.heap.size := by omega
      clear hown hbw hblk HSUC
      by_cases hkd : k < ds.length
      · obtain ⟨db, dof, hda, hdl2, hdc⟩ := unhide HD k hkd
        subst hda
        have hlow := (unhide HL1).trans ((unhide HBW).mono (by omega))
        rw [← hlow.cell (p := ⟨db, dof + k, none⟩) hdl2] at hdc
        have hgd : kid ds k = ds[k]'hkd % 128 := by unfold kid; rw [if_pos hkd]; simp [List.getD, hkd]
        have hand := pl_and_mask (ds[k]'hkd) 7 127 (by decide) (by decide)
        have e128 : ((2 ^ 7 : Nat) : Int) = 128 := rfl
        rw [e128] at hand
        rw [hgd] at HGO
        have hkd2 : (k : Int) < ((ds.length : Nat) : Int) := by omega
        clear hgd hlow e128
        generalize ds[k]'hkd = y at *
        generalize y % 128 = z at *
        go_wp2_with (first | (at_builtin; refine wpList_append_fresh rfl _ _ 23 rfl (w1.heap.size + 1) 3 i0 (.int .i64 0) 1 8 under_kids hi hz0 hz1 hz2 rfl (by decide) _ _ _ rfl ((unhide HOWN).alloc _) ⟨wr.heap.size, 0, none⟩ 1 1 [.int .i64 z] rfl rfl (cell_one_new _ _ _) ?c2 ?c3 ?c4 ?c5 ?_) | fail)
        case c2 => first | rfl | (intro u hu; simp at hu; subst hu; rfl)
        case c3 => unfold maxLen; omega
        case c4 => omega
        case c5 => first | omega | (simp; omega)
        intro v' w2 hown' hgrow _
        obtain ⟨⟨q1, q2⟩, q3, q4, q5⟩ := unhide HGO v' w2 z _ hown' hgrow rfl
        have H3 := hide q3
        have H4 := hide q4
        have H5 := hide q5
        obtain ⟨va, vc, rfl, _⟩ := ownsRow_slice hown'
        clear hown' hgrow q3 q4 q5 HGO
        go_wp2_with fail
        go_roundw
        case rel => exact ⟨k + 1, _, by omega, by go_num, unhide H3, unhide H4, unhide H5⟩
        case measure => simp [intOf]; omega
      · have hgd : kid ds k = (k : Int) := by unfold kid; rw [if_neg hkd]
        rw [hgd] at HGO
        have hkd2 : ¬ (k : Int) < ((ds.length : Nat) : Int) := by omega
        clear hgd
        go_wp2_with (first | (at_builtin; refine wpList_append_fresh rfl _ _ 23 rfl (w1.heap.size + 1) 3 i0 (.int .i64 0) 1 8 under_kids hi hz0 hz1 hz2 rfl (by decide) _ _ _ rfl ((unhide HOWN).alloc _) ⟨wr.heap.size, 0, none⟩ 1 1 [.int .i64 (k : Int)] rfl rfl (cell_one_new _ _ _) ?c2 ?c3 ?c4 ?c5 ?_) | fail)
        case c2 => first | rfl | (intro u hu; simp at hu; subst hu; rfl)
        case c3 => unfold maxLen; omega
        case c4 => omega
        case c5 => first | omega | (simp; omega)
        intro v' w2 hown' hgrow _
        obtain ⟨⟨q1, q2⟩, q3, q4, q5⟩ := unhide HGO v' w2 (k : Int) _ hown' hgrow rfl
        have H3 := hide q3
        have H4 := hide q4
        have H5 := hide q5
        obtain ⟨va, vc, rfl, _⟩ := ownsRow_slice hown'
        clear hown' hgrow q3 q4 q5 HGO
        go_wp2_with fail
        go_roundw
        case rel => exact ⟨k + 1, _, by omega, by go_num, unhide H3, unhide H4, unhide H5⟩
        case measure => simp [intOf]; omega
    · have hkn : k = C.length + 1 := by omega
      subst hkn
      have hr6 := (hbw.block w.heap.size (by omega)).trans (unhide HRES)
      obtain ⟨r0, r1, r2, r3⟩ := cells4 hr6
      have hf6 : ∀ j, wr.frozen? ⟨w.heap.size, j, none⟩ = false := fun j => block_frozen hr6 j
      obtain ⟨kva, kvc, rfl, _⟩ := ownsRow_slice hown
      have hne : w1.heap.size ≠ w.heap.size := by omega
      have hfin : Below w.heap.size w (put4 wr w.heap.size (.bool false) (.slice ka C.length kc) (.slice none 0 0) (.slice kva (C.length + 1) kvc)) :=
        ⟨hbw.os.trans (unhide HL1).os, hbw.tape.trans (unhide HL1).tape, hbw.output.trans (unhide HL1).output, by rw [put4_size]; have := hbw.size; omega, fun j hj => by
          rw [put4_other _ _ _ _ (by omega), hbw.block j (by omega)]; exact (unhide HL1).block j hj⟩
      have hk1 := ownsRow_less (ownsRow_put4 (N := w.heap.size) (ownsRow_below (unhide HO1) hbw) (by omega) (.bool false) (.slice ka C.length kc) (.slice none 0 0) (.slice kva (C.length + 1) kvc)) (show w.heap.size ≤ w.heap.size + 1 by omega)
      have hk2 := ownsRow_less (ownsRow_put4 (N := w.heap.size) hown (by omega) (.bool false) (.slice ka C.length kc) (.slice none 0 0) (.slice kva (C.length + 1) kvc)) (show w.heap.size ≤ w1.heap.size + 1 by omega)
      obtain ⟨q0, q1, q2, q3⟩ := cells4 (put4_same (a' := .bool false) (b' := .slice ka C.length kc) (c' := .slice none 0 0) (d' := .slice kva (C.length + 1) kvc) hr6)
      unfold put4 at hfin hk1 hk2 q0 q1 q2 q3
      have HFIN := hide hfin
      have HK1 := hide hk1
      have HK2 := hide hk2
      clear hown hbw hblk hr6 hfin hk1 hk2 HD
      go_wp2_with fail
      refine bodyPost_ret (v := .agg #[.bool false, .slice ka C.length kc, .slice none 0 0, .slice kva (C.length + 1) kvc]) (by simp [results, Try.results31, go_sem, q0, q1, q2, q3]) rfl ⟨_, rfl, ⟨_, _, _, rfl, unhide HK1, World.ownsRow_nil _ _ _ _, ?_⟩, unhide HFIN⟩
      rw [kidsOf_length]
      exact unhide HK2
end Go.Proofs.Ytochaiinofhdhaa
