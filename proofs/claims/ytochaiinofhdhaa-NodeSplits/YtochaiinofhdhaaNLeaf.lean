/- The contract of the law's Leaf: a leaf made of raw texts. -/
import Derived.Test.YtochaiinofhdhaaNMake
namespace Go.Proofs.Ytochaiinofhdhaa
open Go.RowKit
set_option linter.unusedVariables false
set_option maxRecDepth 100000

def valOf (vs : List (List UInt8)) (i : Nat) : List UInt8 := if i < vs.length then (vs.getD i []).take 32 else []
def valsOf (vs : List (List UInt8)) (m : Nat) : List (List UInt8) := (List.range m).map (valOf vs)
theorem valsOf_length (vs : List (List UInt8)) (m : Nat) : (valsOf vs m).length = m := by simp [valsOf]
theorem valsOf_succ (vs : List (List UInt8)) (m : Nat) : valsOf vs (m + 1) = valsOf vs m ++ [valOf vs m] := by simp [valsOf, List.range_succ]
def leafOf (l vs : List (List UInt8)) (n : Nat) : Nd := ⟨true, Codec.sorts (few l n 24), valsOf vs (Codec.sorts (few l n 24)).length, []⟩

set_option maxHeartbeats 3200000 in
theorem leaf_any (l vs : List (List UInt8)) (n : Nat) (a : Option Addr) (len cap : Nat) (dv : Value) (w : World) (hlen : l.length = len) (hm : len ≤ maxLen) (hz : ∀ i (h : i < l.length), l[i].length ≤ maxLen) (ht : Texts w a l)
    (hd : Row w dv (T9 vs)) (hvz : ∀ i (h : i < vs.length), vs[i].length ≤ maxLen) (hn : n ≤ 60) :
    Calls Try.prog 24 #[.slice a len cap, dv, .int .i64 n] w fun e w' => ∃ v, e = .returned v ∧ NdOwn w.heap.size w' v (leafOf l vs n) ∧ Below w.heap.size w w' := by
  obtain ⟨i0, hi, hz0, hz1, hz2⟩ := info_parts info_string
  have HS := hide (fun (o : Obj) => sorted_any l n 24 a len cap (w.alloc o) hlen hm hz (ht.later (below_box o)) (by omega) (by omega))
  have e24 : ((24 : Nat) : Int) = 24 := rfl
  rw [e24] at HS
  have hcl : (Codec.sorts (few l n 24)).length ≤ 64 := by
    have h1 := Codec.sorts_length (few l n 24)
    rw [few_length] at h1
    omega
  unfold leafOf
  obtain ⟨C, hC⟩ : ∃ C, Codec.sorts (few l n 24) = C := ⟨_, rfl⟩
  rw [hC] at HS hcl ⊢
  obtain ⟨da, dc, rfl, hdl, hdm⟩ := hd.shape
  rw [T9_length] at hdl ⊢
  have HD : Hid (∀ i (hi : i < vs.length), ∃ b off, da = some ⟨b, off, none⟩ ∧ b < w.heap.size ∧ w.cell? ⟨b, off + i, none⟩ = some (.string (S (vs[i]'hi)))) := fun i hi => by
    obtain ⟨b, off, e, hl, hc⟩ := hd.at i (by rw [T9_length]; exact hi)
    exact ⟨b, off, e, hl, by rw [hc]; simp [T9]⟩
  have HVZ := hide hvz
  unfold maxLen at hdm
  clear hlen hm hz ht hd hC e24 hvz
  go_enter Try.func24, Try.ntmps24
  go_wp2_with fail
  refine (unhide HS _).mono ?_
  rintro e w1 ⟨v1, rfl, ho1, hb1⟩
  obtain ⟨ka, kc, rfl, _⟩ := ownsRow_slice ho1
  rw [World.size_alloc] at ho1 hb1
  have hs1 := hb1.size
  rw [World.size_alloc] at hs1
  have hlow1 : Below w.heap.size w w1 := (below_box _).trans (hb1.mono (by omega))
  have hres : w1.heap[w.heap.size]? = some _ := (hb1.block w.heap.size (by omega)).trans (heap_alloc_new w _)
  have HO1 := hide ho1
  have HL1 := hide hlow1
  have HRES := hide hres
  clear ho1 hb1 hlow1 HS hres
  go_wp2_with fail
  go_loopw [17] (fun i wr => ∃ (k : Nat) (kv : Value), k ≤ C.length ∧ i = .int .i64 k ∧ wr.heap[w1.heap.size]? = some (.cells #[.bool true, .slice ka C.length kc, kv, .slice none 0 0] 25 (0, 0)) ∧ wr.ownsRow (w1.heap.size + 1) 9 1 kv k (T9 (valsOf vs k)) ∧ Below w1.heap.size w1 wr) (fun i _ => C.length - (intOf i).toNat)
  case atStart => exact ⟨0, _, Nat.zero_le _, rfl, heap_alloc_new w1 _, World.ownsRow_nil _ _ _ _, below_box _⟩
  case round =>
    obtain ⟨k, kv, hk, rfl, hblk, hown, hbw⟩ := hrel
    obtain ⟨p0, p1, p2, p3⟩ := cells4 hblk
    have hfz := block_frozen hblk 2
    have hlt1 := block_lt hblk
    by_cases hlt : k < C.length
    · obtain ⟨kva, kvc, rfl, _⟩ := ownsRow_slice hown
      have HOWN := hide hown
      have HBW := hide hbw
      have HBLK := hide hblk
      have HSUC := hide (valsOf_succ vs k)
      have hpA : ∀ o, (wr.alloc o).cell? ⟨w1.heap.size, 2, none⟩ = some (.slice kva k kvc) := fun o => ((below_box o).cell (p := ⟨w1.heap.size, 2, none⟩) hlt1).trans p2
      have HGO : Hid (∀ (v' : Value) (w2 : World) (x : List UInt8), (∀ o, w2.ownsRow (w1.heap.size + 1) 9 1 v' (k + 1) (T9 (valsOf vs k) ++ [.string (S x)]) → (wr.alloc o).grownBy w2 (Value.slice kva k kvc).ownBlock → x = valOf vs k →
          (w2.frozen? ⟨w1.heap.size, 2, none⟩ = false ∧ w2.cell? ⟨w1.heap.size, 2, none⟩ = some (.slice kva k kvc)) ∧ (w2.setCell ⟨w1.heap.size, 2, none⟩ v').heap[w1.heap.size]? = some (.cells #[.bool true, .slice ka C.length kc, v', .slice none 0 0] 25 (0, 0)) ∧ (w2.setCell ⟨w1.heap.size, 2, none⟩ v').ownsRow (w1.heap.size + 1) 9 1 v' (k + 1) (T9 (valsOf vs (k + 1))) ∧ Below w1.heap.size w1 (w2.setCell ⟨w1.heap.size, 2, none⟩ v'))) := fun v' w2 x o ho2 hg2 hx => by
        have hlo := (unhide HOWN).lt
        have hsz := hg2.size
        rw [World.size_alloc] at hsz
        have hblk2 : w2.heap[w1.heap.size]? = some _ := (hg2.block w1.heap.size (by simp; omega) (fun e => by have := hlo _ e.symm; omega)).trans ((Below.heap_alloc wr o _ hlt1).trans (unhide HBLK))
        refine ⟨⟨block_frozen hblk2 2, (cells4 hblk2).2.2.1⟩, ?_, ?_, ?_⟩
        · have := heap_setCell_same w2 w1.heap.size 2 _ _ v' hblk2
          simpa [Array.setIfInBounds] using this
        · rw [unhide HSUC, T9_append, ← hx]
          exact ownsRow_setCell_below ho2 (a := ⟨w1.heap.size, 2, none⟩) (by simp) v'
        · refine Below.setCell (p := ⟨w1.heap.size, 2, none⟩) ?_ (Nat.le_refl _) _
          exact ((unhide HBW).alloc (by omega) o).grown hg2 (by simp; omega) (fun j hj => by have := (hlo j hj).1; omega)
      have hbase : w1.heap.size + 1 ≤ wr.heap.size := by omega
      clear hown hbw hblk HSUC
      by_cases hkd : k < vs.length
      · obtain ⟨db, dof, hda, hdl2, hdc⟩ := unhide HD k hkd
        subst hda
        have hlow := (unhide HL1).trans ((unhide HBW).mono (by omega))
        rw [← hlow.cell (p := ⟨db, dof + k, none⟩) hdl2] at hdc
        have hgd : valOf vs k = (vs[k]'hkd).take 32 := by unfold valOf; rw [if_pos hkd]; simp [List.getD, hkd]
        have HCUT := hide (cut_any (S (vs[k]'hkd)) 32 wr (unhide HVZ k hkd))
        have hst : (S (vs[k]'hkd)).data.toList = vs[k]'hkd := rfl
        have e32 : ((32 : Nat) : Int) = 32 := rfl
        rw [hst, e32] at HCUT
        rw [hgd] at HGO
        have hkd2 : (k : Int) < ((vs.length : Nat) : Int) := by omega
        clear hgd hlow hst e32
        generalize vs[k]'hkd = y at *
        generalize y.take 32 = z at *
        go_wp2_with fail
        refine (unhide HCUT).mono ?_
        rintro e wq ⟨rfl, rfl⟩
        clear HCUT
        go_wp2_with (first | (at_builtin; refine wpList_append_fresh rfl _ _ 22 rfl (w1.heap.size + 1) 9 i0 (.string ⟨#[]⟩) 1 16 under_strings hi hz0 hz1 hz2 rfl (by decide) _ _ _ rfl ((unhide HOWN).alloc _) ⟨wq.heap.size, 0, none⟩ 1 1 [.string (S z)] rfl rfl (cell_one_new _ _ _) ?c2 ?c3 ?c4 ?c5 ?_) | fail)
        case c2 => first | rfl | (intro u hu; simp at hu; subst hu; rfl)
        case c3 => unfold maxLen; omega
        case c4 => omega
        case c5 => first | omega | (simp; omega)
        intro v' w2 hown' hgrow _
        obtain ⟨⟨q1, q2⟩, q3, q4, q5⟩ := unhide HGO v' w2 z _ hown' hgrow rfl
        have H3 := hide q3
        have H4 := hide q4
        have H5 := hide q5
        obtain ⟨va, vc, rfl, _⟩ := ownsRow_slice hown'
        clear hown' hgrow q3 q4 q5 HGO
        go_wp2_with fail
        go_roundw
        case rel => exact ⟨k + 1, _, by omega, by go_num, unhide H3, unhide H4, unhide H5⟩
        case measure => simp [intOf]; omega
      · have hgd : valOf vs k = [] := by unfold valOf; rw [if_neg hkd]
        rw [hgd] at HGO
        have hkd2 : ¬ (k : Int) < ((vs.length : Nat) : Int) := by omega
        have hse : S [] = ⟨#[]⟩ := rfl
        clear hgd
        go_wp2_with (first | (at_builtin; refine wpList_append_fresh rfl _ _ 22 rfl (w1.heap.size + 1) 9 i0 (.string ⟨#[]⟩) 1 16 under_strings hi hz0 hz1 hz2 rfl (by decide) _ _ _ rfl ((unhide HOWN).alloc _) ⟨wr.heap.size, 0, none⟩ 1 1 [.string ⟨#[]⟩] rfl rfl (cell_one_new _ _ _) ?c2 ?c3 ?c4 ?c5 ?_) | fail)
        case c2 => first | rfl | (intro u hu; simp at hu; subst hu; rfl)
        case c3 => unfold maxLen; omega
        case c4 => omega
        case c5 => first | omega | (simp; omega)
        intro v' w2 hown' hgrow _
        obtain ⟨⟨q1, q2⟩, q3, q4, q5⟩ := unhide HGO v' w2 [] _ hown' hgrow rfl
        have H3 := hide q3
        have H4 := hide q4
        have H5 := hide q5
        obtain ⟨va, vc, rfl, _⟩ := ownsRow_slice hown'
        clear hown' hgrow q3 q4 q5 HGO
        go_wp2_with fail
        go_roundw
        case rel => exact ⟨k + 1, _, by omega, by go_num, unhide H3, unhide H4, unhide H5⟩
        case measure => simp [intOf]; omega
    · have hkn : k = C.length := by omega
      subst hkn
      have hr6 := (hbw.block w.heap.size (by omega)).trans (unhide HRES)
      obtain ⟨r0, r1, r2, r3⟩ := cells4 hr6
      have hf6 : ∀ j, wr.frozen? ⟨w.heap.size, j, none⟩ = false := fun j => block_frozen hr6 j
      obtain ⟨kva, kvc, rfl, _⟩ := ownsRow_slice hown
      have hne : w1.heap.size ≠ w.heap.size := by omega
      have hfin : Below w.heap.size w (put4 wr w.heap.size (.bool true) (.slice ka C.length kc) (.slice kva C.length kvc) (.slice none 0 0)) :=
        ⟨hbw.os.trans (unhide HL1).os, hbw.tape.trans (unhide HL1).tape, hbw.output.trans (unhide HL1).output, by rw [put4_size]; have := hbw.size; omega, fun j hj => by
          rw [put4_other _ _ _ _ (by omega), hbw.block j (by omega)]; exact (unhide HL1).block j hj⟩
      have hk1 := ownsRow_less (ownsRow_put4 (N := w.heap.size) (ownsRow_below (unhide HO1) hbw) (by omega) (.bool true) (.slice ka C.length kc) (.slice kva C.length kvc) (.slice none 0 0)) (show w.heap.size ≤ w.heap.size + 1 by omega)
      have hk2 := ownsRow_less (ownsRow_put4 (N := w.heap.size) hown (by omega) (.bool true) (.slice ka C.length kc) (.slice kva C.length kvc) (.slice none 0 0)) (show w.heap.size ≤ w1.heap.size + 1 by omega)
      obtain ⟨q0, q1, q2, q3⟩ := cells4 (put4_same (a' := .bool true) (b' := .slice ka C.length kc) (c' := .slice kva C.length kvc) (d' := .slice none 0 0) hr6)
      unfold put4 at hfin hk1 hk2 q0 q1 q2 q3
      have HFIN := hide hfin
      have HK1 := hide hk1
      have HK2 := hide hk2
      clear hown hbw hblk hr6 hfin hk1 hk2 HD
      go_wp2_with fail
      refine bodyPost_ret (v := .agg #[.bool true, .slice ka C.length kc, .slice kva C.length kvc, .slice none 0 0]) (by simp [results, Try.results24, go_sem, q0, q1, q2, q3]) rfl ⟨_, rfl, ⟨_, _, _, rfl, unhide HK1, ?_, World.ownsRow_nil _ _ _ _⟩, unhide HFIN⟩
      rw [valsOf_length]
      exact unhide HK2
end Go.Proofs.Ytochaiinofhdhaa
