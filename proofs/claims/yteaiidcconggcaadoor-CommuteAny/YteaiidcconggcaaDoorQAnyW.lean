/- The walk of CommuteAny. -/
import Derived.Test.YteaiidcconggcaaDoorBundleQ12
import Derived.Test.YteaiidcconggcaaDoorAInts
import Derived.Test.YteaiidcconggcaaDoorTCalls
import Derived.Test.YteaiidcconggcaaDoorBundleT7
import Derived.Test.YteaiidcconggcaaDoorVTold
import Derived.Deep.DeepCutAuto
import Derived.Deep.CutBlock
import Derived.Deep.RegionHeld3
namespace Go.Proofs.YteaiidcconggcaaDoor
open Go.RowKit
set_option linter.unusedVariables false
set_option maxRecDepth 100000

theorem Gq.one {W : World} {p : Addr} {v : Value} (hp : p.block < W.heap.size) (h : W.cell? p = some v) : ∀ w1, Gq W w1 → w1.cell? p = some v := fun w1 hf => (Below.cell hf hp).trans h
/- The steps so far, in memory of the call's own. -/
structure Rq (W : World) (la : Option Addr) (lc : Nat) (l : List Stp) (wr : World) : Prop where
  low : Below W.heap.size W wr
  own : wr.ownsRow W.heap.size 41 7 (.slice la l.length lc) l.length (E7 l)
theorem Rq.later {W wr w5 : World} {la : Option Addr} {lc : Nat} {l : List Stp} (h : Rq W la lc l wr) (hb : Below wr.heap.size wr w5) : Rq W la lc l w5 := ⟨h.low.trans (hb.mono h.low.size), ownsRow_below h.own hb⟩
theorem Calm.nil (s : VS) : Calm s [] := ⟨fun x h => (by cases h), fun x h => (by cases h), List.Pairwise.nil⟩
theorem Calm.snoc {s : VS} {l : List Stp} (h : Calm s l) {y : Stp} (hm : y.1.may) (ly : y.2 ∈ answers s y.1) (hf : ∀ z ∈ l, conM y z = false) : Calm s (l ++ [y]) := by
  refine ⟨fun x hx => ?_, fun x hx => ?_, List.pairwise_append.2 ⟨h.free, List.pairwise_singleton _ _, fun a ha b hb => ?_⟩⟩
  · rcases List.mem_append.mp hx with hx | hx
    · exact h.may x hx
    · rw [List.mem_singleton.mp hx]; exact hm
  · rcases List.mem_append.mp hx with hx | hx
    · exact h.ok x hx
    · rw [List.mem_singleton.mp hx]; exact ly
  · rw [List.mem_singleton.mp hb, conM_symm]
    exact hf a ha
theorem qunder_steps : Tryd.prog.underlying 63 = some (.slice 41) := by kernel_rfl
theorem qinfo_step : (Tryd.prog.info? 41).map (fun i => (i.zero, i.size, i.bytes)) = some (some (.agg #[.int .i64 0, .string ⟨#[]⟩, .string ⟨#[]⟩, .int .i64 0, .int .i64 0, .string ⟨#[]⟩, .int .i64 0]), 7, 80) := by kernel_rfl
theorem qseven_new (w : World) (a b c d e f g : Value) (t : TypeId) {n : Nat} (hn : w.heap.size = n) : ∀ j u, [a, b, c, d, e, f, g][j]? = some u → (w.alloc (.cells #[a, b, c, d, e, f, g] t)).cell? ((⟨n, 0, none⟩ : Addr).add j) = some u := by
  subst hn
  intro j u hu
  rw [plain_add, Nat.zero_add, block_cell (heap_alloc_new w _)]
  match j, hu with
  | 0, hu => exact hu
  | 1, hu => exact hu
  | 2, hu => exact hu
  | 3, hu => exact hu
  | 4, hu => exact hu
  | 5, hu => exact hu
  | 6, hu => exact hu
  | j + 7, hu => simp at hu
theorem Row7.grown {w w' : World} {v : Value} {l : List (MC × MR)} {o : Option Nat} (h : Row7 w v l) (hg : w.grownBy w' o) (ha : ∀ q, v.ownBlock = some q → o ≠ some q) : Row7 w' v l := by
  obtain ⟨a, c, e, h1, h2, h0, h3⟩ := h
  subst e
  refine ⟨a, c, rfl, h1, h2, h0, fun i u hu => ?_⟩
  obtain ⟨b, off, ea, hlt, hc⟩ := h3 i u hu
  subst ea
  refine ⟨b, off, rfl, by have := hg.size; omega, ?_⟩
  rw [World.cell?_of_block (w := w) (hg.block b hlt (fun e => ha b rfl e.symm))]
  exact hc
theorem erase_perm {α : Type} : ∀ (l : List α) (k : Nat) (h : k < l.length), (l[k]'h :: l.eraseIdx k).Perm l
  | x :: r, 0, h => List.Perm.refl _
  | x :: r, k + 1, h => (List.Perm.swap x _ _).trans ((erase_perm r k (by simpa using h)).cons x)
theorem alike_same (s : VS) : s.alike s = true := by simp [VS.alike]
/- The steps that were taken, in memory of the call's own, and those that are left, wherever else. -/
structure Rm (W : World) (ma : Option Addr) (mc : Nat) (lm : List Stp) (ua : Option Addr) (uc : Nat) (ll : List Stp) (wr : World) : Prop where
  low : Below W.heap.size W wr
  own : wr.ownsRow W.heap.size 41 7 (.slice ma lm.length mc) lm.length (E7 lm)
  left : Row7 wr (.slice ua ll.length uc) ll
  apart : ∀ q, (Value.slice ua ll.length uc).ownBlock = some q → (Value.slice ma lm.length mc).ownBlock ≠ some q
theorem Rm.later {W wr w5 : World} {ma ua : Option Addr} {mc uc : Nat} {lm ll : List Stp} (h : Rm W ma mc lm ua uc ll wr) (hb : Below wr.heap.size wr w5) : Rm W ma mc lm ua uc ll w5 := ⟨h.low.trans (hb.mono h.low.size), ownsRow_below h.own hb, h.left.later hb, h.apart⟩
set_option maxHeartbeats 102400000 in
theorem qany_any {w : World} {v : Value} {s : VS} (hs : StAt w v s) (hsn : -9223372036854775808 ≤ s.n ∧ s.n ≤ 9223372036854775807) (hsz : ∀ i (h : i < s.rows.length), (s.rows[i]'h).1.length ≤ maxLen ∧ (s.rows[i]'h).2.length ≤ maxLen)
    (ca : Option Addr) (len cap : Nat) (hlen : (len : Int) ≤ 9223372036854775807) (hrc : RCalls w ca len) (na : Option Addr) (nl nc : Nat) (nz : List Int) (hnz : IsInts w na nl nc nz) (hw : MD w) :
    Calls Tryd.prog 6 #[v, .slice ca len cap, .slice na nl nc] w fun e w' => e = .returned (.bool true) ∧ Below w.heap.size w w' := by
  obtain ⟨i0, hi, hz0, hz1, hz2⟩ := info_parts qinfo_step
  have HTS := hide (fun (w1 : World) (hb : Below w.heap.size w w1) => tstate_any (hs.later hb) hsn hsz)
  have HAW := hide (fun (w1 : World) (hb : Below w.heap.size w w1) => qawake_any (hw.later hb))
  have HMD := hide hw
  have HRC := hide hrc
  have hnl := hnz.len
  unfold maxLen at hnl
  have HNL := hide hnl
  have HNZ := hide (fun (w1 : World) (hb : Below w.heap.size w w1) (i : Nat) (hi : i < nl) => by
    obtain ⟨n, b, off, ea, hlt, hc⟩ := hnz.at i hi
    exact (⟨n, b, off, ea, (hb.cell (p := ⟨b, off + i, none⟩) hlt).trans hc⟩ : ∃ (n : Int) (b off : Nat), na = some ⟨b, off, none⟩ ∧ w1.cell? ⟨b, off + i, none⟩ = some (.int .i64 n)))
  clear hnl hnz
  obtain ⟨k0, rfl, hr⟩ := hs
  obtain ⟨a, c, rfl, hc, hm⟩ := hr.shape
  have HST0 := hide (under_box (w := w) (.cells #[.int .i64 s.kind, .int .i64 s.n, .slice a s.rows.length c] 47))
  have HSB0 := hide (heap_alloc_new w (.cells #[.int .i64 s.kind, .int .i64 s.n, .slice a s.rows.length c] 47))
  clear hr hw hsn hsz hrc
  go_enter Tryd.func6, Tryd.ntmps6
  go_wp2_with fail
  refine (unhide HAW _ (unhide HST0)).mono ?_
  rintro e w0 ⟨rfl, hb0⟩
  have HL0 := hide ((unhide HST0).trans (hb0.mono (unhide HST0).size))
  obtain ⟨d0, d1, d2, _⟩ := cell3 ((hb0.block _ (block_lt (unhide HSB0))).trans (unhide HSB0))
  clear hb0 HST0 HSB0 HAW
  go_wp2_with fail
  refine (unhide HTS _ (unhide HL0)).mono ?_
  rintro e w1 ⟨v1, rfl, x, hmay, hxn, ⟨kx, rfl, hox⟩, hb1⟩
  obtain ⟨xa, xc, rfl, _⟩ := ownsRow_slice hox
  have hb1a := hb1.trans ((under_box (.cells #[.int .i64 x.kind, .int .i64 x.n, .slice xa x.rows.length xc] 38)).mono hb1.size)
  have HL1 := hide ((unhide HL0).trans (hb1a.mono (unhide HL0).size))
  have HXO1 := hide (ownsRow_less (hox.alloc (.cells #[.int .i64 x.kind, .int .i64 x.n, .slice xa x.rows.length xc] 38)) (Nat.zero_le _))
  have HXB1 := hide (heap_alloc_new w1 (.cells #[.int .i64 x.kind, .int .i64 x.n, .slice xa x.rows.length xc] 38))
  have HMAY := hide hmay
  have HXN := hide hxn
  clear hmay hxn hox hb1 hb1a d0 d1 d2 HTS HL0
  go_wp2_with fail
  refine (own_any (s := x) ⟨_, rfl, Row2.of_own (unhide HXO1)⟩ (by have := may_few (unhide HMAY); omega)).mono ?_
  rintro e w2 ⟨v2, rfl, ⟨k2, rfl, hoo⟩, hb2⟩
  obtain ⟨oa, oc, rfl, _⟩ := ownsRow_slice hoo
  obtain ⟨w3, hw3⟩ : ∃ w3, w2.alloc (.cells #[.int .i64 x.kind, .int .i64 x.n, .slice oa x.rows.length oc] 47) = w3 := ⟨_, rfl⟩
  have hb3 : Below (w1.alloc (.cells #[.int .i64 x.kind, .int .i64 x.n, .slice xa x.rows.length xc] 38)).heap.size (w1.alloc (.cells #[.int .i64 x.kind, .int .i64 x.n, .slice xa x.rows.length xc] 38)) w3 := by rw [← hw3]; exact hb2.trans ((under_box _).mono hb2.size)
  have HL3 := hide ((unhide HL1).trans (hb3.mono (unhide HL1).size))
  have HXO := hide (ownsRow_below (unhide HXO1) hb3)
  have HXB := hide ((hb3.block _ (block_lt (unhide HXB1))).trans (unhide HXB1))
  have HOB : Hid (w3.heap[w2.heap.size]? = some (.cells #[.int .i64 x.kind, .int .i64 x.n, .slice oa x.rows.length oc] 47 (0, 0))) := by show _ = _; rw [← hw3]; exact heap_alloc_new w2 _
  have HOO : Hid (w3.ownsRow 0 82 2 (.slice oa x.rows.length oc) x.rows.length (R9 x.rows)) := by show World.ownsRow _ _ _ _ _ _ _; rw [← hw3]; exact ownsRow_less (hoo.alloc _) (Nat.zero_le _)
  have HRC3 := hide ((unhide HRC).later (unhide HL3))
  clear hoo hb2 hb3 HL1 HXO1 HXB1 HRC
  go_upto_block 0 with fail
  try rw [hw3]
  clear hw3
  go_cut [9] (fun lv wx => ∃ (l : List Stp) (la : Option Addr) (lc : Nat), lv = .slice la l.length lc ∧ l.length ≤ 8 ∧ Calm x l ∧ Rq w3 la lc l wx)
  case first =>
    go_wp2_with fail
    go_loopw [9, 10, 11, 13, 14] (fun lv iv _ _ _ wr => ∃ (i : Nat) (l : List Stp) (la : Option Addr) (lc : Nat), i ≤ len ∧ i ≤ 8 ∧ l.length ≤ i ∧ lv = .slice la l.length lc ∧ iv = .int .i64 (i : Int) ∧ Calm x l ∧ Rq w3 la lc l wr) (fun _ iv _ _ _ _ => 8 - (intOf iv).toNat)
    case atStart => exact ⟨0, [], none, 0, Nat.zero_le _, Nat.zero_le _, Nat.zero_le _, rfl, rfl, Calm.nil _, Below.refl _ _, World.ownsRow_nil _ _ _ _⟩
    case round =>
      obtain ⟨i, l, la, lc, hil, hi8, hli, rfl, rfl, hcm, hrr⟩ := hrel
      have HCM := hide hcm
      have HRR := hide hrr
      clear hcm hrr
      by_cases hlt : i < len
      · have j1 : (i : Int) < ((len : Nat) : Int) := by omega
        by_cases h8 : i < 8
        · have j2 : (i : Int) < 8 := by omega
          have hi0 : (0 : Int) ≤ (i : Int) := by omega
          obtain ⟨op, ta, tb, cn, ⟨cb, off, rfl, hcb, g0, g1, g2, g3⟩, hop, hcn, hta, htb⟩ := unhide HRC3 i hlt
          have hlow := (unhide HRR).low
          have hcb2 : cb < wr.heap.size := by have := hlow.size; omega
          have m0 := Gq.one (W := wr) (p := ⟨cb, off + i * 4, none⟩) hcb2 ((hlow.cell (p := ⟨cb, off + i * 4, none⟩) hcb).trans g0)
          have m1 := Gq.one (W := wr) (p := ⟨cb, off + i * 4 + 1, none⟩) hcb2 ((hlow.cell (p := ⟨cb, off + i * 4 + 1, none⟩) hcb).trans g1)
          have m2 := Gq.one (W := wr) (p := ⟨cb, off + i * 4 + 2, none⟩) hcb2 ((hlow.cell (p := ⟨cb, off + i * 4 + 2, none⟩) hcb).trans g2)
          have m3 := Gq.one (W := wr) (p := ⟨cb, off + i * 4 + 3, none⟩) hcb2 ((hlow.cell (p := ⟨cb, off + i * 4 + 3, none⟩) hcb).trans g3)
          obtain ⟨xc0, xc1, xc2⟩ := Gq.cell3 ((hlow.block _ (block_lt (unhide HXB))).trans (unhide HXB))
          have HOF : Hid (∀ wz, Below wr.heap.size wr wz → Calls Tryd.prog 10 #[.agg #[.int .i64 x.kind, .int .i64 x.n, .slice xa x.rows.length xc], .agg #[.int .i64 op, .string ta, .string tb, .int .i64 cn]] wz fun e w' => ∃ V : MC, e = .returned (mcV V) ∧ V.may ∧ Below wz.heap.size wz w') := fun wz hf => of_any (s := x) ⟨_, rfl, Row2.of_own (ownsRow_below (unhide HXO) (hlow.trans (hf.mono hlow.size)))⟩ op ta tb cn hop hcn hta htb
          clear hlow g0 g1 g2 g3 hop hcn hta htb hcb hcb2
          go_upto_region 9 with fail
          refine regN [.val 39 (Res.plain (.agg #[.int .i64 x.kind, .int .i64 x.n, .slice xa x.rows.length xc]) []), .val 40 (Res.plain (.slice (some ⟨cb, off, none⟩) len cap) []), .val 41 (Res.plain (.int .i64 (i : Int)) []), .val 42 (Res.plain (.pointer (some ⟨cb, off + i * 4, none⟩)) []), .val 43 (Res.plain (.agg #[.int .i64 op, .string ta, .string tb, .int .i64 cn]) []), .val 44 Res.mc, .box 11 4 29, .put 5 6] (fun i => if i = 3 then [1, 2] else if i = 4 then [3] else if i = 5 then [0, 4] else []) ?_ ?_ ?_ ?_ ?_ ?_ ?_ (fun i hi => ?_) ?_
          · kernel_rfl
          · rfl
          · kernel_rfl
          · kernel_rfl
          · kernel_rfl
          · kernel_rfl
          · kernel_rfl
          · have hc : i = 0 ∨ i = 1 ∨ i = 2 ∨ i = 3 ∨ i = 4 ∨ i = 5 ∨ i = 6 ∨ i = 7 := by have : i < 8 := hi; omega
            clear hi
            rcases hc with rfl | rfl | rfl | rfl | rfl | rfl | rfl | rfl
            · with_reducible refine DoesN.plain (s := 39) (v := .agg #[.int .i64 x.kind, .int .i64 x.n, .slice xa x.rows.length xc]) ?_ ?_
              · rfl
              intro f wz K hb hd hK
              have d0 := xc0 _ hb
              have d1 := xc1 _ hb
              have d2 := xc2 _ hb
              simp only [setN, upd, Nat.reduceAdd, Nat.reduceEqDiff, reduceIte, List.setIfInBounds_toArray, List.set_cons_zero, List.set_cons_succ] at hK ⊢
              refine wpOp_do rfl (by kernel_rfl) ?_
              unfold Oper.wp execOp
              go_simp
              exact hK _ (Below.refl _ _)
            · with_reducible refine DoesN.plain (s := 40) (v := .slice (some ⟨cb, off, none⟩) len cap) ?_ ?_
              · rfl
              intro f wz K hb hd hK
              simp only [setN, upd, Nat.reduceAdd, Nat.reduceEqDiff, reduceIte, List.setIfInBounds_toArray, List.set_cons_zero, List.set_cons_succ] at hK ⊢
              refine wpOp_do rfl (by kernel_rfl) ?_
              unfold Oper.wp execOp
              go_simp
              exact hK _ (Below.refl _ _)
            · with_reducible refine DoesN.plain (s := 41) (v := .int .i64 (i : Int)) ?_ ?_
              · rfl
              intro f wz K hb hd hK
              simp only [setN, upd, Nat.reduceAdd, Nat.reduceEqDiff, reduceIte, List.setIfInBounds_toArray, List.set_cons_zero, List.set_cons_succ] at hK ⊢
              refine wpOp_do rfl (by kernel_rfl) ?_
              unfold Oper.wp execOp
              go_simp
              exact hK _ (Below.refl _ _)
            · with_reducible refine DoesN.plain (s := 42) (v := .pointer (some ⟨cb, off + i * 4, none⟩)) ?_ ?_
              · rfl
              intro f wz K hb hd hK
              have e1 : f 1 = .slice (some ⟨cb, off, none⟩) len cap := plainAt (s := 40) (cs := []) (hd 1 (by decide)) rfl
              have e2 : f 2 = .int .i64 (i : Int) := plainAt (s := 41) (cs := []) (hd 2 (by decide)) rfl
              simp only [setN, upd, Nat.reduceAdd, Nat.reduceEqDiff, reduceIte, List.setIfInBounds_toArray, List.set_cons_zero, List.set_cons_succ] at hK ⊢
              simp only [e1, e2] at hK ⊢
              refine wpOp_do rfl (by kernel_rfl) ?_
              unfold Oper.wp execOp
              go_simp
              exact hK _ (Below.refl _ _)
            · with_reducible refine DoesN.plain (s := 43) (v := .agg #[.int .i64 op, .string ta, .string tb, .int .i64 cn]) ?_ ?_
              · rfl
              intro f wz K hb hd hK
              have e3 : f 3 = .pointer (some ⟨cb, off + i * 4, none⟩) := plainAt (s := 42) (cs := []) (hd 3 (by decide)) rfl
              have d0 := m0 _ hb
              have d1 := m1 _ hb
              have d2 := m2 _ hb
              have d3 := m3 _ hb
              simp only [setN, upd, Nat.reduceAdd, Nat.reduceEqDiff, reduceIte, List.setIfInBounds_toArray, List.set_cons_zero, List.set_cons_succ] at hK ⊢
              simp only [e3] at hK ⊢
              refine wpOp_do rfl (by kernel_rfl) ?_
              unfold Oper.wp execOp
              go_simp
              exact hK _ (Below.refl _ _)
            · with_reducible refine DoesN.val (s := 44) (R := Res.mc) ?_ ?_
              · rfl
              intro f wz K hb hd hK
              have e0 : f 0 = .agg #[.int .i64 x.kind, .int .i64 x.n, .slice xa x.rows.length xc] := plainAt (s := 39) (cs := []) (hd 0 (by decide)) rfl
              have e4 : f 4 = .agg #[.int .i64 op, .string ta, .string tb, .int .i64 cn] := plainAt (s := 43) (cs := []) (hd 4 (by decide)) rfl
              simp only [setN, upd, Nat.reduceAdd, Nat.reduceEqDiff, reduceIte, List.setIfInBounds_toArray, List.set_cons_zero, List.set_cons_succ] at hK ⊢
              simp only [e0, e4] at hK ⊢
              refine wpOp_do rfl (by kernel_rfl) ?_
              unfold Oper.wp execOp
              go_simp
              refine (unhide HOF _ hb).mono ?_
              rintro e w' ⟨V, rfl, hV, hb'⟩
              exact hK _ _ hb' ⟨V, hV, rfl⟩ (fun k h => by cases h)
            · with_reducible refine DoesN.box (s := 11) (n := 4) (t := 29) ?_ ?_
              · rfl
              intro f wz K
              refine ⟨[.int .i64 0, .string ⟨#[]⟩, .string ⟨#[]⟩, .int .i64 0], rfl, fun hK => ?_⟩
              unfold ptr at hK
              simp only [setN, upd, Nat.reduceAdd, Nat.reduceEqDiff, reduceIte, List.setIfInBounds_toArray, List.set_cons_zero, List.set_cons_succ] at hK ⊢
              refine wpOp_do rfl (by kernel_rfl) ?_
              unfold Oper.wp execOp
              go_simp
              exact hK
            · with_reducible refine DoesN.put (c := 5) (b := 6) (s := 44) (R := Res.mc) (s' := 11) (n := 4) (t := 29) ?_ ?_ ?_ ?_
              · rfl
              · rfl
              · rfl
              intro f wz K q ys eb hy hq hF hK
              obtain ⟨V, hV, ev⟩ := hF
              have ec := ev
              simp only [ec, Res.mc, stCells, mcV] at hK
              simp only [setN, Nat.reduceAdd, List.setIfInBounds_toArray, List.set_cons_zero, List.set_cons_succ] at hK ⊢
              simp only [ec, eb, mcV] at hK ⊢
              match ys, hy with
              | [y1, y2, y3, y4], _ =>
              obtain ⟨d0, d1, d2, d3, fz⟩ := cell4 hq
              unfold ptr at *
              simp only [putL] at hK
              refine wpOp_do rfl (by kernel_rfl) ?_
              unfold Oper.wp execOp
              go_simp
              exact hK
          · intro f wE hbE hv hp hne ho
            have h0 : f 0 = .agg #[.int .i64 x.kind, .int .i64 x.n, .slice xa x.rows.length xc] := plainAt (s := 39) (cs := []) (hv 0) rfl
            have h1 : f 1 = .slice (some ⟨cb, off, none⟩) len cap := plainAt (s := 40) (cs := []) (hv 1) rfl
            have h2 : f 2 = .int .i64 (i : Int) := plainAt (s := 41) (cs := []) (hv 2) rfl
            have h3 : f 3 = .pointer (some ⟨cb, off + i * 4, none⟩) := plainAt (s := 42) (cs := []) (hv 3) rfl
            have h4 : f 4 = .agg #[.int .i64 op, .string ta, .string tb, .int .i64 cn] := plainAt (s := 43) (cs := []) (hv 4) rfl
            simp only [setN, Nat.reduceAdd, List.setIfInBounds_toArray, List.set_cons_zero, List.set_cons_succ]
            simp only [h0, h1, h2, h3, h4]
            clear h0 h1 h2 h3 h4
            obtain ⟨qA, eA, gA, bA⟩ := putAt (c := 5) (b := 6) (s := 44) (R := Res.mc) (s' := 11) (n := 4) (t := 29) (hp 7) rfl rfl rfl
            obtain ⟨V, hV, ex⟩ := factAt (s := 44) (R := Res.mc) (hv 5) rfl
            simp only [ex, Res.mc, stCells, mcV] at bA
            simp only [eA, ex, ptr, mcV]
            have HRR1 := hide ((unhide HRR).later hbE)
            have HD := hide bA
            have HV := hide hV
            have hop := MC.may_op hV
            have hlow1 := (unhide HRR1).low
            obtain ⟨x0, x1, x2, _⟩ := cell3 ((hlow1.block _ (block_lt (unhide HXB))).trans (unhide HXB))
            obtain ⟨d0, d1, d2, d3, _⟩ := cell4 bA
            obtain ⟨A, hA⟩ : ∃ A, answers x V = A := ⟨_, rfl⟩
            have HLA := hide hA
            have hal : A.length ≤ 200 := by rw [← hA]; have := answers_len x V; have := may_few (unhide HMAY); omega
            have HAN := hide (ranswers_any (c := V) (s := x) ⟨_, rfl, Row2.of_own (ownsRow_below (unhide HXO) hlow1)⟩ (by have := may_few (unhide HMAY); omega) hop)
            rw [hA] at HAN
            clear hv hp hne ho ex eA gA bA hbE hV hop hlow1 hA HRR HOF m0 m1 m2 m3 xc0 xc1 xc2
            go_wp2_with fail
            refine (unhide HAN).mono ?_
            rintro e w5 ⟨v5, rfl, hra, hb5⟩
            obtain ⟨sa, sc, rfl, hsc, hsm⟩ := hra.shape
            have HRA := hide hra
            have HRR5 := hide ((unhide HRR1).later hb5)
            have HD5 := hide ((hb5.block _ (block_lt (unhide HD))).trans (unhide HD))
            clear x0 x1 x2 d0 d1 d2 d3 hb5 hra HAN HRR1 HD
            go_wp2_with fail
            go_loopw [9, 49, 13, 14] (fun lv iv _ _ wr => lv = .slice la l.length lc ∧ ∃ k : Nat, k ≤ A.length ∧ iv = .int .i64 (k : Int) ∧ Below w5.heap.size w5 wr) (fun _ iv _ _ _ => A.length - (intOf iv).toNat)
            case atStart => exact ⟨rfl, 0, Nat.zero_le _, rfl, Below.refl _ _⟩
            case round =>
              obtain ⟨rfl, k, hk, rfl, hlow⟩ := hrel
              by_cases hlt : k < A.length
              · have k1 : (k : Int) < ((A.length : Nat) : Int) := by omega
                have k0 : (0 : Int) ≤ (k : Int) := by omega
                obtain ⟨bA, oA, rfl, hbA, f0, f1, f2⟩ := (unhide HRA).at k hlt
                rw [← hlow.cell (p := ⟨bA, oA + k * 3, none⟩) hbA] at f0
                rw [← hlow.cell (p := ⟨bA, oA + k * 3 + 1, none⟩) hbA] at f1
                rw [← hlow.cell (p := ⟨bA, oA + k * 3 + 2, none⟩) hbA] at f2
                have HIN := hide (show A[k]'hlt ∈ answers x V by rw [unhide HLA]; exact List.getElem_mem hlt)
                generalize A[k]'hlt = q at *
                obtain ⟨q1, q2, q3⟩ := q
                dsimp only at *
                have hne : wr.heap.size ≠ bA := by have := hlow.size; omega
                obtain ⟨W6, hW6⟩ : ∃ W6, wr.alloc (.cells #[.int .i64 q1, .string (S q2), .int .i64 q3] 30) = W6 := ⟨_, rfl⟩
                have hb6 : Below wr.heap.size wr W6 := by rw [← hW6]; exact under_box _
                have hr6 : W6.heap[wr.heap.size]? = some (.cells #[.int .i64 q1, .string (S q2), .int .i64 q3] 30 (0, 0)) := by rw [← hW6]; exact heap_alloc_new wr _
                have hl6 := hlow.trans (hb6.mono hlow.size)
                have HL6 := hide hl6
                have hd6 := (hl6.block _ (block_lt (unhide HD5))).trans (unhide HD5)
                have HOW := hide (lown_any (w := W6) V ⟨q1, q2, q3⟩)
                unfold mcV mrV stV at HOW
                dsimp only at HOW
                have HHI := hide hlow
                clear hlow hb6 hl6
                go_upto_region 13 with fail
                try rw [hW6]
                clear hW6 f0 f1 f2
                obtain ⟨r0, r1, r2, _⟩ := cell3 hr6
                obtain ⟨d0, d1, d2, d3, _⟩ := cell4 hd6
                clear hr6 hd6
                go_wp2_with fail
                refine (unhide HOW).mono ?_
                rintro e w7 ⟨rfl, hb7⟩
                obtain ⟨W8, hW8⟩ : ∃ W8, w7.alloc (.cells #[.int .i64 V.op, .string (S V.a), .string (S V.b), .int .i64 V.n, .int .i64 q1, .string (S q2), .int .i64 q3] 41) = W8 := ⟨_, rfl⟩
                have hb8 : Below w7.heap.size w7 W8 := by rw [← hW8]; exact under_box _
                have hy8 : W8.heap[w7.heap.size]? = some (.cells #[.int .i64 V.op, .string (S V.a), .string (S V.b), .int .i64 V.n, .int .i64 q1, .string (S q2), .int .i64 q3] 41 (0, 0)) := by rw [← hW8]; exact heap_alloc_new w7 _
                have hl8 := ((unhide HL6).trans (hb7.mono (unhide HL6).size)).trans (hb8.mono ((unhide HL6).trans (hb7.mono (unhide HL6).size)).size)
                have HL8 := hide hl8
                have hrr8 := (unhide HRR5).later hl8
                have HRR8 := hide hrr8
                have HY8 := hide hy8
                have HAM := hide (among_any (w := W8) ((unhide HMD).later ((unhide HL3).trans (hrr8.low.mono (unhide HL3).size))) (V, ⟨q1, q2, q3⟩) (MC.may_op (unhide HV)) (Row7.of_own hrr8.own) (fun z hz => MC.may_op ((unhide HCM).may z hz)) (by omega))
                unfold stV at HAM
                dsimp only at HAM
                clear hb7 hb8 hl8 hrr8 r0 r1 r2 d0 d1 d2 d3 HOW HL6 HHI
                go_upto_region 14 with fail
                try rw [hW8]
                clear hW8
                obtain ⟨p0, p1, p2, p3, p4, p5, p6⟩ := cells7 hy8
                clear hy8
                go_wp2_with fail
                refine (unhide HAM).mono ?_
                rintro e w9 ⟨j, rfl, hj, hb9⟩
                have HJ := hide hj
                have hy9 := (hb9.block _ (block_lt (unhide HY8))).trans (unhide HY8)
                have HRR9 := hide ((unhide HRR8).later hb9)
                have HL9 := hide ((unhide HL8).trans (hb9.mono (unhide HL8).size))
                clear hj hb9 HAM p0 p1 p2 p3 p4 p5 p6 HRR8 HY8 HL8
                by_cases hjn : j < 0
                · obtain ⟨p0, p1, p2, p3, p4, p5, p6⟩ := cells7 hy9
                  have HCS := hide ((unhide HCM).snoc (y := (V, ⟨q1, q2, q3⟩)) (unhide HV) (unhide HIN) (fun z hz => by rw [conM_symm]; have := ((unhide HJ).1 hjn); first | exact (by rw [conM_symm]; exact this z hz) | exact (by rw [conM_symm]; exact this z.1 z.2 hz)))
                  have hll : l.length ≤ 8 := by omega
                  have hsz9 := (unhide HRR9).low.size
                  clear hy9
                  go_wp2_with (first | (at_builtin; refine wpList_append_fresh rfl _ _ 63 rfl w3.heap.size 41 i0 (.agg #[.int .i64 0, .string ⟨#[]⟩, .string ⟨#[]⟩, .int .i64 0, .int .i64 0, .string ⟨#[]⟩, .int .i64 0]) 7 80 qunder_steps hi hz0 hz1 hz2 rfl (by decide) _ _ _ rfl ((unhide HRR9).own.alloc _) ⟨w9.heap.size, 0, none⟩ 1 1 [.int .i64 V.op, .string (S V.a), .string (S V.b), .int .i64 V.n, .int .i64 q1, .string (S q2), .int .i64 q3] rfl rfl (by exact qseven_new _ _ _ _ _ _ _ _ _ rfl) ?c2 ?c3 ?c4 ?c5 ?_) | fail)
                  case c2 => intro u hu; simp at hu; rcases hu with rfl | rfl | rfl | rfl | rfl | rfl | rfl <;> rfl
                  case c3 => unfold maxLen; omega
                  case c4 => omega
                  case c5 => simp; omega
                  intro v' wg hown' hgrow _
                  obtain ⟨ua, uc, rfl, _⟩ := ownsRow_slice hown'
                  have HRG : Hid (Rq w3 ua uc (l ++ [(V, ⟨q1, q2, q3⟩)]) wg) := by
                    have hra9 := (unhide HRR9).later (under_box (.cells #[.int .i64 V.op, .string (S V.a), .string (S V.b), .int .i64 V.n, .int .i64 q1, .string (S q2), .int .i64 q3] 41))
                    refine ⟨hra9.low.grown hgrow hra9.low.size (fun k e => (hra9.own.lt k e).1), ?_⟩
                    rw [E7_append, List.length_append]
                    exact hown'
                  clear hown' hgrow p0 p1 p2 p3 p4 p5 p6
                  go_wp2_with fail
                  go_roundw
                  case rel => exact ⟨i + 1, l ++ [(V, ⟨q1, q2, q3⟩)], ua, uc, by omega, by omega, by simp; omega, by simp, by go_num, unhide HCS, unhide HRG⟩
                  case measure => simp [intOf]; omega
                · clear hy9
                  go_wp2_with fail
                  go_roundw
                  case rel => exact ⟨rfl, k + 1, by omega, by go_num, unhide HL9⟩
                  case measure => simp [intOf]; omega
              · have hkn : k = A.length := by omega
                subst hkn
                have j9 : ¬ ((A.length : Nat) : Int) < ((A.length : Nat) : Int) := by omega
                have HRF := hide ((unhide HRR5).later hlow)
                clear hlow
                go_wp2_with fail
                go_roundw
                case rel => exact ⟨i + 1, l, la, lc, by omega, by omega, by omega, rfl, by go_num, unhide HCM, unhide HRF⟩
                case measure => simp [intOf]; omega
        · have j2 : ¬ (i : Int) < 8 := by omega
          go_wp2_with fail
          go_meet
          exact ⟨l, la, lc, rfl, by omega, unhide HCM, unhide HRR⟩
      · have j1 : ¬ (i : Int) < ((len : Nat) : Int) := by omega
        go_wp2_with fail
        go_meet
        exact ⟨l, la, lc, rfl, by omega, unhide HCM, unhide HRR⟩
  case rest =>
  obtain ⟨l, la, lc, rfl, hl8, hcm, hrr⟩ := hcut
  rename World => wx
  have HCM := hide hcm
  have HRR := hide hrr
  have HE0 : Hid ((wx.alloc (.cells #[] 41)).ownsRow wx.heap.size 41 7 (.slice (some ⟨wx.heap.size, 0, none⟩) 0 0) 0 []) := World.ownsRow_lit wx #[] 0 (Nat.le_refl _) (by simp [maxLen]) (by simp)
  have HNE0 : Hid (Value.slice (some ⟨wx.heap.size, 0, none⟩) 0 0 ≠ Value.slice none 0 0) := by
    show _ ≠ _
    simp
  have hbe : Below wx.heap.size wx (wx.alloc (.cells #[] 41)) := (Below.refl _ _).alloc (Nat.le_refl _) _
  have HBE := hide hbe
  have HS0 := hide (((Row7.of_own hrr.own).later hbe).src qunder_steps)
  clear hcm hrr hbe
  go_wp2_with (first | (at_builtin; refine wpList_append_src rfl _ _ 63 63 rfl wx.heap.size 41 i0 (.agg #[.int .i64 0, .string ⟨#[]⟩, .string ⟨#[]⟩, .int .i64 0, .int .i64 0, .string ⟨#[]⟩, .int .i64 0]) 7 80 qunder_steps hi hz0 hz1 hz2 rfl (by decide) _ _ _ rfl (unhide HE0) (unhide HNE0) _ _ _ rfl (unhide HS0) ?c3 ?c4 ?c5 ?_) | fail)
  case c3 => unfold maxLen; omega
  case c4 => omega
  case c5 => simp
  intro x4 v4 hown4 hgrow4 _ _
  have hb4 : Below wx.heap.size wx v4 := (unhide HBE).grown hgrow4 (by simp) (fun j hj => ((unhide HE0).lt j hj).1)
  obtain ⟨ua0, uc0, rfl, _⟩ := ownsRow_slice hown4
  have HRM0 : Hid (Rm v4 none 0 [] ua0 uc0 l v4) := ⟨Below.refl _ _, World.ownsRow_nil _ _ _ _, Row7.of_own hown4, fun q hq e => by cases e⟩
  have HRR4 := hide ((unhide HRR).later hb4)
  have HL4 := hide ((unhide HL3).trans ((unhide HRR4).low.mono (unhide HL3).size))
  clear hown4 hgrow4 hb4 HE0 HNE0 HBE HS0 HRR
  go_wp2_with fail
  go_loopw [15, 16, 17, 18] (fun mv lv iv _ wr => ∃ (lm ll : List Stp) (ma ua : Option Addr) (mc uc : Nat), mv = .slice ma lm.length mc ∧ lv = .slice ua ll.length uc ∧ iv = .int .i64 ((lm.length : Nat) : Int) ∧ (lm ++ ll).Perm l ∧ Rm v4 ma mc lm ua uc ll wr) (fun _ _ iv _ _ => l.length - (intOf iv).toNat)
  case atStart => exact ⟨[], l, none, ua0, 0, uc0, rfl, rfl, rfl, List.Perm.refl _, unhide HRM0⟩
  case round =>
    obtain ⟨lm, ll, ma, ua, mc, uc, rfl, rfl, rfl, hperm, hrm⟩ := hrel
    have HRM := hide hrm
    have HP := hide hperm
    have hpl : lm.length + ll.length = l.length := by have := hperm.length_eq; rw [List.length_append] at this; exact this
    have hlw := (unhide HL4).trans (hrm.low.mono (unhide HL4).size)
    have HLW := hide hlw
    by_cases hll : 0 < ll.length
    · obtain ⟨b, off, rfl, hblt, _⟩ := hrm.left.at 0 hll
      have hcap : ll.length ≤ uc ∧ uc ≤ maxLen := by obtain ⟨a', c', e, h1, h2⟩ := hrm.left.shape; injection e with e1 e2 e3; subst e3; exact ⟨h1, h2⟩
      have HBL := hide hblt
      have HCP := hide hcap
      clear hperm hrm hlw hblt hcap
      go_upto_if 76 with fail
      go_cut [18] (fun kv wy => wy = wr ∧ ∃ p : Nat, p < ll.length ∧ kv = .int .i64 (p : Int))
      case first =>
        by_cases hio : lm.length < nl
        · obtain ⟨n, ob, oo, rfl, hcell⟩ := unhide HNZ _ (unhide HLW) lm.length hio
          have j1 : ((lm.length : Nat) : Int) < ((nl : Nat) : Int) := by omega
          have j0 : (0 : Int) ≤ ((lm.length : Nat) : Int) := by omega
          obtain ⟨m, p, hm, hp, hpl2⟩ := mask_rem n ll.length hll
          have j2 : ¬ ((ll.length : Nat) : Int) = 0 := by omega
          go_wp2_with fail
          go_meet
          exact ⟨rfl, p, hpl2, by go_num⟩
        · have j1 : ¬ ((lm.length : Nat) : Int) < ((nl : Nat) : Int) := by omega
          go_wp2_with fail
          go_meet
          exact ⟨rfl, 0, hll, rfl⟩
      case rest =>
      obtain ⟨rfl, p, hpl2, rfl⟩ := hcut
      rename World => wc
      obtain ⟨b', off', e', _, f0, f1, f2, f3, f4, f5, f6⟩ := (unhide HRM).left.at p hpl2
      cases e'
      have hcap := unhide HCP
      have hblt := unhide HBL
      have g0 : (0 : Int) ≤ (p : Int) := by omega
      have g1 : (p : Int) < ((ll.length : Nat) : Int) := by omega
      have HPN := hide (show ((lm ++ [ll[p]'hpl2]) ++ ll.eraseIdx p).Perm l by
        rw [List.append_assoc]
        exact (List.Perm.append_left lm (erase_perm ll p hpl2)).trans (unhide HP))
      generalize ll[p]'hpl2 = q at *
      obtain ⟨⟨q1, q2, q3, q4⟩, ⟨q5, q6, q7⟩⟩ := q
      dsimp only at *
      clear HBL
      go_wp2_with (first | (at_builtin; refine wpList_append_fresh rfl _ _ 63 rfl v4.heap.size 41 i0 (.agg #[.int .i64 0, .string ⟨#[]⟩, .string ⟨#[]⟩, .int .i64 0, .int .i64 0, .string ⟨#[]⟩, .int .i64 0]) 7 80 qunder_steps hi hz0 hz1 hz2 rfl (by decide) _ _ _ rfl ((unhide HRM).own.alloc _) ⟨wc.heap.size, 0, none⟩ 1 1 [.int .i64 q1, .string (S q2), .string (S q3), .int .i64 q4, .int .i64 q5, .string (S q6), .int .i64 q7] rfl rfl (by exact qseven_new _ _ _ _ _ _ _ _ _ rfl) ?c2 ?c3 ?c4 ?c5 ?_) | fail)
      case c2 => intro u hu; simp at hu; rcases hu with rfl | rfl | rfl | rfl | rfl | rfl | rfl <;> rfl
      case c3 => unfold maxLen; omega
      case c4 => omega
      case c5 => have := (unhide HRM).low.size; simp; omega
      intro v' wg hown' hgrow hblk
      obtain ⟨ma', mc', rfl, _⟩ := ownsRow_slice hown'
      have HRG : Hid (Rm v4 ma' mc' (lm ++ [(⟨q1, q2, q3, q4⟩, ⟨q5, q6, q7⟩)]) (some ⟨b, off, none⟩) uc ll wg) := by
        have hra := (unhide HRM).later (under_box (w := wc) (.cells #[.int .i64 q1, .string (S q2), .string (S q3), .int .i64 q4, .int .i64 q5, .string (S q6), .int .i64 q7] 41))
        refine ⟨hra.low.grown hgrow hra.low.size (fun k e => (hra.own.lt k e).1), ?_, hra.left.grown hgrow (fun q hq e => hra.apart q hq e), fun q hq e => ?_⟩
        · rw [E7_append, List.length_append]
          exact hown'
        · have e2 : (Value.slice ma' (lm.length + 1) mc').ownBlock = some q := by simpa using e
          rcases hblk with h | h
          · exact hra.apart q hq (by rw [← h]; exact e2)
          · have h1 := h q e2
            have h2 : some b = some q := hq
            injection h2 with h2
            omega
      obtain ⟨o2, ho2, eo2⟩ : ∃ o2, (o2 = off + (p + 1) * 7 ∨ ll.length - (p + 1) = 0) ∧ (if uc = p + 1 then (some ⟨b, off, none⟩ : Option Addr) else some ⟨b, off + (p + 1) * 7, none⟩) = some ⟨b, o2, none⟩ := by
        by_cases h : uc = p + 1
        · exact ⟨off, Or.inr (by omega), by rw [if_pos h]⟩
        · exact ⟨_, Or.inl rfl, by rw [if_neg h]⟩
      have g2 : p ≤ uc := by omega
      have g3 : p + 1 ≤ ll.length := by omega
      have g5 : (0 : Int) ≤ (p : Int) + 1 := by omega
      have g6 : (p : Int) + 1 ≤ ((ll.length : Nat) : Int) := by omega
      have g4 : IntKind.i64.wrap ((p : Int) + 1) = ((p + 1 : Nat) : Int) := by rw [IntKind.wrap_i64]; omega
      have HCT : Hid (∀ wz, Below wg.heap.size wg wz → ∃ v' w', (Builtin.append_ #[63, 63] 63 #[.slice (some ⟨b, off, none⟩) p p, .slice (some ⟨b, o2, none⟩) (ll.length - (p + 1)) (uc - (p + 1))]).run Tryd.prog wz = .ok v' w' ∧ Row7 w' v' (ll.eraseIdx p) ∧ Below wz.heap.size wz w' ∧ (∀ q, v'.ownBlock = some q → q = b ∨ wz.heap.size ≤ q)) := fun wz hf => ((unhide HRG).left.later hf).cutRun qunder_steps hi hz0 hz1 hz2 rfl p hpl2 (by omega) o2 ho2
      clear hown' hgrow hblk f0 f1 f2 f3 f4 f5 f6
      go_upto_region 26 with fail
      refine wp_region_held_drew (S := fun w' => Below wg.heap.size wg w') (by kernel_rfl) ?_ (fun hHeld => ?_)
      · exact (Below.refl _ _).drew
      refine wpAnyH_take (i := 0) (oi := { dst := some 92, op := _, type := _, pos := _, after := _, guard := _ }) (v := ?_) rfl (by kernel_rfl) (by kernel_rfl) (by kernel_rfl) (fun _ _ _ h => h) (Or.inl ⟨by kernel_rfl, ?_⟩) (by assumption) ?_
      rotate_left
      · intro w hSw; (try dsimp only at hSw); go_simp; try (with_reducible rfl)
      try simp only [Act.put, List.setIfInBounds_toArray, List.set_cons_zero, List.set_cons_succ]
      refine wpAnyH_take (i := 1) (oi := { dst := some 93, op := _, type := _, pos := _, after := _, guard := _ }) (v := ?_) rfl (by kernel_rfl) (by kernel_rfl) (by kernel_rfl) (fun _ _ _ h => h) (Or.inl ⟨by kernel_rfl, ?_⟩) (by assumption) ?_
      rotate_left
      · intro w hSw; (try dsimp only at hSw); go_simp; try (with_reducible rfl)
      try simp only [Act.put, List.setIfInBounds_toArray, List.set_cons_zero, List.set_cons_succ]
      refine wpAnyH_take (i := 2) (oi := { dst := some 94, op := _, type := _, pos := _, after := _, guard := _ }) (v := ?_) rfl (by kernel_rfl) (by kernel_rfl) (by kernel_rfl) (fun _ _ _ h => h) (Or.inl ⟨by kernel_rfl, ?_⟩) (by assumption) ?_
      rotate_left
      · intro w hSw; (try dsimp only at hSw); go_simp; try (with_reducible rfl)
      try simp only [Act.put, List.setIfInBounds_toArray, List.set_cons_zero, List.set_cons_succ]
      refine wpAnyH_take (i := 3) (oi := { dst := some 95, op := _, type := _, pos := _, after := _, guard := _ }) (v := ?_) rfl (by kernel_rfl) (by kernel_rfl) (by kernel_rfl) (fun _ _ _ h => h) (Or.inl ⟨by kernel_rfl, ?_⟩) (by assumption) ?_
      rotate_left
      · intro w hSw; (try dsimp only at hSw); go_simp; try (with_reducible rfl)
      try simp only [Act.put, List.setIfInBounds_toArray, List.set_cons_zero, List.set_cons_succ]
      refine wpAnyH_take (i := 4) (oi := { dst := some 96, op := _, type := _, pos := _, after := _, guard := _ }) (v := ?_) rfl (by kernel_rfl) (by kernel_rfl) (by kernel_rfl) (fun _ _ _ h => h) (Or.inl ⟨by kernel_rfl, ?_⟩) (by assumption) ?_
      rotate_left
      · intro w hSw; (try dsimp only at hSw); go_simp; try (with_reducible rfl)
      try simp only [Act.put, List.setIfInBounds_toArray, List.set_cons_zero, List.set_cons_succ]
      refine wpAnyH_take (i := 5) (oi := { dst := some 97, op := _, type := _, pos := _, after := _, guard := _ }) (v := ?_) rfl (by kernel_rfl) (by kernel_rfl) (by kernel_rfl) (fun _ _ _ h => h) (Or.inl ⟨by kernel_rfl, ?_⟩) (by assumption) ?_
      rotate_left
      · intro w hSw; (try dsimp only at hSw); go_simp; try (with_reducible rfl)
      try simp only [Act.put, List.setIfInBounds_toArray, List.set_cons_zero, List.set_cons_succ]
      refine wpAnyH_take (i := 6) (oi := { dst := some 98, op := _, type := _, pos := _, after := _, guard := _ }) (v := ?_) rfl (by kernel_rfl) (by kernel_rfl) (by kernel_rfl) (fun _ _ _ h => h) (Or.inl ⟨by kernel_rfl, ?_⟩) (by assumption) ?_
      rotate_left
      · intro w hSw; (try dsimp only at hSw); go_simp; try (with_reducible rfl)
      try simp only [Act.put, List.setIfInBounds_toArray, List.set_cons_zero, List.set_cons_succ]
      refine wpAnyH_take (i := 7) (oi := { dst := some 99, op := _, type := _, pos := _, after := _, guard := _ }) (v := ?_) rfl (by kernel_rfl) (by kernel_rfl) (by kernel_rfl) (fun _ _ _ h => h) (Or.inl ⟨by kernel_rfl, ?_⟩) (by assumption) ?_
      rotate_left
      · intro w hSw; (try dsimp only at hSw); go_simp; try (with_reducible rfl)
      try simp only [Act.put, List.setIfInBounds_toArray, List.set_cons_zero, List.set_cons_succ]
      obtain ⟨v8, w8, hrun, hr8, hb8, hq8⟩ := unhide HCT wg.drew (Below.refl _ _).drew
      refine wpAnyH_ready (rs := [8]) (by kernel_rfl) (by simp) ?_
      refine AllReadyH.cons rfl (fun K hK => ?_) AllReadyH.nil
      refine step_run rfl (.tmp 95) (.tmp 99) 63 rfl (.slice (some ⟨b, off, none⟩) p p) (.slice (some ⟨b, o2, none⟩) (ll.length - (p + 1)) (uc - (p + 1))) (by simp [Act.eval]) (by simp [Act.eval]) v8 w8 hrun ?_
      refine hK.out _ _ ?_ (fun hHeld => ?_)
      · exact ((Below.refl _ _).drew).trans (hb8.mono (by simp))
      clear hK K hrun
      try simp only [Act.put, List.setIfInBounds_toArray]
      refine wpAnyH_take (i := 9) (oi := { dst := some 16, op := _, type := _, pos := _, after := _, guard := _ }) (v := ?_) rfl (by kernel_rfl) (by kernel_rfl) (by kernel_rfl) (fun _ _ _ h => h) (Or.inl ⟨by kernel_rfl, ?_⟩) (by assumption) ?_
      rotate_left
      · intro w hSw; (try dsimp only at hSw); go_simp; try (with_reducible rfl)
      try simp only [Act.put]
      refine wpAnyH_done (by kernel_rfl) ?_ _
      obtain ⟨a8, c8, rfl, _, _⟩ := hr8.shape
      have hbg : Below wg.heap.size wg w8 := ((Below.refl _ _).drew).trans (hb8.mono (by simp))
      have HR8 : Hid (Rm v4 ma' mc' (lm ++ [(⟨q1, q2, q3, q4⟩, ⟨q5, q6, q7⟩)]) a8 c8 (ll.eraseIdx p) w8) := by
        have hg := unhide HRG
        refine ⟨hg.low.trans (hbg.mono hg.low.size), ownsRow_below hg.own hbg, hr8, fun q hq e => ?_⟩
        rcases hq8 q hq with rfl | h
        · exact hg.apart q rfl e
        · have := (hg.own.lt q e).2
          simp at h
          omega
      clear hr8 hb8 hq8 hbg HRG HCT HRM
      go_wp2_with fail
      go_roundw
      case rel => exact ⟨lm ++ [(⟨q1, q2, q3, q4⟩, ⟨q5, q6, q7⟩)], ll.eraseIdx p, ma', a8, mc', c8, by simp, rfl, by simp, unhide HPN, unhide HR8⟩
      case measure => simp [intOf]; omega
    · have hl0 : ll = [] := List.eq_nil_of_length_eq_zero (by omega)
      subst hl0
      rw [List.append_nil] at hperm
      rename World => wm
      have hrr5 := (unhide HRR4).later hrm.low
      have hlow := hrr5.low
      obtain ⟨o0, o1, o2, _⟩ := cell3 ((hlow.block _ (block_lt (unhide HOB))).trans (unhide HOB))
      have hfit := VS.may.fit (unhide HMAY)
      have hfew := may_few (unhide HMAY)
      have hcm := unhide HCM
      have hroom : Room x l.length := fun e => by
        have := unhide HXN e
        omega
      have hpl2 : lm.length = l.length := by simpa using hpl
      have HSM := hide (hcm.same hfit hroom hperm.symm)
      have hcm2 := hcm.perm hperm.symm
      have HRUN1 := hide (arun_any (x := x) ⟨_, rfl, ownsRow_below (unhide HOO) hlow⟩ hfit hfew (Row7.of_own hrr5.own) (by omega) (fun z hz => MC.may_op (hcm.may z hz)) ((unhide HMD).later hlw) l.length (Nat.le_refl _) (fun k hk _ => hcm.runs hfit hroom k hk) (fun hk => absurd hk (Nat.lt_irrefl _)))
      have HRUN2 := hide (fun (wz : World) (hb : Below wm.heap.size wm wz) => arun_any (x := x) ⟨_, rfl, ownsRow_below (ownsRow_below (unhide HOO) hlow) hb⟩ hfit hfew (Row7.of_own (ownsRow_below hrm.own hb)) (by omega) (fun z hz => MC.may_op (hcm2.may z hz)) (((unhide HMD).later hlw).later hb) lm.length (Nat.le_refl _) (fun k hk _ => hcm2.runs hfit (by rw [hpl2]; exact hroom) k hk) (fun hk => absurd hk (Nat.lt_irrefl _)))
      rw [List.take_length] at HRUN1 HRUN2
      rw [← unhide HSM, hpl2] at HRUN2
      obtain ⟨Y, hY⟩ : ∃ Y, runSt x l = Y := ⟨_, rfl⟩
      rw [hY] at HRUN1 HRUN2
      have HOW := hide (fun (wz : World) (hb : Below wm.heap.size wm wz) => (hb.block _ (block_lt ((hlow.block _ (block_lt (unhide HOB))).trans (unhide HOB)))).trans ((hlow.block _ (block_lt (unhide HOB))).trans (unhide HOB)))
      have HLF := hide hlw
      clear hperm hrm hlw hrr5 hlow hfit hfew hcm hcm2 hroom hY HSM
      go_wp2_with fail
      refine (unhide HRUN1).mono ?_
      rintro e w5 ⟨v1, rfl, ⟨k1, rfl, ho1⟩, hb5⟩
      obtain ⟨ra, rc, rfl, _⟩ := ownsRow_slice ho1
      obtain ⟨W5, hW5⟩ : ∃ W5, w5.alloc (.cells #[.int .i64 Y.kind, .int .i64 Y.n, .slice ra Y.rows.length rc] 47) = W5 := ⟨_, rfl⟩
      have hb6 : Below wm.heap.size wm W5 := by rw [← hW5]; exact hb5.trans ((under_box _).mono hb5.size)
      have HB6 := hide hb6
      have HY1 : Hid (StAt W5 (.agg #[.int .i64 Y.kind, .int .i64 Y.n, .slice ra Y.rows.length rc]) Y) := ⟨_, rfl, Row2.of_own (by rw [← hW5]; exact ho1.alloc _)⟩
      have HBX1 : Hid (W5.heap[w5.heap.size]? = some (.cells #[.int .i64 Y.kind, .int .i64 Y.n, .slice ra Y.rows.length rc] 47 (0, 0))) := by show _ = _; rw [← hW5]; exact heap_alloc_new w5 _
      clear ho1 hb5 hb6 HRUN1 o0 o1 o2
      go_upto_region 28 with fail
      try rw [hW5]
      clear hW5
      obtain ⟨o0, o1, o2, _⟩ := cell3 (unhide HOW _ (unhide HB6))
      go_wp2_with fail
      refine (unhide HRUN2 _ (unhide HB6)).mono ?_
      rintro e w7 ⟨v2, rfl, ⟨k2, rfl, ho2⟩, hb7⟩
      obtain ⟨rb, rd, rfl, _⟩ := ownsRow_slice ho2
      obtain ⟨W8, hW8⟩ : ∃ W8, w7.alloc (.cells #[.int .i64 Y.kind, .int .i64 Y.n, .slice rb Y.rows.length rd] 47) = W8 := ⟨_, rfl⟩
      have hb8 : Below W5.heap.size W5 W8 := by rw [← hW8]; exact hb7.trans ((under_box _).mono hb7.size)
      have HY2 : StAt W8 (.agg #[.int .i64 Y.kind, .int .i64 Y.n, .slice rb Y.rows.length rd]) Y := ⟨_, rfl, Row2.of_own (by rw [← hW8]; exact ho2.alloc _)⟩
      have HBX2 : Hid (W8.heap[w7.heap.size]? = some (.cells #[.int .i64 Y.kind, .int .i64 Y.n, .slice rb Y.rows.length rd] 47 (0, 0))) := by show _ = _; rw [← hW8]; exact heap_alloc_new w7 _
      have HBX3 := hide ((hb8.block _ (block_lt (unhide HBX1))).trans (unhide HBX1))
      have HSM := hide (vsame_any ((unhide HY1).later hb8) HY2)
      rw [alike_same] at HSM
      have HLE := hide ((unhide HLF).trans (((unhide HB6).trans (hb8.mono (unhide HB6).size)).mono (unhide HLF).size))
      have e1 : (((l.length : Nat) : Int) == ((l.length : Nat) : Int)) = true := by simp
      clear ho2 hb7 hb8 HY2 HY1 HBX1 HRUN2 o0 o1 o2
      go_upto_region 29 with fail
      try rw [hW8]
      clear hW8
      obtain ⟨p0, p1, p2, _⟩ := cell3 (unhide HBX2)
      obtain ⟨q0, q1, q2, _⟩ := cell3 (unhide HBX3)
      go_wp2_with fail
      refine (unhide HSM).mono ?_
      rintro e w9 ⟨rfl, hb9⟩
      have HL9 := hide ((unhide HLE).trans (hb9.mono (unhide HLE).size))
      clear hb9 p0 p1 p2 q0 q1 q2
      go_wp2_with fail
      go_ret
      exact ⟨rfl, unhide HL9⟩
theorem commuteAny_walk {H : Type} {enc : TypeId × Value → H} {base b0 : Nat} {spare : Nat → Bool} {held : Bool} {r : Reach} {va vb : Value} {d1 d2 : DataW H} {p1 p2 : List MemPlace} (w : World)
    (hva : Value.okWide Tryd.prog w r b0 47 va) (hda : DataW.Trod enc Tryd.prog w base spare held 47 va d1 p1) (hvb : Value.okWide Tryd.prog w r b0 60 vb) (hdb : DataW.Trod enc Tryd.prog w base spare held 60 vb d2 p2)
    (a2 : Option Addr) (len2 cap2 : Nat) (z2 : List Int) (w2 : IsInts w a2 len2 cap2 z2) (hw : MD w) :
    Calls Tryd.prog 6 #[va, vb, .slice a2 len2 cap2] w fun e w' => e = .returned (.bool true) ∧ Below w.heap.size w w' := by
  obtain ⟨s, hs, _, hsn, hsz⟩ := open_state hva hda
  obtain ⟨a, len, cap, rfl, hlen, hrc⟩ := open_calls hvb hdb
  exact qany_any hs hsn hsz a len cap hlen hrc a2 len2 cap2 z2 w2 hw
end Go.Proofs.YteaiidcconggcaaDoor
