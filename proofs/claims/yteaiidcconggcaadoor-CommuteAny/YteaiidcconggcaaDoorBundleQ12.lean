/- Texts that this proof needs, one behind the other: QStatesW, QAny, QAmong, QCutRow. -/
import Derived.Test.YteaiidcconggcaaDoorBundleQ11
import Derived.Test.YteaiidcconggcaaDoorQComm
import Derived.Test.YteaiidcconggcaaDoorBundleT10
import Derived.Test.YteaiidcconggcaaDoorBundleT7
import Derived.Test.YteaiidcconggcaaDoorVOpen
import Derived.Test.YteaiidcconggcaaDoorBundleQ5
import Derived.Test.YteaiidcconggcaaDoorBundleT6
import Derived.Test.YteaiidcconggcaaDoorBundleQ9
import Derived.Test.YteaiidcconggcaaDoorBundleC1
import Derived.Deep.Upon
/- The walk of CommuteStates. -/
namespace Go.Proofs.YteaiidcconggcaaDoor
open Go.RowKit
set_option linter.unusedVariables false
set_option maxRecDepth 100000

def Gq (W w' : World) : Prop := Below W.heap.size W w'
theorem Gq.start (W : World) : Gq W W := Below.refl _ _
theorem Gq.drew {W w : World} (h : Gq W w) : Gq W w.drew := Below.drew h
theorem Gq.below {W w w' : World} (h : Gq W w) (hb : Below w.heap.size w w') : Gq W w' := Below.trans h (hb.mono (Below.size h))
theorem Gq.low {W w' : World} (h : Gq W w') : Below W.heap.size W w' := h
theorem Gq.cell3 {W : World} {N : Nat} {a b c : Value} {t : TypeId} (h : W.heap[N]? = some (.cells #[a, b, c] t (0, 0))) : (∀ w1, Gq W w1 → w1.cell? ⟨N, 0, none⟩ = some a) ∧ (∀ w1, Gq W w1 → w1.cell? ⟨N, 1, none⟩ = some b) ∧ (∀ w1, Gq W w1 → w1.cell? ⟨N, 2, none⟩ = some c) := by
  refine ⟨fun w1 hf => ?_, fun w1 hf => ?_, fun w1 hf => ?_⟩ <;> rw [block_cell ((Below.block hf _ (block_lt h)).trans h)] <;> rfl
theorem Gq.cell4 {W : World} {N : Nat} {a b c d : Value} {t : TypeId} (h : W.heap[N]? = some (.cells #[a, b, c, d] t (0, 0))) : (∀ w1, Gq W w1 → w1.cell? ⟨N, 0, none⟩ = some a) ∧ (∀ w1, Gq W w1 → w1.cell? ⟨N, 1, none⟩ = some b) ∧ (∀ w1, Gq W w1 → w1.cell? ⟨N, 2, none⟩ = some c) ∧ (∀ w1, Gq W w1 → w1.cell? ⟨N, 3, none⟩ = some d) := by
  refine ⟨fun w1 hf => ?_, fun w1 hf => ?_, fun w1 hf => ?_, fun w1 hf => ?_⟩ <;> rw [block_cell ((Below.block hf _ (block_lt h)).trans h)] <;> rfl
/- A result that is a call that may be. -/
def Res.mc : Res where
  F := fun v _ => ∃ V : MC, V.may ∧ v = mcV V
  own := fun _ => none
  cells := stCells
  n := 4
  len := fun v w ⟨V, _, e⟩ => by subst e; rfl
  later := fun v w w' h _ => h
  other := fun v w w' q h _ _ => h
  low := fun v w k _ h => by cases h
theorem may_few {x : VS} (h : x.may) : x.rows.length ≤ 100 := by
  have := VS.may_rows h
  have := VS.most_le x
  omega
theorem mask_rem (a : Int) (n : Nat) (h : 0 < n) : ∃ m p : Nat, bits .and .i64 a 255 = (m : Int) ∧ Int.tmod (m : Int) ((n : Nat) : Int) = (p : Int) ∧ p < n := by
  have h1 : bits .and .i64 a 255 = a % 256 := by rw [pl_and_mask a 8 255 (by omega) (by decide)]; rfl
  refine ⟨(a % 256).toNat, (a % 256).toNat % n, by rw [h1]; omega, by rw [Int.ofNat_tmod], Nat.mod_lt _ h⟩
theorem three_heap (w : World) (A B C : Obj) : (((w.alloc A).alloc B).alloc C).heap[w.heap.size]? = some A ∧ (((w.alloc A).alloc B).alloc C).heap[w.heap.size + 1]? = some B ∧ (((w.alloc A).alloc B).alloc C).heap[w.heap.size + 1 + 1]? = some C ∧ Below w.heap.size w (((w.alloc A).alloc B).alloc C) := by
  have h2 := under_two w A B
  have g3 := heap_alloc_new ((w.alloc A).alloc B) C
  simp only [World.size_alloc] at g3
  refine ⟨?_, ?_, g3, h2.alloc h2.size C⟩
  · rw [Below.heap_alloc _ _ _ (by simp; omega), Below.heap_alloc _ _ _ (by simp)]; exact heap_alloc_new w A
  · rw [Below.heap_alloc _ _ _ (by simp)]
    have := heap_alloc_new (w.alloc A) B
    rwa [World.size_alloc] at this
set_option maxHeartbeats 102400000 in
theorem qstates_any {w : World} {v : Value} {s : VS} (hs : StAt w v s) (hsn : -9223372036854775808 ≤ s.n ∧ s.n ≤ 9223372036854775807) (hsz : ∀ i (h : i < s.rows.length), (s.rows[i]'h).1.length ≤ maxLen ∧ (s.rows[i]'h).2.length ≤ maxLen)
    (op : Int) (ca cb : ByteArray) (cn : Int) (hop : I64 op) (hn : I64 cn) (hca : ca.size ≤ maxLen) (hcb : cb.size ≤ maxLen)
    (op' : Int) (ca' cb' : ByteArray) (cn' : Int) (hop' : I64 op') (hn' : I64 cn') (hca' : ca'.size ≤ maxLen) (hcb' : cb'.size ≤ maxLen) (ii jj : Int) (hw : MD w) :
    Calls Tryd.prog 4 #[v, .agg #[.int .i64 op, .string ca, .string cb, .int .i64 cn], .agg #[.int .i64 op', .string ca', .string cb', .int .i64 cn'], .int .i64 ii, .int .i64 jj] w fun e w' => e = .returned (.bool true) ∧ Below w.heap.size w w' := by
  have HTS := hide (fun (w1 : World) (hb : Below w.heap.size w w1) => tstate_any (hs.later hb) hsn hsz)
  have HOA := hide (fun (w1 : World) (v : Value) (x : VS) (h : StAt w1 v x) => of_any h op ca cb cn hop hn hca hcb)
  have HOB := hide (fun (w1 : World) (v : Value) (x : VS) (h : StAt w1 v x) => of_any h op' ca' cb' cn' hop' hn' hca' hcb')
  have HAW := hide (fun (w1 : World) (hb : Below w.heap.size w w1) => qawake_any (hw.later hb))
  have HMD := hide hw
  obtain ⟨k0, rfl, hr⟩ := hs
  obtain ⟨a, c, rfl, hc, hm⟩ := hr.shape
  obtain ⟨h30, h31, h32, h3l⟩ := three_heap w (.cells #[.int .i64 s.kind, .int .i64 s.n, .slice a s.rows.length c] 47 (0, 0)) (.cells #[.int .i64 op, .string ca, .string cb, .int .i64 cn] 24 (0, 0)) (.cells #[.int .i64 op', .string ca', .string cb', .int .i64 cn'] 24 (0, 0))
  have H30 := hide h30
  have H31 := hide h31
  have H32 := hide h32
  have H3L := hide h3l
  clear hr hw hsn hsz hop hn hca hcb hop' hn' hca' hcb' h30 h31 h32 h3l
  go_enter Tryd.func4, Tryd.ntmps4
  go_wp2_with fail
  refine (unhide HAW _ (unhide H3L)).mono ?_
  rintro e w1 ⟨rfl, hb1⟩
  have HL1 := hide ((unhide H3L).trans (hb1.mono (unhide H3L).size))
  have hs1 := (hb1.block _ (block_lt (unhide H30))).trans (unhide H30)
  have HA1 := hide ((hb1.block _ (block_lt (unhide H31))).trans (unhide H31))
  have HB1 := hide ((hb1.block _ (block_lt (unhide H32))).trans (unhide H32))
  obtain ⟨d0, d1, d2, _⟩ := cell3 hs1
  clear hb1 hs1 H30 H31 H32 H3L HAW
  go_wp2_with fail
  refine (unhide HTS _ (unhide HL1)).mono ?_
  rintro e w2 ⟨v2, rfl, x, hmay, hxn, ⟨kx, rfl, hox⟩, hb2⟩
  obtain ⟨xa, xc, rfl, _⟩ := ownsRow_slice hox
  obtain ⟨W, hW⟩ : ∃ W, w2.alloc (.cells #[.int .i64 x.kind, .int .i64 x.n, .slice xa x.rows.length xc] 38) = W := ⟨_, rfl⟩
  have hbW : Below w1.heap.size w1 W := by rw [← hW]; exact hb2.trans ((under_box _).mono hb2.size)
  have HXB : Hid (W.heap[w2.heap.size]? = some (.cells #[.int .i64 x.kind, .int .i64 x.n, .slice xa x.rows.length xc] 38 (0, 0))) := by show _ = _; rw [← hW]; exact heap_alloc_new w2 _
  have HXO : Hid (W.ownsRow 0 77 2 (.slice xa x.rows.length xc) x.rows.length (R9 x.rows)) := by show World.ownsRow _ _ _ _ _ _ _; rw [← hW]; exact ownsRow_less (hox.alloc _) (Nat.zero_le _)
  have HAB := hide ((hbW.block _ (block_lt (unhide HA1))).trans (unhide HA1))
  have HBB := hide ((hbW.block _ (block_lt (unhide HB1))).trans (unhide HB1))
  have HLW := hide ((unhide HL1).trans (hbW.mono (unhide HL1).size))
  have HMAY := hide hmay
  have HXN := hide hxn
  have HOFA := hide (fun (wz : World) (hb : Below W.heap.size W wz) => unhide HOA wz (.agg #[.int .i64 x.kind, .int .i64 x.n, .slice xa x.rows.length xc]) x ⟨_, rfl, Row2.of_own (ownsRow_below (unhide HXO) hb)⟩)
  have HOFB := hide (fun (wz : World) (hb : Below W.heap.size W wz) => unhide HOB wz (.agg #[.int .i64 x.kind, .int .i64 x.n, .slice xa x.rows.length xc]) x ⟨_, rfl, Row2.of_own (ownsRow_below (unhide HXO) hb)⟩)
  clear hmay hxn hox hb2 hbW d0 d1 d2 HTS HOA HOB HL1 HA1 HB1
  go_upto_region 4 with fail
  try rw [hW]
  clear hW
  refine regN [.val 22 (Res.plain (.agg #[.int .i64 x.kind, .int .i64 x.n, .slice xa x.rows.length xc]) []), .val 23 (Res.plain (.agg #[.int .i64 op, .string ca, .string cb, .int .i64 cn]) []), .val 24 Res.mc, .val 25 (Res.plain (.agg #[.int .i64 x.kind, .int .i64 x.n, .slice xa x.rows.length xc]) []), .val 26 (Res.plain (.agg #[.int .i64 op', .string ca', .string cb', .int .i64 cn']) []), .val 27 Res.mc, .box 12 4 29, .box 13 4 29, .put 2 6, .put 5 7] (fun i => if i = 2 then [0, 1] else if i = 5 then [3, 4] else []) ?_ ?_ ?_ ?_ ?_ ?_ ?_ (fun i hi => ?_) ?_
  · kernel_rfl
  · rfl
  · kernel_rfl
  · kernel_rfl
  · kernel_rfl
  · kernel_rfl
  · kernel_rfl
  · have hc : i = 0 ∨ i = 1 ∨ i = 2 ∨ i = 3 ∨ i = 4 ∨ i = 5 ∨ i = 6 ∨ i = 7 ∨ i = 8 ∨ i = 9 := by have : i < 10 := hi; omega
    clear hi
    rcases hc with rfl | rfl | rfl | rfl | rfl | rfl | rfl | rfl | rfl | rfl
    · with_reducible refine DoesN.plain (s := 22) (v := .agg #[.int .i64 x.kind, .int .i64 x.n, .slice xa x.rows.length xc]) ?_ ?_
      · rfl
      intro f wz K hb hd hK
      obtain ⟨d0, d1, d2, _⟩ := cell3 ((hb.block _ (block_lt (unhide HXB))).trans (unhide HXB))
      simp only [setN, upd, Nat.reduceAdd, Nat.reduceEqDiff, reduceIte, List.setIfInBounds_toArray, List.set_cons_zero, List.set_cons_succ] at hK ⊢
      refine wpOp_do rfl (by kernel_rfl) ?_
      unfold Oper.wp execOp
      go_simp
      exact hK _ (Below.refl _ _)
    · with_reducible refine DoesN.plain (s := 23) (v := .agg #[.int .i64 op, .string ca, .string cb, .int .i64 cn]) ?_ ?_
      · rfl
      intro f wz K hb hd hK
      obtain ⟨d0, d1, d2, d3, _⟩ := cell4 ((hb.block _ (block_lt (unhide HAB))).trans (unhide HAB))
      simp only [setN, upd, Nat.reduceAdd, Nat.reduceEqDiff, reduceIte, List.setIfInBounds_toArray, List.set_cons_zero, List.set_cons_succ] at hK ⊢
      refine wpOp_do rfl (by kernel_rfl) ?_
      unfold Oper.wp execOp
      go_simp
      exact hK _ (Below.refl _ _)
    · with_reducible refine DoesN.val (s := 24) (R := Res.mc) ?_ ?_
      · rfl
      intro f wz K hb hd hK
      have e0 : f 0 = .agg #[.int .i64 x.kind, .int .i64 x.n, .slice xa x.rows.length xc] := plainAt (s := 22) (cs := []) (hd 0 (by decide)) rfl
      have e1 : f 1 = .agg #[.int .i64 op, .string ca, .string cb, .int .i64 cn] := plainAt (s := 23) (cs := []) (hd 1 (by decide)) rfl
      simp only [setN, upd, Nat.reduceAdd, Nat.reduceEqDiff, reduceIte, List.setIfInBounds_toArray, List.set_cons_zero, List.set_cons_succ] at hK ⊢
      simp only [e0, e1] at hK ⊢
      refine wpOp_do rfl (by kernel_rfl) ?_
      unfold Oper.wp execOp
      go_simp
      refine (unhide HOFA _ hb).mono ?_
      rintro e w' ⟨V, rfl, hV, hb'⟩
      exact hK _ _ hb' ⟨V, hV, rfl⟩ (fun k h => by cases h)
    · with_reducible refine DoesN.plain (s := 25) (v := .agg #[.int .i64 x.kind, .int .i64 x.n, .slice xa x.rows.length xc]) ?_ ?_
      · rfl
      intro f wz K hb hd hK
      obtain ⟨d0, d1, d2, _⟩ := cell3 ((hb.block _ (block_lt (unhide HXB))).trans (unhide HXB))
      simp only [setN, upd, Nat.reduceAdd, Nat.reduceEqDiff, reduceIte, List.setIfInBounds_toArray, List.set_cons_zero, List.set_cons_succ] at hK ⊢
      refine wpOp_do rfl (by kernel_rfl) ?_
      unfold Oper.wp execOp
      go_simp
      exact hK _ (Below.refl _ _)
    · with_reducible refine DoesN.plain (s := 26) (v := .agg #[.int .i64 op', .string ca', .string cb', .int .i64 cn']) ?_ ?_
      · rfl
      intro f wz K hb hd hK
      obtain ⟨d0, d1, d2, d3, _⟩ := cell4 ((hb.block _ (block_lt (unhide HBB))).trans (unhide HBB))
      simp only [setN, upd, Nat.reduceAdd, Nat.reduceEqDiff, reduceIte, List.setIfInBounds_toArray, List.set_cons_zero, List.set_cons_succ] at hK ⊢
      refine wpOp_do rfl (by kernel_rfl) ?_
      unfold Oper.wp execOp
      go_simp
      exact hK _ (Below.refl _ _)
    · with_reducible refine DoesN.val (s := 27) (R := Res.mc) ?_ ?_
      · rfl
      intro f wz K hb hd hK
      have e3 : f 3 = .agg #[.int .i64 x.kind, .int .i64 x.n, .slice xa x.rows.length xc] := plainAt (s := 25) (cs := []) (hd 3 (by decide)) rfl
      have e4 : f 4 = .agg #[.int .i64 op', .string ca', .string cb', .int .i64 cn'] := plainAt (s := 26) (cs := []) (hd 4 (by decide)) rfl
      simp only [setN, upd, Nat.reduceAdd, Nat.reduceEqDiff, reduceIte, List.setIfInBounds_toArray, List.set_cons_zero, List.set_cons_succ] at hK ⊢
      simp only [e3, e4] at hK ⊢
      refine wpOp_do rfl (by kernel_rfl) ?_
      unfold Oper.wp execOp
      go_simp
      refine (unhide HOFB _ hb).mono ?_
      rintro e w' ⟨V, rfl, hV, hb'⟩
      exact hK _ _ hb' ⟨V, hV, rfl⟩ (fun k h => by cases h)
    · with_reducible refine DoesN.box (s := 12) (n := 4) (t := 29) ?_ ?_
      · rfl
      intro f wz K
      refine ⟨[.int .i64 0, .string ⟨#[]⟩, .string ⟨#[]⟩, .int .i64 0], rfl, fun hK => ?_⟩
      unfold ptr at hK
      simp only [setN, upd, Nat.reduceAdd, Nat.reduceEqDiff, reduceIte, List.setIfInBounds_toArray, List.set_cons_zero, List.set_cons_succ] at hK ⊢
      refine wpOp_do rfl (by kernel_rfl) ?_
      unfold Oper.wp execOp
      go_simp
      exact hK
    · with_reducible refine DoesN.box (s := 13) (n := 4) (t := 29) ?_ ?_
      · rfl
      intro f wz K
      refine ⟨[.int .i64 0, .string ⟨#[]⟩, .string ⟨#[]⟩, .int .i64 0], rfl, fun hK => ?_⟩
      unfold ptr at hK
      simp only [setN, upd, Nat.reduceAdd, Nat.reduceEqDiff, reduceIte, List.setIfInBounds_toArray, List.set_cons_zero, List.set_cons_succ] at hK ⊢
      refine wpOp_do rfl (by kernel_rfl) ?_
      unfold Oper.wp execOp
      go_simp
      exact hK
    · with_reducible refine DoesN.put (c := 2) (b := 6) (s := 24) (R := Res.mc) (s' := 12) (n := 4) (t := 29) ?_ ?_ ?_ ?_
      · rfl
      · rfl
      · rfl
      intro f wz K q ys eb hy hq hF hK
      obtain ⟨V, hV, ev⟩ := hF
      have ec := ev
      simp only [ec, Res.mc, stCells, mcV] at hK
      simp only [setN, Nat.reduceAdd, List.setIfInBounds_toArray, List.set_cons_zero, List.set_cons_succ] at hK ⊢
      simp only [ec, eb, mcV] at hK ⊢
      match ys, hy with
      | [y1, y2, y3, y4], _ =>
      obtain ⟨d0, d1, d2, d3, fz⟩ := cell4 hq
      unfold ptr at *
      simp only [putL] at hK
      refine wpOp_do rfl (by kernel_rfl) ?_
      unfold Oper.wp execOp
      go_simp
      exact hK
    · with_reducible refine DoesN.put (c := 5) (b := 7) (s := 27) (R := Res.mc) (s' := 13) (n := 4) (t := 29) ?_ ?_ ?_ ?_
      · rfl
      · rfl
      · rfl
      intro f wz K q ys eb hy hq hF hK
      obtain ⟨V, hV, ev⟩ := hF
      have ec := ev
      simp only [ec, Res.mc, stCells, mcV] at hK
      simp only [setN, Nat.reduceAdd, List.setIfInBounds_toArray, List.set_cons_zero, List.set_cons_succ] at hK ⊢
      simp only [ec, eb, mcV] at hK ⊢
      match ys, hy with
      | [y1, y2, y3, y4], _ =>
      obtain ⟨d0, d1, d2, d3, fz⟩ := cell4 hq
      unfold ptr at *
      simp only [putL] at hK
      refine wpOp_do rfl (by kernel_rfl) ?_
      unfold Oper.wp execOp
      go_simp
      exact hK
  · intro f wE hbE hv hp hne ho
    have h0 : f 0 = .agg #[.int .i64 x.kind, .int .i64 x.n, .slice xa x.rows.length xc] := plainAt (s := 22) (cs := []) (hv 0) rfl
    have h1 : f 1 = .agg #[.int .i64 op, .string ca, .string cb, .int .i64 cn] := plainAt (s := 23) (cs := []) (hv 1) rfl
    have h3 : f 3 = .agg #[.int .i64 x.kind, .int .i64 x.n, .slice xa x.rows.length xc] := plainAt (s := 25) (cs := []) (hv 3) rfl
    have h4 : f 4 = .agg #[.int .i64 op', .string ca', .string cb', .int .i64 cn'] := plainAt (s := 26) (cs := []) (hv 4) rfl
    simp only [setN, Nat.reduceAdd, List.setIfInBounds_toArray, List.set_cons_zero, List.set_cons_succ]
    simp only [h0, h1, h3, h4]
    clear h0 h1 h3 h4
    obtain ⟨qA, eA, gA, bA⟩ := putAt (c := 2) (b := 6) (s := 24) (R := Res.mc) (s' := 12) (n := 4) (t := 29) (hp 8) rfl rfl rfl
    obtain ⟨qB, eB, gB, bB⟩ := putAt (c := 5) (b := 7) (s := 27) (R := Res.mc) (s' := 13) (n := 4) (t := 29) (hp 9) rfl rfl rfl
    obtain ⟨V1, hV1, ex⟩ := factAt (s := 24) (R := Res.mc) (hv 2) rfl
    obtain ⟨V2, hV2, ey⟩ := factAt (s := 27) (R := Res.mc) (hv 5) rfl
    simp only [ex, Res.mc, stCells, mcV] at bA
    simp only [ey, Res.mc, stCells, mcV] at bB
    simp only [eA, eB, ex, ey, ptr, mcV]
    have HL5 := hide ((unhide HLW).trans (hbE.mono (unhide HLW).size))
    have hx5 := (hbE.block _ (block_lt (unhide HXB))).trans (unhide HXB)
    have HXO5 := hide (ownsRow_below (unhide HXO) hbE)
    have HX5 := hide hx5
    have HC5 := hide bA
    have HD5 := hide bB
    have HV1 := hide hV1
    have HV2 := hide hV2
    obtain ⟨xc0, xc1, xc2⟩ := Gq.cell3 hx5
    obtain ⟨cc0, cc1, cc2, cc3⟩ := Gq.cell4 bA
    obtain ⟨dc0, dc1, dc2, dc3⟩ := Gq.cell4 bB
    have hop1 := MC.may_op hV1
    have hop2 := MC.may_op hV2
    have hsm : x.rows.length ≤ 1000 := by have := may_few (unhide HMAY); omega
    obtain ⟨l, hl⟩ : ∃ l, answers x V1 = l := ⟨_, rfl⟩
    obtain ⟨r, hr⟩ : ∃ r, answers x V2 = r := ⟨_, rfl⟩
    have HLA := hide hl
    have HRA := hide hr
    have HN1 : Hid (∀ wz, Gq wE wz → Calls Tryd.prog 16 #[.agg #[.int .i64 x.kind, .int .i64 x.n, .slice xa x.rows.length xc], .agg #[.int .i64 V1.op, .string (S V1.a), .string (S V1.b), .int .i64 V1.n]] wz fun e w' => ∃ v', e = .returned v' ∧ Row3 w' v' l ∧ Below wz.heap.size wz w') := fun wz hf => by rw [← hl]; exact ranswers_any (c := V1) (s := x) ⟨_, rfl, Row2.of_own (ownsRow_below (unhide HXO5) hf.low)⟩ hsm hop1
    have HN2 : Hid (∀ wz, Gq wE wz → Calls Tryd.prog 16 #[.agg #[.int .i64 x.kind, .int .i64 x.n, .slice xa x.rows.length xc], .agg #[.int .i64 V2.op, .string (S V2.a), .string (S V2.b), .int .i64 V2.n]] wz fun e w' => ∃ v', e = .returned v' ∧ Row3 w' v' r ∧ Below wz.heap.size wz w') := fun wz hf => by rw [← hr]; exact ranswers_any (c := V2) (s := x) ⟨_, rfl, Row2.of_own (ownsRow_below (unhide HXO5) hf.low)⟩ hsm hop2
    have hst := Gq.start wE
    have hstd := hst.drew
    clear hv hp hne ho ex ey eA eB gA gB bA bB hbE hV1 hV2 hop1 hop2 hsm hl hr hx5 HOFA HOFB HXB HXO HLW
    go_upto_region 5 with fail
    go_region_held3 (fun w' => Gq wE w') (with_reducible (first | exact hstd | exact hst | (refine Gq.below ?_ (by assumption) <;> assumption)))
      (first | (go_at_call 16; first | (have hq := HRA0; clear hq; refine (unhide HN2 _ (by assumption)).mono ?_; rintro e wb ⟨vb, rfl, hrb, hbb⟩; obtain ⟨ta, tc, rfl, _, _⟩ := hrb.shape; have HRR := hide hrb; have HRL := hide ((unhide HRA0).later hbb); clear hrb HRA0) | (refine (unhide HN1 _ (by assumption)).mono ?_; rintro e wa ⟨va, rfl, hra, hba⟩; obtain ⟨sa, sc, rfl, _, _⟩ := hra.shape; have HRA0 := hide hra; clear hra)) | fail)
    have h7 : Gq wE wb := by assumption
    have HX7 := hide ((h7.low.block _ (block_lt (unhide HX5))).trans (unhide HX5))
    have HC7 := hide ((h7.low.block _ (block_lt (unhide HC5))).trans (unhide HC5))
    have HD7 := hide ((h7.low.block _ (block_lt (unhide HD5))).trans (unhide HD5))
    have HL7 := hide ((unhide HL5).trans (h7.low.mono (unhide HL5).size))
    have HXO7 := hide (ownsRow_below (unhide HXO5) h7.low)
    clear h7 hst hstd hba hbb HN1 HN2 HX5 HC5 HD5 HL5 HXO5 xc0 xc1 xc2 cc0 cc1 cc2 cc3 dc0 dc1 dc2 dc3
    by_cases hl0 : l.length = 0
    · have e1 : (((l.length : Nat) : Int) == 0) = true := by rw [hl0]; rfl
      go_wp2_with fail
      go_ret
      exact ⟨rfl, unhide HL7⟩
    have e1 : (((l.length : Nat) : Int) == 0) = false := by rw [beq_eq_false_iff_ne]; omega
    by_cases hr0 : r.length = 0
    · have e2 : (((r.length : Nat) : Int) == 0) = true := by rw [hr0]; rfl
      go_wp2_with fail
      go_ret
      exact ⟨rfl, unhide HL7⟩
    have e2 : (((r.length : Nat) : Int) == 0) = false := by rw [beq_eq_false_iff_ne]; omega
    obtain ⟨m1, p1, hm1, hp1, hp1l⟩ := mask_rem ii l.length (by omega)
    obtain ⟨m2, p2, hm2, hp2, hp2l⟩ := mask_rem jj r.length (by omega)
    obtain ⟨bl, ol, rfl, hbl, f1, f2, f3⟩ := (unhide HRL).at p1 hp1l
    obtain ⟨br, orr, rfl, hbr, g1, g2, g3⟩ := (unhide HRR).at p2 hp2l
    have HM1 := hide (List.getElem_mem hp1l)
    have HM2 := hide (List.getElem_mem hp2l)
    generalize l[p1]'hp1l = q1 at *
    generalize r[p2]'hp2l = q2 at *
    obtain ⟨y1, y2, y3⟩ := q1
    obtain ⟨z1, z2, z3⟩ := q2
    dsimp only at *
    have i1 : (0 : Int) ≤ (p1 : Int) := by omega
    have i2 : (p1 : Int) < ((l.length : Nat) : Int) := by omega
    have i3 : (0 : Int) ≤ (p2 : Int) := by omega
    have i4 : (p2 : Int) < ((r.length : Nat) : Int) := by omega
    go_upto_region 8 with fail
    obtain ⟨W8, hW8⟩ : ∃ W8, wb = W8 := ⟨_, rfl⟩
    rw [hW8] at HX7 HC7 HD7 HL7 HXO7 hbl hbr f1 f2 f3 g1 g2 g3 ⊢
    clear hW8 HRL HRR
    refine regN [.val 42 (Res.plain (.slice (some ⟨bl, ol, none⟩) l.length sc) []), .val 43 (Res.plain (.int .i64 ii) []), .val 44 (Res.plain (.int .i64 (m1 : Int)) []), .val 45 (Res.plain (.slice (some ⟨bl, ol, none⟩) l.length sc) []), .val 46 (Res.plain (.int .i64 ((l.length : Nat) : Int)) []), .val 47 (Res.plain (.int .i64 (p1 : Int)) []), .val 48 (Res.plain (.pointer (some ⟨bl, ol + p1 * 3, none⟩)) []), .val 49 (Res.plain (.agg #[.int .i64 y1, .string (S y2), .int .i64 y3]) [.int .i64 y1, .string (S y2), .int .i64 y3]), .val 50 (Res.plain (.slice (some ⟨br, orr, none⟩) r.length tc) []), .val 51 (Res.plain (.int .i64 jj) []), .val 52 (Res.plain (.int .i64 (m2 : Int)) []), .val 53 (Res.plain (.slice (some ⟨br, orr, none⟩) r.length tc) []), .val 54 (Res.plain (.int .i64 ((r.length : Nat) : Int)) []), .val 55 (Res.plain (.int .i64 (p2 : Int)) []), .val 56 (Res.plain (.pointer (some ⟨br, orr + p2 * 3, none⟩)) []), .val 57 (Res.plain (.agg #[.int .i64 z1, .string (S z2), .int .i64 z3]) [.int .i64 z1, .string (S z2), .int .i64 z3]), .box 16 3 30, .box 17 3 30, .put 7 16, .put 15 17] (fun i => if i = 2 then [1] else if i = 4 then [3] else if i = 5 then [2, 4] else if i = 6 then [0, 5] else if i = 7 then [6] else if i = 10 then [9] else if i = 12 then [11] else if i = 13 then [10, 12] else if i = 14 then [8, 13] else if i = 15 then [14] else []) ?_ ?_ ?_ ?_ ?_ ?_ ?_ (fun i hi => ?_) ?_
    · kernel_rfl
    · rfl
    · kernel_rfl
    · kernel_rfl
    · kernel_rfl
    · kernel_rfl
    · kernel_rfl
    · have hc : i = 0 ∨ i = 1 ∨ i = 2 ∨ i = 3 ∨ i = 4 ∨ i = 5 ∨ i = 6 ∨ i = 7 ∨ i = 8 ∨ i = 9 ∨ i = 10 ∨ i = 11 ∨ i = 12 ∨ i = 13 ∨ i = 14 ∨ i = 15 ∨ i = 16 ∨ i = 17 ∨ i = 18 ∨ i = 19 := by have : i < 20 := hi; omega
      clear hi
      rcases hc with rfl | rfl | rfl | rfl | rfl | rfl | rfl | rfl | rfl | rfl | rfl | rfl | rfl | rfl | rfl | rfl | rfl | rfl | rfl | rfl
      · with_reducible refine DoesN.plain (s := 42) (v := .slice (some ⟨bl, ol, none⟩) l.length sc) ?_ ?_
        · rfl
        intro f wz K hb hd hK
        simp only [setN, upd, Nat.reduceAdd, Nat.reduceEqDiff, reduceIte, List.setIfInBounds_toArray, List.set_cons_zero, List.set_cons_succ] at hK ⊢
        refine wpOp_do rfl (by kernel_rfl) ?_
        unfold Oper.wp execOp
        go_simp
        exact hK _ (Below.refl _ _)
      · with_reducible refine DoesN.plain (s := 43) (v := .int .i64 ii) ?_ ?_
        · rfl
        intro f wz K hb hd hK
        simp only [setN, upd, Nat.reduceAdd, Nat.reduceEqDiff, reduceIte, List.setIfInBounds_toArray, List.set_cons_zero, List.set_cons_succ] at hK ⊢
        refine wpOp_do rfl (by kernel_rfl) ?_
        unfold Oper.wp execOp
        go_simp
        exact hK _ (Below.refl _ _)
      · with_reducible refine DoesN.plain (s := 44) (v := .int .i64 (m1 : Int)) ?_ ?_
        · rfl
        intro f wz K hb hd hK
        have e1 : f 1 = .int .i64 ii := plainAt (s := 43) (cs := []) (hd 1 (by decide)) rfl
        simp only [setN, upd, Nat.reduceAdd, Nat.reduceEqDiff, reduceIte, List.setIfInBounds_toArray, List.set_cons_zero, List.set_cons_succ] at hK ⊢
        simp only [e1] at hK ⊢
        refine wpOp_do rfl (by kernel_rfl) ?_
        unfold Oper.wp execOp
        go_simp
        exact hK _ (Below.refl _ _)
      · with_reducible refine DoesN.plain (s := 45) (v := .slice (some ⟨bl, ol, none⟩) l.length sc) ?_ ?_
        · rfl
        intro f wz K hb hd hK
        simp only [setN, upd, Nat.reduceAdd, Nat.reduceEqDiff, reduceIte, List.setIfInBounds_toArray, List.set_cons_zero, List.set_cons_succ] at hK ⊢
        refine wpOp_do rfl (by kernel_rfl) ?_
        unfold Oper.wp execOp
        go_simp
        exact hK _ (Below.refl _ _)
      · with_reducible refine DoesN.plain (s := 46) (v := .int .i64 ((l.length : Nat) : Int)) ?_ ?_
        · rfl
        intro f wz K hb hd hK
        have e3 : f 3 = .slice (some ⟨bl, ol, none⟩) l.length sc := plainAt (s := 45) (cs := []) (hd 3 (by decide)) rfl
        simp only [setN, upd, Nat.reduceAdd, Nat.reduceEqDiff, reduceIte, List.setIfInBounds_toArray, List.set_cons_zero, List.set_cons_succ] at hK ⊢
        simp only [e3] at hK ⊢
        refine wpOp_do rfl (by kernel_rfl) ?_
        unfold Oper.wp execOp
        go_simp
        exact hK _ (Below.refl _ _)
      · with_reducible refine DoesN.plain (s := 47) (v := .int .i64 (p1 : Int)) ?_ ?_
        · rfl
        intro f wz K hb hd hK
        have e2 : f 2 = .int .i64 (m1 : Int) := plainAt (s := 44) (cs := []) (hd 2 (by decide)) rfl
        have e4 : f 4 = .int .i64 ((l.length : Nat) : Int) := plainAt (s := 46) (cs := []) (hd 4 (by decide)) rfl
        simp only [setN, upd, Nat.reduceAdd, Nat.reduceEqDiff, reduceIte, List.setIfInBounds_toArray, List.set_cons_zero, List.set_cons_succ] at hK ⊢
        simp only [e2, e4] at hK ⊢
        refine wpOp_do rfl (by kernel_rfl) ?_
        unfold Oper.wp execOp
        go_simp
        exact hK _ (Below.refl _ _)
      · with_reducible refine DoesN.plain (s := 48) (v := .pointer (some ⟨bl, ol + p1 * 3, none⟩)) ?_ ?_
        · rfl
        intro f wz K hb hd hK
        have e0 : f 0 = .slice (some ⟨bl, ol, none⟩) l.length sc := plainAt (s := 42) (cs := []) (hd 0 (by decide)) rfl
        have e5 : f 5 = .int .i64 (p1 : Int) := plainAt (s := 47) (cs := []) (hd 5 (by decide)) rfl
        simp only [setN, upd, Nat.reduceAdd, Nat.reduceEqDiff, reduceIte, List.setIfInBounds_toArray, List.set_cons_zero, List.set_cons_succ] at hK ⊢
        simp only [e0, e5] at hK ⊢
        refine wpOp_do rfl (by kernel_rfl) ?_
        unfold Oper.wp execOp
        go_simp
        exact hK _ (Below.refl _ _)
      · with_reducible refine DoesN.val (s := 49) (R := (Res.plain (.agg #[.int .i64 y1, .string (S y2), .int .i64 y3]) [.int .i64 y1, .string (S y2), .int .i64 y3])) ?_ ?_
        · rfl
        intro f wz K hb hd hK
        have e6 : f 6 = .pointer (some ⟨bl, ol + p1 * 3, none⟩) := plainAt (s := 48) (cs := []) (hd 6 (by decide)) rfl
        have d0 := (hb.cell (p := ⟨bl, ol + p1 * 3, none⟩) hbl).trans f1
        have d1 := (hb.cell (p := ⟨bl, ol + p1 * 3 + 1, none⟩) hbl).trans f2
        have d2 := (hb.cell (p := ⟨bl, ol + p1 * 3 + 2, none⟩) hbl).trans f3
        simp only [setN, upd, Nat.reduceAdd, Nat.reduceEqDiff, reduceIte, List.setIfInBounds_toArray, List.set_cons_zero, List.set_cons_succ] at hK ⊢
        simp only [e6] at hK ⊢
        refine wpOp_do rfl (by kernel_rfl) ?_
        unfold Oper.wp execOp
        go_simp
        exact hK _ _ (Below.refl _ _) rfl (fun k h => by cases h)
      · with_reducible refine DoesN.plain (s := 50) (v := .slice (some ⟨br, orr, none⟩) r.length tc) ?_ ?_
        · rfl
        intro f wz K hb hd hK
        simp only [setN, upd, Nat.reduceAdd, Nat.reduceEqDiff, reduceIte, List.setIfInBounds_toArray, List.set_cons_zero, List.set_cons_succ] at hK ⊢
        refine wpOp_do rfl (by kernel_rfl) ?_
        unfold Oper.wp execOp
        go_simp
        exact hK _ (Below.refl _ _)
      · with_reducible refine DoesN.plain (s := 51) (v := .int .i64 jj) ?_ ?_
        · rfl
        intro f wz K hb hd hK
        simp only [setN, upd, Nat.reduceAdd, Nat.reduceEqDiff, reduceIte, List.setIfInBounds_toArray, List.set_cons_zero, List.set_cons_succ] at hK ⊢
        refine wpOp_do rfl (by kernel_rfl) ?_
        unfold Oper.wp execOp
        go_simp
        exact hK _ (Below.refl _ _)
      · with_reducible refine DoesN.plain (s := 52) (v := .int .i64 (m2 : Int)) ?_ ?_
        · rfl
        intro f wz K hb hd hK
        have e9 : f 9 = .int .i64 jj := plainAt (s := 51) (cs := []) (hd 9 (by decide)) rfl
        simp only [setN, upd, Nat.reduceAdd, Nat.reduceEqDiff, reduceIte, List.setIfInBounds_toArray, List.set_cons_zero, List.set_cons_succ] at hK ⊢
        simp only [e9] at hK ⊢
        refine wpOp_do rfl (by kernel_rfl) ?_
        unfold Oper.wp execOp
        go_simp
        exact hK _ (Below.refl _ _)
      · with_reducible refine DoesN.plain (s := 53) (v := .slice (some ⟨br, orr, none⟩) r.length tc) ?_ ?_
        · rfl
        intro f wz K hb hd hK
        simp only [setN, upd, Nat.reduceAdd, Nat.reduceEqDiff, reduceIte, List.setIfInBounds_toArray, List.set_cons_zero, List.set_cons_succ] at hK ⊢
        refine wpOp_do rfl (by kernel_rfl) ?_
        unfold Oper.wp execOp
        go_simp
        exact hK _ (Below.refl _ _)
      · with_reducible refine DoesN.plain (s := 54) (v := .int .i64 ((r.length : Nat) : Int)) ?_ ?_
        · rfl
        intro f wz K hb hd hK
        have e11 : f 11 = .slice (some ⟨br, orr, none⟩) r.length tc := plainAt (s := 53) (cs := []) (hd 11 (by decide)) rfl
        simp only [setN, upd, Nat.reduceAdd, Nat.reduceEqDiff, reduceIte, List.setIfInBounds_toArray, List.set_cons_zero, List.set_cons_succ] at hK ⊢
        simp only [e11] at hK ⊢
        refine wpOp_do rfl (by kernel_rfl) ?_
        unfold Oper.wp execOp
        go_simp
        exact hK _ (Below.refl _ _)
      · with_reducible refine DoesN.plain (s := 55) (v := .int .i64 (p2 : Int)) ?_ ?_
        · rfl
        intro f wz K hb hd hK
        have e10 : f 10 = .int .i64 (m2 : Int) := plainAt (s := 52) (cs := []) (hd 10 (by decide)) rfl
        have e12 : f 12 = .int .i64 ((r.length : Nat) : Int) := plainAt (s := 54) (cs := []) (hd 12 (by decide)) rfl
        simp only [setN, upd, Nat.reduceAdd, Nat.reduceEqDiff, reduceIte, List.setIfInBounds_toArray, List.set_cons_zero, List.set_cons_succ] at hK ⊢
        simp only [e10, e12] at hK ⊢
        refine wpOp_do rfl (by kernel_rfl) ?_
        unfold Oper.wp execOp
        go_simp
        exact hK _ (Below.refl _ _)
      · with_reducible refine DoesN.plain (s := 56) (v := .pointer (some ⟨br, orr + p2 * 3, none⟩)) ?_ ?_
        · rfl
        intro f wz K hb hd hK
        have e8 : f 8 = .slice (some ⟨br, orr, none⟩) r.length tc := plainAt (s := 50) (cs := []) (hd 8 (by decide)) rfl
        have e13 : f 13 = .int .i64 (p2 : Int) := plainAt (s := 55) (cs := []) (hd 13 (by decide)) rfl
        simp only [setN, upd, Nat.reduceAdd, Nat.reduceEqDiff, reduceIte, List.setIfInBounds_toArray, List.set_cons_zero, List.set_cons_succ] at hK ⊢
        simp only [e8, e13] at hK ⊢
        refine wpOp_do rfl (by kernel_rfl) ?_
        unfold Oper.wp execOp
        go_simp
        exact hK _ (Below.refl _ _)
      · with_reducible refine DoesN.val (s := 57) (R := (Res.plain (.agg #[.int .i64 z1, .string (S z2), .int .i64 z3]) [.int .i64 z1, .string (S z2), .int .i64 z3])) ?_ ?_
        · rfl
        intro f wz K hb hd hK
        have e14 : f 14 = .pointer (some ⟨br, orr + p2 * 3, none⟩) := plainAt (s := 56) (cs := []) (hd 14 (by decide)) rfl
        have d0 := (hb.cell (p := ⟨br, orr + p2 * 3, none⟩) hbr).trans g1
        have d1 := (hb.cell (p := ⟨br, orr + p2 * 3 + 1, none⟩) hbr).trans g2
        have d2 := (hb.cell (p := ⟨br, orr + p2 * 3 + 2, none⟩) hbr).trans g3
        simp only [setN, upd, Nat.reduceAdd, Nat.reduceEqDiff, reduceIte, List.setIfInBounds_toArray, List.set_cons_zero, List.set_cons_succ] at hK ⊢
        simp only [e14] at hK ⊢
        refine wpOp_do rfl (by kernel_rfl) ?_
        unfold Oper.wp execOp
        go_simp
        exact hK _ _ (Below.refl _ _) rfl (fun k h => by cases h)
      · with_reducible refine DoesN.box (s := 16) (n := 3) (t := 30) ?_ ?_
        · rfl
        intro f wz K
        refine ⟨[.int .i64 0, .string ⟨#[]⟩, .int .i64 0], rfl, fun hK => ?_⟩
        unfold ptr at hK
        simp only [setN, upd, Nat.reduceAdd, Nat.reduceEqDiff, reduceIte, List.setIfInBounds_toArray, List.set_cons_zero, List.set_cons_succ] at hK ⊢
        refine wpOp_do rfl (by kernel_rfl) ?_
        unfold Oper.wp execOp
        go_simp
        exact hK
      · with_reducible refine DoesN.box (s := 17) (n := 3) (t := 30) ?_ ?_
        · rfl
        intro f wz K
        refine ⟨[.int .i64 0, .string ⟨#[]⟩, .int .i64 0], rfl, fun hK => ?_⟩
        unfold ptr at hK
        simp only [setN, upd, Nat.reduceAdd, Nat.reduceEqDiff, reduceIte, List.setIfInBounds_toArray, List.set_cons_zero, List.set_cons_succ] at hK ⊢
        refine wpOp_do rfl (by kernel_rfl) ?_
        unfold Oper.wp execOp
        go_simp
        exact hK
      · with_reducible refine DoesN.put (c := 7) (b := 16) (s := 49) (R := (Res.plain (.agg #[.int .i64 y1, .string (S y2), .int .i64 y3]) [.int .i64 y1, .string (S y2), .int .i64 y3])) (s' := 16) (n := 3) (t := 30) ?_ ?_ ?_ ?_
        · rfl
        · rfl
        · rfl
        intro f wz K q ys eb hy hq hF hK
        have ev : f 7 = .agg #[.int .i64 y1, .string (S y2), .int .i64 y3] := hF
        have ec := ev
        simp only [ec, Res.plain] at hK
        simp only [setN, Nat.reduceAdd, List.setIfInBounds_toArray, List.set_cons_zero, List.set_cons_succ] at hK ⊢
        simp only [ec, eb] at hK ⊢
        match ys, hy with
        | [w1, w2, w3], _ =>
        obtain ⟨d0, d1, d2, fz⟩ := cell3 hq
        unfold ptr at *
        simp only [putL] at hK
        refine wpOp_do rfl (by kernel_rfl) ?_
        unfold Oper.wp execOp
        go_simp
        exact hK
      · with_reducible refine DoesN.put (c := 15) (b := 17) (s := 57) (R := (Res.plain (.agg #[.int .i64 z1, .string (S z2), .int .i64 z3]) [.int .i64 z1, .string (S z2), .int .i64 z3])) (s' := 17) (n := 3) (t := 30) ?_ ?_ ?_ ?_
        · rfl
        · rfl
        · rfl
        intro f wz K q ys eb hy hq hF hK
        have ev : f 15 = .agg #[.int .i64 z1, .string (S z2), .int .i64 z3] := hF
        have ec := ev
        simp only [ec, Res.plain] at hK
        simp only [setN, Nat.reduceAdd, List.setIfInBounds_toArray, List.set_cons_zero, List.set_cons_succ] at hK ⊢
        simp only [ec, eb] at hK ⊢
        match ys, hy with
        | [w1, w2, w3], _ =>
        obtain ⟨d0, d1, d2, fz⟩ := cell3 hq
        unfold ptr at *
        simp only [putL] at hK
        refine wpOp_do rfl (by kernel_rfl) ?_
        unfold Oper.wp execOp
        go_simp
        exact hK
    · intro f wE hbE hv hp hne ho
      have h0 : f 0 = .slice (some ⟨bl, ol, none⟩) l.length sc := plainAt (s := 42) (cs := []) (hv 0) rfl
      have h1 : f 1 = .int .i64 ii := plainAt (s := 43) (cs := []) (hv 1) rfl
      have h2 : f 2 = .int .i64 (m1 : Int) := plainAt (s := 44) (cs := []) (hv 2) rfl
      have h3 : f 3 = .slice (some ⟨bl, ol, none⟩) l.length sc := plainAt (s := 45) (cs := []) (hv 3) rfl
      have h4 : f 4 = .int .i64 ((l.length : Nat) : Int) := plainAt (s := 46) (cs := []) (hv 4) rfl
      have h5 : f 5 = .int .i64 (p1 : Int) := plainAt (s := 47) (cs := []) (hv 5) rfl
      have h6 : f 6 = .pointer (some ⟨bl, ol + p1 * 3, none⟩) := plainAt (s := 48) (cs := []) (hv 6) rfl
      have h8 : f 8 = .slice (some ⟨br, orr, none⟩) r.length tc := plainAt (s := 50) (cs := []) (hv 8) rfl
      have h9 : f 9 = .int .i64 jj := plainAt (s := 51) (cs := []) (hv 9) rfl
      have h10 : f 10 = .int .i64 (m2 : Int) := plainAt (s := 52) (cs := []) (hv 10) rfl
      have h11 : f 11 = .slice (some ⟨br, orr, none⟩) r.length tc := plainAt (s := 53) (cs := []) (hv 11) rfl
      have h12 : f 12 = .int .i64 ((r.length : Nat) : Int) := plainAt (s := 54) (cs := []) (hv 12) rfl
      have h13 : f 13 = .int .i64 (p2 : Int) := plainAt (s := 55) (cs := []) (hv 13) rfl
      have h14 : f 14 = .pointer (some ⟨br, orr + p2 * 3, none⟩) := plainAt (s := 56) (cs := []) (hv 14) rfl
      simp only [setN, Nat.reduceAdd, List.setIfInBounds_toArray, List.set_cons_zero, List.set_cons_succ]
      simp only [h0, h1, h2, h3, h4, h5, h6, h8, h9, h10, h11, h12, h13, h14]
      clear h0 h1 h2 h3 h4 h5 h6 h8 h9 h10 h11 h12 h13 h14
      have hR : f 7 = .agg #[.int .i64 y1, .string (S y2), .int .i64 y3] := factAt (s := 49) (R := (Res.plain (.agg #[.int .i64 y1, .string (S y2), .int .i64 y3]) [.int .i64 y1, .string (S y2), .int .i64 y3])) (hv 7) rfl
      have hT : f 15 = .agg #[.int .i64 z1, .string (S z2), .int .i64 z3] := factAt (s := 57) (R := (Res.plain (.agg #[.int .i64 z1, .string (S z2), .int .i64 z3]) [.int .i64 z1, .string (S z2), .int .i64 z3])) (hv 15) rfl
      simp only [hR, hT]
      clear hR hT
      obtain ⟨qA, eA, gA, bA⟩ := putAt (c := 7) (b := 16) (s := 49) (R := (Res.plain (.agg #[.int .i64 y1, .string (S y2), .int .i64 y3]) [.int .i64 y1, .string (S y2), .int .i64 y3])) (s' := 16) (n := 3) (t := 30) (hp 18) rfl rfl rfl
      obtain ⟨qB, eB, gB, bB⟩ := putAt (c := 15) (b := 17) (s := 57) (R := (Res.plain (.agg #[.int .i64 z1, .string (S z2), .int .i64 z3]) [.int .i64 z1, .string (S z2), .int .i64 z3])) (s' := 17) (n := 3) (t := 30) (hp 19) rfl rfl rfl
      simp only [Res.plain] at bA bB
      simp only [eA, eB, ptr]
      have HL8 := hide ((unhide HL7).trans (hbE.mono (unhide HL7).size))
      have HX8 := (hbE.block _ (block_lt (unhide HX7))).trans (unhide HX7)
      have HC8 := (hbE.block _ (block_lt (unhide HC7))).trans (unhide HC7)
      have HD8 := (hbE.block _ (block_lt (unhide HD7))).trans (unhide HD7)
      have HR8 := bA
      have HT8 := bB
      have HXO8 := hide (ownsRow_below (unhide HXO7) hbE)
      clear hv hp hne ho hbE eA eB gA gB bA bB HX7 HC7 HD7 HL7 HXO7 f1 f2 f3 g1 g2 g3 hbl hbr
      have HO1 := hide (fun wz : World => lown_any (w := wz) V1 ⟨y1, y2, y3⟩)
      have HO2 := hide (fun wz : World => lown_any (w := wz) V2 ⟨z1, z2, z3⟩)
      have HCO := hide (fun (wz : World) (hb : Below wE.heap.size wE wz) => conflict_any ((unhide HMD).later ((unhide HL8).trans (hb.mono (unhide HL8).size))) (V1, ⟨y1, y2, y3⟩) (V2, ⟨z1, z2, z3⟩) (MC.may_op (unhide HV1)) (MC.may_op (unhide HV2)))
      obtain ⟨E, hE⟩ : ∃ E, conM (V1, ⟨y1, y2, y3⟩) (V2, ⟨z1, z2, z3⟩) = E := ⟨_, rfl⟩
      have HCF := hide hE
      rw [hE] at HCO
      clear hE
      unfold mcV mrV at HO1 HO2
      dsimp only at HO1 HO2
      cases E
      · go_upto_region 9 with fail
        refine regN [.val 58 (Res.plain (.agg #[.int .i64 V1.op, .string (S V1.a), .string (S V1.b), .int .i64 V1.n]) []), .val 59 (Res.plain (.agg #[.int .i64 y1, .string (S y2), .int .i64 y3]) []), .val 60 (Res.plain (stV (V1, ⟨y1, y2, y3⟩)) []), .val 61 (Res.plain (.agg #[.int .i64 V2.op, .string (S V2.a), .string (S V2.b), .int .i64 V2.n]) []), .val 62 (Res.plain (.agg #[.int .i64 z1, .string (S z2), .int .i64 z3]) []), .val 63 (Res.plain (stV (V2, ⟨z1, z2, z3⟩)) []), .val 64 (Res.plain (.bool false) [])] (fun i => if i = 2 then [0, 1] else if i = 5 then [3, 4] else if i = 6 then [2, 5] else []) ?_ ?_ ?_ ?_ ?_ ?_ ?_ (fun i hi => ?_) ?_
        · kernel_rfl
        · rfl
        · kernel_rfl
        · kernel_rfl
        · kernel_rfl
        · kernel_rfl
        · kernel_rfl
        · have hc : i = 0 ∨ i = 1 ∨ i = 2 ∨ i = 3 ∨ i = 4 ∨ i = 5 ∨ i = 6 := by have : i < 7 := hi; omega
          clear hi
          rcases hc with rfl | rfl | rfl | rfl | rfl | rfl | rfl
          · with_reducible refine DoesN.plain (s := 58) (v := .agg #[.int .i64 V1.op, .string (S V1.a), .string (S V1.b), .int .i64 V1.n]) ?_ ?_
            · rfl
            intro f wz K hb hd hK
            obtain ⟨d0, d1, d2, d3, _⟩ := cell4 ((hb.block _ (block_lt HC8)).trans HC8)
            simp only [setN, upd, Nat.reduceAdd, Nat.reduceEqDiff, reduceIte, List.setIfInBounds_toArray, List.set_cons_zero, List.set_cons_succ] at hK ⊢
            refine wpOp_do rfl (by kernel_rfl) ?_
            unfold Oper.wp execOp
            go_simp
            exact hK _ (Below.refl _ _)
          · with_reducible refine DoesN.plain (s := 59) (v := .agg #[.int .i64 y1, .string (S y2), .int .i64 y3]) ?_ ?_
            · rfl
            intro f wz K hb hd hK
            obtain ⟨d0, d1, d2, _⟩ := cell3 ((hb.block _ (block_lt HR8)).trans HR8)
            simp only [setN, upd, Nat.reduceAdd, Nat.reduceEqDiff, reduceIte, List.setIfInBounds_toArray, List.set_cons_zero, List.set_cons_succ] at hK ⊢
            refine wpOp_do rfl (by kernel_rfl) ?_
            unfold Oper.wp execOp
            go_simp
            exact hK _ (Below.refl _ _)
          · with_reducible refine DoesN.plain (s := 60) (v := stV (V1, ⟨y1, y2, y3⟩)) ?_ ?_
            · rfl
            intro f wz K hb hd hK
            have e0 : f 0 = .agg #[.int .i64 V1.op, .string (S V1.a), .string (S V1.b), .int .i64 V1.n] := plainAt (s := 58) (cs := []) (hd 0 (by decide)) rfl
            have e1 : f 1 = .agg #[.int .i64 y1, .string (S y2), .int .i64 y3] := plainAt (s := 59) (cs := []) (hd 1 (by decide)) rfl
            simp only [setN, upd, Nat.reduceAdd, Nat.reduceEqDiff, reduceIte, List.setIfInBounds_toArray, List.set_cons_zero, List.set_cons_succ] at hK ⊢
            simp only [e0, e1] at hK ⊢
            refine wpOp_do rfl (by kernel_rfl) ?_
            unfold Oper.wp execOp
            go_simp
            refine (unhide HO1 _).mono ?_
            rintro e w' ⟨rfl, hb'⟩
            exact hK _ hb'
          · with_reducible refine DoesN.plain (s := 61) (v := .agg #[.int .i64 V2.op, .string (S V2.a), .string (S V2.b), .int .i64 V2.n]) ?_ ?_
            · rfl
            intro f wz K hb hd hK
            obtain ⟨d0, d1, d2, d3, _⟩ := cell4 ((hb.block _ (block_lt HD8)).trans HD8)
            simp only [setN, upd, Nat.reduceAdd, Nat.reduceEqDiff, reduceIte, List.setIfInBounds_toArray, List.set_cons_zero, List.set_cons_succ] at hK ⊢
            refine wpOp_do rfl (by kernel_rfl) ?_
            unfold Oper.wp execOp
            go_simp
            exact hK _ (Below.refl _ _)
          · with_reducible refine DoesN.plain (s := 62) (v := .agg #[.int .i64 z1, .string (S z2), .int .i64 z3]) ?_ ?_
            · rfl
            intro f wz K hb hd hK
            obtain ⟨d0, d1, d2, _⟩ := cell3 ((hb.block _ (block_lt HT8)).trans HT8)
            simp only [setN, upd, Nat.reduceAdd, Nat.reduceEqDiff, reduceIte, List.setIfInBounds_toArray, List.set_cons_zero, List.set_cons_succ] at hK ⊢
            refine wpOp_do rfl (by kernel_rfl) ?_
            unfold Oper.wp execOp
            go_simp
            exact hK _ (Below.refl _ _)
          · with_reducible refine DoesN.plain (s := 63) (v := stV (V2, ⟨z1, z2, z3⟩)) ?_ ?_
            · rfl
            intro f wz K hb hd hK
            have e3 : f 3 = .agg #[.int .i64 V2.op, .string (S V2.a), .string (S V2.b), .int .i64 V2.n] := plainAt (s := 61) (cs := []) (hd 3 (by decide)) rfl
            have e4 : f 4 = .agg #[.int .i64 z1, .string (S z2), .int .i64 z3] := plainAt (s := 62) (cs := []) (hd 4 (by decide)) rfl
            simp only [setN, upd, Nat.reduceAdd, Nat.reduceEqDiff, reduceIte, List.setIfInBounds_toArray, List.set_cons_zero, List.set_cons_succ] at hK ⊢
            simp only [e3, e4] at hK ⊢
            refine wpOp_do rfl (by kernel_rfl) ?_
            unfold Oper.wp execOp
            go_simp
            refine (unhide HO2 _).mono ?_
            rintro e w' ⟨rfl, hb'⟩
            exact hK _ hb'
          · with_reducible refine DoesN.plain (s := 64) (v := .bool false) ?_ ?_
            · rfl
            intro f wz K hb hd hK
            have e2 : f 2 = stV (V1, ⟨y1, y2, y3⟩) := plainAt (s := 60) (cs := []) (hd 2 (by decide)) rfl
            have e5 : f 5 = stV (V2, ⟨z1, z2, z3⟩) := plainAt (s := 63) (cs := []) (hd 5 (by decide)) rfl
            simp only [setN, upd, Nat.reduceAdd, Nat.reduceEqDiff, reduceIte, List.setIfInBounds_toArray, List.set_cons_zero, List.set_cons_succ] at hK ⊢
            simp only [e2, e5] at hK ⊢
            refine wpOp_do rfl (by kernel_rfl) ?_
            unfold Oper.wp execOp
            go_simp
            refine (unhide HCO _ hb).mono ?_
            rintro e w' ⟨rfl, hb'⟩
            exact hK _ hb'
        · intro f wE hbE hv hp hne ho
          have h0 : f 0 = .agg #[.int .i64 V1.op, .string (S V1.a), .string (S V1.b), .int .i64 V1.n] := plainAt (s := 58) (cs := []) (hv 0) rfl
          have h1 : f 1 = .agg #[.int .i64 y1, .string (S y2), .int .i64 y3] := plainAt (s := 59) (cs := []) (hv 1) rfl
          have h2 : f 2 = stV (V1, ⟨y1, y2, y3⟩) := plainAt (s := 60) (cs := []) (hv 2) rfl
          have h3 : f 3 = .agg #[.int .i64 V2.op, .string (S V2.a), .string (S V2.b), .int .i64 V2.n] := plainAt (s := 61) (cs := []) (hv 3) rfl
          have h4 : f 4 = .agg #[.int .i64 z1, .string (S z2), .int .i64 z3] := plainAt (s := 62) (cs := []) (hv 4) rfl
          have h5 : f 5 = stV (V2, ⟨z1, z2, z3⟩) := plainAt (s := 63) (cs := []) (hv 5) rfl
          have h6 : f 6 = .bool false := plainAt (s := 64) (cs := []) (hv 6) rfl
          simp only [setN, Nat.reduceAdd, List.setIfInBounds_toArray, List.set_cons_zero, List.set_cons_succ]
          simp only [h0, h1, h2, h3, h4, h5, h6]
          clear h0 h1 h2 h3 h4 h5 h6
          have HLC := hide ((unhide HL8).trans (hbE.mono (unhide HL8).size))
          have hx9 := (hbE.block _ (block_lt HX8)).trans HX8
          have hc9 := (hbE.block _ (block_lt HC8)).trans HC8
          have hd9 := (hbE.block _ (block_lt HD8)).trans HD8
          have hr9 := (hbE.block _ (block_lt HR8)).trans HR8
          have ht9 := (hbE.block _ (block_lt HT8)).trans HT8
          have HXO9 := hide (ownsRow_below (unhide HXO8) hbE)
          clear hv hp hne ho hbE HX8 HC8 HD8 HR8 HT8
          obtain ⟨d0, d1, d2, _⟩ := cell3 hx9
          obtain ⟨u0, u1, u2, u3, _⟩ := cell4 hc9
          obtain ⟨k0, k1, k2, _⟩ := cell3 hr9
          obtain ⟨n0, n1, n2, n3, _⟩ := cell4 hd9
          obtain ⟨j0, j1, j2, _⟩ := cell3 ht9
          have HRC := hide (rcomm_any (x := (V1, ⟨y1, y2, y3⟩)) (y := (V2, ⟨z1, z2, z3⟩)) (unhide HXO9) (by have := may_few (unhide HMAY); omega) (MC.may_op (unhide HV1)) (MC.may_op (unhide HV2)) (may_nob (unhide HV1)) (may_nob (unhide HV2)) (VS.may.fit (unhide HMAY)))
          rw [comm_ok (x := (V1, ⟨y1, y2, y3⟩)) (y := (V2, ⟨z1, z2, z3⟩)) (VS.may.fit (unhide HMAY)) (fun h => by have h2 := (unhide HXN) h; omega) (unhide HV1) (unhide HV2) (unhide HCF)] at HRC
          unfold mcV mrV at HRC
          dsimp only at HRC
          clear hx9 hc9 hd9 hr9 ht9
          go_wp2_with fail
          refine (unhide HRC).mono ?_
          rintro e wF ⟨rfl, hbF⟩
          have HLF := hide ((unhide HLC).trans (hbF.mono (unhide HLC).size))
          clear hbF
          go_wp2_with fail
          go_ret
          exact ⟨rfl, unhide HLF⟩
      · go_upto_region 9 with fail
        refine regN [.val 58 (Res.plain (.agg #[.int .i64 V1.op, .string (S V1.a), .string (S V1.b), .int .i64 V1.n]) []), .val 59 (Res.plain (.agg #[.int .i64 y1, .string (S y2), .int .i64 y3]) []), .val 60 (Res.plain (stV (V1, ⟨y1, y2, y3⟩)) []), .val 61 (Res.plain (.agg #[.int .i64 V2.op, .string (S V2.a), .string (S V2.b), .int .i64 V2.n]) []), .val 62 (Res.plain (.agg #[.int .i64 z1, .string (S z2), .int .i64 z3]) []), .val 63 (Res.plain (stV (V2, ⟨z1, z2, z3⟩)) []), .val 64 (Res.plain (.bool true) [])] (fun i => if i = 2 then [0, 1] else if i = 5 then [3, 4] else if i = 6 then [2, 5] else []) ?_ ?_ ?_ ?_ ?_ ?_ ?_ (fun i hi => ?_) ?_
        · kernel_rfl
        · rfl
        · kernel_rfl
        · kernel_rfl
        · kernel_rfl
        · kernel_rfl
        · kernel_rfl
        · have hc : i = 0 ∨ i = 1 ∨ i = 2 ∨ i = 3 ∨ i = 4 ∨ i = 5 ∨ i = 6 := by have : i < 7 := hi; omega
          clear hi
          rcases hc with rfl | rfl | rfl | rfl | rfl | rfl | rfl
          · with_reducible refine DoesN.plain (s := 58) (v := .agg #[.int .i64 V1.op, .string (S V1.a), .string (S V1.b), .int .i64 V1.n]) ?_ ?_
            · rfl
            intro f wz K hb hd hK
            obtain ⟨d0, d1, d2, d3, _⟩ := cell4 ((hb.block _ (block_lt HC8)).trans HC8)
            simp only [setN, upd, Nat.reduceAdd, Nat.reduceEqDiff, reduceIte, List.setIfInBounds_toArray, List.set_cons_zero, List.set_cons_succ] at hK ⊢
            refine wpOp_do rfl (by kernel_rfl) ?_
            unfold Oper.wp execOp
            go_simp
            exact hK _ (Below.refl _ _)
          · with_reducible refine DoesN.plain (s := 59) (v := .agg #[.int .i64 y1, .string (S y2), .int .i64 y3]) ?_ ?_
            · rfl
            intro f wz K hb hd hK
            obtain ⟨d0, d1, d2, _⟩ := cell3 ((hb.block _ (block_lt HR8)).trans HR8)
            simp only [setN, upd, Nat.reduceAdd, Nat.reduceEqDiff, reduceIte, List.setIfInBounds_toArray, List.set_cons_zero, List.set_cons_succ] at hK ⊢
            refine wpOp_do rfl (by kernel_rfl) ?_
            unfold Oper.wp execOp
            go_simp
            exact hK _ (Below.refl _ _)
          · with_reducible refine DoesN.plain (s := 60) (v := stV (V1, ⟨y1, y2, y3⟩)) ?_ ?_
            · rfl
            intro f wz K hb hd hK
            have e0 : f 0 = .agg #[.int .i64 V1.op, .string (S V1.a), .string (S V1.b), .int .i64 V1.n] := plainAt (s := 58) (cs := []) (hd 0 (by decide)) rfl
            have e1 : f 1 = .agg #[.int .i64 y1, .string (S y2), .int .i64 y3] := plainAt (s := 59) (cs := []) (hd 1 (by decide)) rfl
            simp only [setN, upd, Nat.reduceAdd, Nat.reduceEqDiff, reduceIte, List.setIfInBounds_toArray, List.set_cons_zero, List.set_cons_succ] at hK ⊢
            simp only [e0, e1] at hK ⊢
            refine wpOp_do rfl (by kernel_rfl) ?_
            unfold Oper.wp execOp
            go_simp
            refine (unhide HO1 _).mono ?_
            rintro e w' ⟨rfl, hb'⟩
            exact hK _ hb'
          · with_reducible refine DoesN.plain (s := 61) (v := .agg #[.int .i64 V2.op, .string (S V2.a), .string (S V2.b), .int .i64 V2.n]) ?_ ?_
            · rfl
            intro f wz K hb hd hK
            obtain ⟨d0, d1, d2, d3, _⟩ := cell4 ((hb.block _ (block_lt HD8)).trans HD8)
            simp only [setN, upd, Nat.reduceAdd, Nat.reduceEqDiff, reduceIte, List.setIfInBounds_toArray, List.set_cons_zero, List.set_cons_succ] at hK ⊢
            refine wpOp_do rfl (by kernel_rfl) ?_
            unfold Oper.wp execOp
            go_simp
            exact hK _ (Below.refl _ _)
          · with_reducible refine DoesN.plain (s := 62) (v := .agg #[.int .i64 z1, .string (S z2), .int .i64 z3]) ?_ ?_
            · rfl
            intro f wz K hb hd hK
            obtain ⟨d0, d1, d2, _⟩ := cell3 ((hb.block _ (block_lt HT8)).trans HT8)
            simp only [setN, upd, Nat.reduceAdd, Nat.reduceEqDiff, reduceIte, List.setIfInBounds_toArray, List.set_cons_zero, List.set_cons_succ] at hK ⊢
            refine wpOp_do rfl (by kernel_rfl) ?_
            unfold Oper.wp execOp
            go_simp
            exact hK _ (Below.refl _ _)
          · with_reducible refine DoesN.plain (s := 63) (v := stV (V2, ⟨z1, z2, z3⟩)) ?_ ?_
            · rfl
            intro f wz K hb hd hK
            have e3 : f 3 = .agg #[.int .i64 V2.op, .string (S V2.a), .string (S V2.b), .int .i64 V2.n] := plainAt (s := 61) (cs := []) (hd 3 (by decide)) rfl
            have e4 : f 4 = .agg #[.int .i64 z1, .string (S z2), .int .i64 z3] := plainAt (s := 62) (cs := []) (hd 4 (by decide)) rfl
            simp only [setN, upd, Nat.reduceAdd, Nat.reduceEqDiff, reduceIte, List.setIfInBounds_toArray, List.set_cons_zero, List.set_cons_succ] at hK ⊢
            simp only [e3, e4] at hK ⊢
            refine wpOp_do rfl (by kernel_rfl) ?_
            unfold Oper.wp execOp
            go_simp
            refine (unhide HO2 _).mono ?_
            rintro e w' ⟨rfl, hb'⟩
            exact hK _ hb'
          · with_reducible refine DoesN.plain (s := 64) (v := .bool true) ?_ ?_
            · rfl
            intro f wz K hb hd hK
            have e2 : f 2 = stV (V1, ⟨y1, y2, y3⟩) := plainAt (s := 60) (cs := []) (hd 2 (by decide)) rfl
            have e5 : f 5 = stV (V2, ⟨z1, z2, z3⟩) := plainAt (s := 63) (cs := []) (hd 5 (by decide)) rfl
            simp only [setN, upd, Nat.reduceAdd, Nat.reduceEqDiff, reduceIte, List.setIfInBounds_toArray, List.set_cons_zero, List.set_cons_succ] at hK ⊢
            simp only [e2, e5] at hK ⊢
            refine wpOp_do rfl (by kernel_rfl) ?_
            unfold Oper.wp execOp
            go_simp
            refine (unhide HCO _ hb).mono ?_
            rintro e w' ⟨rfl, hb'⟩
            exact hK _ hb'
        · intro f wE hbE hv hp hne ho
          have h0 : f 0 = .agg #[.int .i64 V1.op, .string (S V1.a), .string (S V1.b), .int .i64 V1.n] := plainAt (s := 58) (cs := []) (hv 0) rfl
          have h1 : f 1 = .agg #[.int .i64 y1, .string (S y2), .int .i64 y3] := plainAt (s := 59) (cs := []) (hv 1) rfl
          have h2 : f 2 = stV (V1, ⟨y1, y2, y3⟩) := plainAt (s := 60) (cs := []) (hv 2) rfl
          have h3 : f 3 = .agg #[.int .i64 V2.op, .string (S V2.a), .string (S V2.b), .int .i64 V2.n] := plainAt (s := 61) (cs := []) (hv 3) rfl
          have h4 : f 4 = .agg #[.int .i64 z1, .string (S z2), .int .i64 z3] := plainAt (s := 62) (cs := []) (hv 4) rfl
          have h5 : f 5 = stV (V2, ⟨z1, z2, z3⟩) := plainAt (s := 63) (cs := []) (hv 5) rfl
          have h6 : f 6 = .bool true := plainAt (s := 64) (cs := []) (hv 6) rfl
          simp only [setN, Nat.reduceAdd, List.setIfInBounds_toArray, List.set_cons_zero, List.set_cons_succ]
          simp only [h0, h1, h2, h3, h4, h5, h6]
          clear h0 h1 h2 h3 h4 h5 h6
          have HLC := hide ((unhide HL8).trans (hbE.mono (unhide HL8).size))
          have hx9 := (hbE.block _ (block_lt HX8)).trans HX8
          have hc9 := (hbE.block _ (block_lt HC8)).trans HC8
          have hd9 := (hbE.block _ (block_lt HD8)).trans HD8
          have hr9 := (hbE.block _ (block_lt HR8)).trans HR8
          have ht9 := (hbE.block _ (block_lt HT8)).trans HT8
          have HXO9 := hide (ownsRow_below (unhide HXO8) hbE)
          clear hv hp hne ho hbE HX8 HC8 HD8 HR8 HT8
          go_wp2_with fail
          go_ret
          exact ⟨rfl, unhide HLC⟩
theorem commuteStates_walk {H : Type} {enc : TypeId × Value → H} {base b0 : Nat} {spare : Nat → Bool} {held : Bool} {r : Reach} {v : Value} {d : DataW H} {p : List MemPlace} (w : World)
    (hv : Value.okWide Tryd.prog w r b0 47 v) (hd : DataW.Trod enc Tryd.prog w base spare held 47 v d p) (op : Int) (wop : (Lit.int .i64 op).wf = true) (ca : ByteArray) (wca : ca.size ≤ maxLen) (cb : ByteArray) (wcb : cb.size ≤ maxLen) (cn : Int) (wcn : (Lit.int .i64 cn).wf = true)
    (op' : Int) (wop' : (Lit.int .i64 op').wf = true) (ca' : ByteArray) (wca' : ca'.size ≤ maxLen) (cb' : ByteArray) (wcb' : cb'.size ≤ maxLen) (cn' : Int) (wcn' : (Lit.int .i64 cn').wf = true) (ii : Int) (wii : (Lit.int .i64 ii).wf = true) (jj : Int) (wjj : (Lit.int .i64 jj).wf = true) (hw : MD w) :
    Calls Tryd.prog 4 #[v, .agg #[.int .i64 op, .string ca, .string cb, .int .i64 cn], .agg #[.int .i64 op', .string ca', .string cb', .int .i64 cn'], .int .i64 ii, .int .i64 jj] w fun e w' => e = .returned (.bool true) ∧ Below w.heap.size w w' := by
  obtain ⟨s, hs, _, hn, hz⟩ := open_state hv hd
  exact qstates_any hs hn hz op ca cb cn (vwf_i64 wop) (vwf_i64 wcn) wca wcb op' ca' cb' cn' (vwf_i64 wop') (vwf_i64 wcn') wca' wcb' ii jj hw
end Go.Proofs.YteaiidcconggcaaDoor
/- Steps none of which conflicts with another one: in any order they are legal, and come to the same. -/
namespace Go.Proofs.YteaiidcconggcaaDoor
open Go.RowKit
set_option linter.unusedVariables false
set_option maxRecDepth 100000

theorem conM_symm (x y : Stp) : conM x y = conM y x := by
  unfold conM
  rw [Bool.or_comm (upsM x y), Bool.and_comm (posM x) (posM y)]
  congr 2
  rw [decide_eq_decide]
  exact ⟨Eq.symm, Eq.symm⟩
/- Room for so many steps more. -/
def Room (s : VS) (k : Nat) : Prop := s.kind = 3 → 0 ≤ s.n ∧ s.n + 1048576 * (k : Int) ≤ 1152921504606846976
theorem Room.now {s : VS} {k : Nat} (h : Room s k) : s.kind = 3 → 0 ≤ s.n ∧ s.n ≤ 1152921504606846976 := fun e => by
  have := h e
  omega
theorem Room.next {s : VS} {k : Nat} (h : Room s (k + 1)) {x : Stp} (hx : x.1.may) (lx : x.2 ∈ answers s x.1) : Room (apply2 s x.1 x.2) k := by
  intro e
  rw [apply_kind] at e
  obtain ⟨h1, h2⟩ := h e
  have kx := ans_kind lx
  have hox := MC.may_op hx
  have hn := fun h => may_n hx h
  obtain ⟨_, _, x3, _⟩ := ops_of hox
  obtain ⟨⟨op, a, b, n⟩, r⟩ := x
  dsimp only at *
  by_cases hc : mchanges op n r.code = false
  · rw [ap_same hc]
    omega
  have hc1 : mchanges op n r.code = true := by simpa using hc
  rw [apOp kx hc1]
  rcases x3 (by omega) with rfl | rfl | rfl
  · have := hn (Or.inl rfl)
    rw [if_neg (by decide), if_pos (by decide)]
    show 0 ≤ wrap64 (s.n + n) ∧ wrap64 (s.n + n) + _ ≤ _
    unfold wrap64
    omega
  · have := hn (Or.inr rfl)
    have hr1 : r.code = 1 := by simpa [mchanges] using hc1
    rw [ans6 e] at lx
    have hle : n ≤ s.n := by simpa using (okR_one (List.mem_singleton.mp lx)).1 hr1
    rw [if_neg (by decide), if_neg (by decide), if_pos rfl]
    show 0 ≤ wrap64 (s.n - n) ∧ wrap64 (s.n - n) + _ ≤ _
    unfold wrap64
    omega
  · simp [mchanges] at hc1
/- All are legal in a state, and none conflicts with another one. -/
structure Calm (s : VS) (l : List Stp) : Prop where
  may : ∀ x ∈ l, x.1.may
  ok : ∀ x ∈ l, x.2 ∈ answers s x.1
  free : l.Pairwise fun x y => conM x y = false
theorem calm_ups {s : VS} (hm : s.kind = 3 → 0 ≤ s.n) {x y : Stp} (hx : okOp x.1.op) (hy : okOp y.1.op) (lx : x.2 ∈ answers s x.1) (ly : y.2 ∈ answers s y.1) (h : conM x y = false) : upsM x y = false ∧ upsM y x = false := by
  have p1 := pos_legal (x := x) hm hx lx
  have p2 := pos_legal (x := y) hm hy ly
  have hkk : kd x = kd y := (ans_kind lx).trans (ans_kind ly).symm
  unfold conM at h
  rw [p1, p2, decide_eq_true hkk] at h
  constructor
  · cases g : upsM x y <;> simp [g] at h ⊢
  · cases g : upsM y x <;> simp [g] at h ⊢
theorem Calm.next {s : VS} {x : Stp} {l : List Stp} {k : Nat} (h : Calm s (x :: l)) (hf : s.fit) (hr : Room s (k + 1)) : Calm (apply2 s x.1 x.2) l := by
  obtain ⟨h1, h2⟩ := List.pairwise_cons.mp h.free
  refine ⟨fun y hy => h.may y (List.mem_cons_of_mem _ hy), fun y hy => ?_, h2⟩
  have lx := h.ok x (List.mem_cons_self ..)
  have ly := h.ok y (List.mem_cons_of_mem _ hy)
  have hmx := h.may x (List.mem_cons_self ..)
  have hmy := h.may y (List.mem_cons_of_mem _ hy)
  exact half hf hr.now hmx hmy lx ly (calm_ups (fun e => (hr.now e).1) (MC.may_op hmx) (MC.may_op hmy) lx ly (h1 y hy)).1
/- One behind the other they are legal. -/
theorem Calm.runs {s : VS} {l : List Stp} (h : Calm s l) (hf : s.fit) (hr : Room s l.length) : ∀ k (hk : k < l.length), legal (runSt s (l.take k)) (l[k]'hk).1 (l[k]'hk).2 = true := by
  induction l generalizing s with
  | nil => intro k hk; simp at hk
  | cons x t ih =>
    intro k hk
    have hn := h.next hf (by simpa using hr)
    cases k with
    | zero => exact legal_mem.2 (h.ok x (List.mem_cons_self ..))
    | succ k =>
      have := ih hn (hf.apply (MC.may_op (h.may x (List.mem_cons_self ..))) _) (Room.next (by simpa using hr) (h.may x (List.mem_cons_self ..)) (h.ok x (List.mem_cons_self ..))) k (by simpa using hk)
      simpa [runSt] using this
theorem Calm.perm {s : VS} {l m : List Stp} (h : Calm s l) (hp : l.Perm m) : Calm s m :=
  ⟨fun x hx => h.may x (hp.mem_iff.2 hx), fun x hx => h.ok x (hp.mem_iff.2 hx), (hp.pairwise_iff (fun {x y} e => by rw [conM_symm]; exact e)).1 h.free⟩
/- In whatever order they come to the same. -/
theorem Calm.same {s : VS} {l m : List Stp} (h : Calm s l) (hf : s.fit) (hr : Room s l.length) (hp : l.Perm m) : runSt s l = runSt s m := by
  induction hp generalizing s with
  | nil => rfl
  | cons x _ ih => exact ih (h.next hf (by simpa using hr)) (hf.apply (MC.may_op (h.may x (List.mem_cons_self ..))) _) (Room.next (by simpa using hr) (h.may x (List.mem_cons_self ..)) (h.ok x (List.mem_cons_self ..)))
  | swap x y t =>
    have hx := h.may x (by simp)
    have hy := h.may y (by simp)
    have lx := h.ok x (by simp)
    have ly := h.ok y (by simp)
    have hxy := (List.pairwise_cons.mp h.free).1 x (List.mem_cons_self ..)
    have hu := calm_ups (fun e => (hr.now e).1) (MC.may_op hy) (MC.may_op hx) ly lx hxy
    show runSt (apply2 (apply2 s y.1 y.2) x.1 x.2) t = runSt (apply2 (apply2 s x.1 x.2) y.1 y.2) t
    rw [both hf hy hx ly lx hu.1 hu.2]
  | trans p1 _ ih1 ih2 =>
    rw [ih1 h hf hr]
    exact ih2 (h.perm p1) hf (by rw [← p1.length_eq]; exact hr)
end Go.Proofs.YteaiidcconggcaaDoor
/- The contract of Among: is there one of some steps with which a step conflicts. -/
namespace Go.Proofs.YteaiidcconggcaaDoor
open Go.RowKit
set_option linter.unusedVariables false
set_option maxRecDepth 100000

set_option maxHeartbeats 12800000 in
theorem among_any {w : World} (hw : MD w) (y : Stp) (hop : okOp y.1.op) {l : List Stp} {v : Value} (hl : Row7 w v l) (hops : ∀ z ∈ l, okOp z.1.op) (hll : l.length ≤ 1000) :
    Calls Tryd.prog 21 #[stV y, v] w fun e w' => ∃ j : Int, e = .returned (.int .i64 j) ∧ (j < 0 ↔ ∀ z ∈ l, conM y z = false) ∧ Below w.heap.size w w' := by
  have HCO := hide (fun (wz : World) (hb : Below w.heap.size w wz) (k : Nat) (hk : k < l.length) => conflict_any (hw.later hb) y (l[k]'hk) hop (hops _ (List.getElem_mem hk)))
  obtain ⟨la, lc, rfl, hlc, hlm⟩ := hl.shape
  have HROW := hide hl
  obtain ⟨cf, hcf⟩ : ∃ cf : Stp → Bool, (fun z => conM y z) = cf := ⟨_, rfl⟩
  have hcf' : ∀ z, conM y z = cf z := fun z => by rw [← hcf]
  simp only [hcf'] at HCO ⊢
  obtain ⟨⟨op, a, b, n⟩, ⟨c, t, m⟩⟩ := y
  unfold stV at *
  dsimp only at *
  obtain ⟨W, hW⟩ : ∃ W, w.alloc (.cells #[.int .i64 op, .string (S a), .string (S b), .int .i64 n, .int .i64 c, .string (S t), .int .i64 m] 41) = W := ⟨_, rfl⟩
  have HYB : Hid (W.heap[w.heap.size]? = some (.cells #[.int .i64 op, .string (S a), .string (S b), .int .i64 n, .int .i64 c, .string (S t), .int .i64 m] 41 (0, 0))) := by show _ = _; rw [← hW]; exact heap_alloc_new w _
  have HLW : Hid (Below w.heap.size w W) := by show Below _ _ _; rw [← hW]; exact under_box _
  clear hl hops hw hcf hcf' hop
  go_enter Tryd.func21, Tryd.ntmps21
  go_upto_region 1 with fail
  try rw [hW]
  clear hW
  go_wp2_with fail
  go_loopw [9, 5, 6] (fun i _ _ wr => ∃ k : Nat, k ≤ l.length ∧ i = .int .i64 (k : Int) ∧ (∀ j (hj : j < l.length), j < k → cf (l[j]'hj) = false) ∧ Below W.heap.size W wr) (fun i _ _ _ => l.length - (intOf i).toNat)
  case atStart => exact ⟨0, Nat.zero_le _, rfl, fun j hj h => by omega, Below.refl _ _⟩
  case round =>
    obtain ⟨k, hk, rfl, hno, hlow⟩ := hrel
    have HNO := hide hno
    by_cases hlt : k < l.length
    · have hlw := (unhide HLW).trans (hlow.mono (unhide HLW).size)
      obtain ⟨bb, off, rfl, hbl, e0, e1, e2, e3, e4, e5, e6⟩ := (unhide HROW).at k hlt
      rw [← hlw.cell (p := ⟨bb, off + k * 7, none⟩) hbl] at e0
      rw [← hlw.cell (p := ⟨bb, off + k * 7 + 1, none⟩) hbl] at e1
      rw [← hlw.cell (p := ⟨bb, off + k * 7 + 2, none⟩) hbl] at e2
      rw [← hlw.cell (p := ⟨bb, off + k * 7 + 3, none⟩) hbl] at e3
      rw [← hlw.cell (p := ⟨bb, off + k * 7 + 4, none⟩) hbl] at e4
      rw [← hlw.cell (p := ⟨bb, off + k * 7 + 5, none⟩) hbl] at e5
      rw [← hlw.cell (p := ⟨bb, off + k * 7 + 6, none⟩) hbl] at e6
      have HCK := hide (fun (wz : World) (hb : Below w.heap.size w wz) => unhide HCO wz hb k hlt)
      have HIN := hide (List.getElem_mem hlt)
      have HNX : Hid (cf (l[k]'hlt) = false → ∀ j (hj : j < l.length), j < k + 1 → cf (l[j]'hj) = false) := fun h j hj hjk => by
        by_cases e : j = k
        · subst e; exact h
        · exact unhide HNO j hj (by omega)
      generalize l[k]'hlt = q at *
      obtain ⟨⟨q1, q2, q3, q4⟩, ⟨q5, q6, q7⟩⟩ := q
      dsimp only at *
      have hi0 : (0 : Int) ≤ (k : Int) := by omega
      have hi1 : (k : Int) < ((l.length : Nat) : Int) := by omega
      have hne : wr.heap.size ≠ bb := by have := hlw.size; omega
      obtain ⟨W2, hW2⟩ : ∃ W2, wr.alloc (.cells #[.int .i64 q1, .string (S q2), .string (S q3), .int .i64 q4, .int .i64 q5, .string (S q6), .int .i64 q7] 41) = W2 := ⟨_, rfl⟩
      have hb2 : Below wr.heap.size wr W2 := by rw [← hW2]; exact under_box _
      have hc2 : W2.heap[wr.heap.size]? = some (.cells #[.int .i64 q1, .string (S q2), .string (S q3), .int .i64 q4, .int .i64 q5, .string (S q6), .int .i64 q7] 41 (0, 0)) := by rw [← hW2]; exact heap_alloc_new wr _
      have hl2 := hlow.trans (hb2.mono hlow.size)
      have HL2 := hide hl2
      have HYC := hide ((hl2.block _ (block_lt (unhide HYB))).trans (unhide HYB))
      have HC2 := hide hc2
      clear hlw hlow hno hb2 hc2 hl2
      go_upto_region 4 with fail
      try rw [hW2]
      clear hW2 e0 e1 e2 e3 e4 e5 e6
      obtain ⟨p0, p1, p2, p3, p4, p5, p6⟩ := cells7 (unhide HYC)
      obtain ⟨s0, s1, s2, s3, s4, s5, s6⟩ := cells7 (unhide HC2)
      go_wp2_with fail
      refine (unhide HCK _ ((unhide HLW).trans ((unhide HL2).mono (unhide HLW).size))).mono ?_
      rintro e w3 ⟨rfl, hb2⟩
      have HL3 := hide ((unhide HL2).trans (hb2.mono (unhide HL2).size))
      obtain ⟨CC, hCC⟩ : ∃ CC, cf (⟨q1, q2, q3, q4⟩, ⟨q5, q6, q7⟩) = CC := ⟨_, rfl⟩
      have HCC := hide hCC
      simp only [hCC]
      clear hb2 hCC s0 s1 s2 s3 s4 s5 s6 p0 p1 p2 p3 p4 p5 p6
      cases CC
      · go_wp2_with fail
        go_roundw
        case rel => exact ⟨k + 1, by omega, by go_num, unhide HNX (unhide HCC), unhide HL3⟩
        case measure => simp [intOf]; omega
      · go_wp2_with fail
        go_ret
        refine ⟨_, rfl, ⟨fun h => by omega, fun h => ?_⟩, (unhide HLW).trans ((unhide HL3).mono (unhide HLW).size)⟩
        have := h _ (unhide HIN)
        rw [unhide HCC] at this
        cases this
    · have hkn : k = l.length := by omega
      subst hkn
      have hi1 : ¬ ((l.length : Nat) : Int) < ((l.length : Nat) : Int) := by omega
      have HL3 := hide hlow
      clear hlow hno
      go_wp2_with fail
      go_ret
      have hall : ∀ z ∈ l, cf z = false := fun z hz => by
        obtain ⟨j, hj, rfl⟩ := List.getElem_of_mem hz
        exact unhide HNO j hj hj
      exact ⟨_, rfl, ⟨fun _ a b h => hall (a, b) h, fun _ => by decide⟩, (unhide HLW).trans ((unhide HL3).mono (unhide HLW).size)⟩
end Go.Proofs.YteaiidcconggcaaDoor
/- A row of steps less one, by an append of its two parts: new memory, or the first part's own. -/
namespace Go.Proofs.YteaiidcconggcaaDoor
open Go.RowKit
set_option linter.unusedVariables false
set_option maxRecDepth 100000

theorem E7_one (l : List (MC × MR)) : ∀ u ∈ E7 l, u.oneCell' = true := by
  induction l with
  | nil => intro u hu; cases hu
  | cons x r ih =>
    intro u hu
    simp only [E7, List.mem_cons] at hu
    rcases hu with rfl | rfl | rfl | rfl | rfl | rfl | rfl | hu <;> first | rfl | exact ih u hu
theorem E7_split (l : List (MC × MR)) (k : Nat) : E7 l = E7 (l.take k) ++ E7 (l.drop k) := by rw [← E7_append, List.take_append_drop]
theorem Row7.src {w : World} {a : Option Addr} {n c : Nat} {l : List (MC × MR)} {t e : TypeId} (ht : Tryd.prog.underlying t = some (.slice e)) (h : Row7 w (.slice a n c) l) : Src Tryd.prog 7 t (.slice a n c) l.length (E7 l) w := by
  obtain ⟨a', c', e0, hl, hm, h0, h3⟩ := h
  injection e0 with e1 e2 e3
  subst e1 e2 e3
  rcases a with _ | x
  · have hc := h0 rfl
    have : l = [] := List.eq_nil_of_length_eq_zero (by omega)
    subst this
    exact Src.ofNil _ ht c
  · refine Src.ofSlice _ ht x l.length c (E7 l) (E7_length l) (fun j u hu => ?_) (E7_one l)
    obtain ⟨b, off, e, _, hc⟩ := h3 j u hu
    cases e
    rw [plain_add]
    exact hc
set_option maxHeartbeats 3200000 in
theorem Row7.cutRun {w : World} {b off c : Nat} {l : List (MC × MR)} {t ty e : TypeId} {i : TypeInfo} {z : Value} (ht : Tryd.prog.underlying t = some (.slice e)) (hi : Tryd.prog.info? e = some i) (hz : i.zero = some z) (hsz : i.size = 7) (hby : i.bytes = 80) (hzs : z.cells.size = 7)
    (h : Row7 w (.slice (some ⟨b, off, none⟩) l.length c) l) (k : Nat) (hk : k < l.length) (hll : l.length ≤ 100) (o2 : Nat) (ho2 : o2 = off + (k + 1) * 7 ∨ l.length - (k + 1) = 0) :
    ∃ v' w', (Builtin.append_ #[t, t] ty #[.slice (some ⟨b, off, none⟩) k k, .slice (some ⟨b, o2, none⟩) (l.length - (k + 1)) (c - (k + 1))]).run Tryd.prog w = .ok v' w' ∧ Row7 w' v' (l.eraseIdx k) ∧ Below w.heap.size w w' ∧ (∀ q, v'.ownBlock = some q → q = b ∨ w.heap.size ≤ q) := by
  obtain ⟨a', c', e0, hl, hm, h0, h3⟩ := h
  injection e0 with e1 e2 e3
  subst e1 e3
  have hlt : (l.take k).length = k := by simp; omega
  have hld : (l.drop (k + 1)).length = l.length - (k + 1) := by simp
  have hblt : b < w.heap.size := by
    have hx : (E7 l)[0]? ≠ none := by rw [List.getElem?_eq_getElem (by rw [E7_length]; omega)]; simp
    obtain ⟨u, hu⟩ := Option.ne_none_iff_exists'.1 hx
    obtain ⟨b', off', e, hb', _⟩ := h3 0 u hu
    cases e
    exact hb'
  have hcell : ∀ j u, (E7 l)[j]? = some u → w.cell? ⟨b, off + j, none⟩ = some u := fun j u hu => by
    obtain ⟨b', off', e, _, hc⟩ := h3 j u hu
    cases e
    exact hc
  have r1 : Row7 w (.slice (some ⟨b, off, none⟩) k k) (l.take k) := ⟨_, k, by rw [hlt], by rw [hlt]; exact Nat.le_refl _, by omega, fun e => (by cases e), fun j u hu => ⟨b, off, rfl, hblt, hcell j u (by
    rw [E7_split l k, List.getElem?_append_left (by have := List.getElem?_eq_some_iff.1 hu; exact this.1)]; exact hu)⟩⟩
  have r2 : Row7 w (.slice (some ⟨b, o2, none⟩) (l.length - (k + 1)) (c - (k + 1))) (l.drop (k + 1)) := ⟨_, c - (k + 1), by rw [hld], by rw [hld]; omega, by omega, fun e => (by cases e), fun j u hu => ⟨b, o2, rfl, hblt, by
    have ho3 : o2 = off + (k + 1) * 7 := by
      rcases ho2 with h | h
      · exact h
      · have hj := (List.getElem?_eq_some_iff.1 hu).1
        rw [E7_length, hld] at hj
        omega
    subst ho3
    have hlt1 : (E7 (l.take (k + 1))).length = (k + 1) * 7 := by rw [E7_length]; simp; omega
    have := hcell ((k + 1) * 7 + j) u (by rw [E7_split l (k + 1), List.getElem?_append_right (by omega), hlt1, Nat.add_sub_cancel_left]; exact hu)
    rw [← Nat.add_assoc] at this
    exact this⟩⟩
  have s1 := r1.src ht
  have s2 := r2.src ht
  rw [hlt] at s1
  rw [hld] at s2
  have he : l.eraseIdx k = l.take k ++ l.drop (k + 1) := List.eraseIdx_eq_take_drop_succ l k
  by_cases hm0 : l.length - (k + 1) = 0
  · have hd0 : l.drop (k + 1) = [] := List.eq_nil_of_length_eq_zero (by rw [hld]; exact hm0)
    rw [hm0, hd0] at s2
    rw [hm0]
    have hr := run_append_nothing (P := Tryd.prog) w t t ty e i ht hi (some ⟨b, off, none⟩) k k (Nat.le_refl _) _ (by rw [hsz]; exact s2)
    refine ⟨_, _, hr, by rw [he, hd0, List.append_nil]; exact r1, Below.refl _ _, fun q hq => Or.inl ?_⟩
    injection hq with hq
    exact hq.symm
  · have hold := s1.cellsD
    rw [← hsz] at hold s2
    have hr := run_append_grow_src (P := Tryd.prog) w t t ty e i z ht hi hz (some ⟨b, off, none⟩) k k (E7 (l.take k)) hold _ _ _ s2 (by omega) (by omega) (growslice_fits (by omega) (by rw [hby]; omega))
    have hge := grownCap_ge w (k + (l.length - (k + 1))) k e
    have hcm2 := grownCap_le_maxLen w (k + (l.length - (k + 1))) k e (by unfold maxLen; omega)
    have hlen : (l.eraseIdx k).length = k + (l.length - (k + 1)) := by rw [he, List.length_append, hlt, hld]
    generalize hG : grownCap w (k + (l.length - (k + 1))) k e = G at *
    obtain ⟨w', hw'⟩ : ∃ w', w' = w.drew.alloc (.cells ((E7 (l.take k) ++ E7 (l.drop (k + 1))).toArray ++ Builtin.zeroCells z.cells (G - (k + (l.length - (k + 1))))) e) := ⟨_, rfl⟩
    rw [← hw'] at hr
    have hb : Below w.heap.size w w' := by rw [hw']; exact ((Below.refl w.heap.size w).drew).alloc (Nat.le_refl _) _
    have hblk : w'.heap[w.heap.size]? = some (.cells ((E7 (l.take k) ++ E7 (l.drop (k + 1))).toArray ++ Builtin.zeroCells z.cells (G - (k + (l.length - (k + 1))))) e (0, 0)) := by rw [hw']; exact heap_alloc_new w.drew _
    clear hw'
    have hrow : Row7 w' (.slice (some ⟨w.heap.size, 0, none⟩) (k + (l.length - (k + 1))) G) (l.eraseIdx k) := by
      refine ⟨_, G, by rw [hlen], by rw [hlen]; exact hge, hcm2, fun e => (by cases e), fun j u hu => ⟨w.heap.size, 0, rfl, block_lt hblk, ?_⟩⟩
      rw [Nat.zero_add, block_cell hblk]
      rw [he, E7_append] at hu
      have hj := (List.getElem?_eq_some_iff.1 hu).1
      rw [Array.getElem?_append_left (by simpa using hj)]
      simpa using hu
    have hown : ∀ q, (Value.slice (some ⟨w.heap.size, 0, none⟩) (k + (l.length - (k + 1))) G).ownBlock = some q → q = b ∨ w.heap.size ≤ q := fun q hq => by
      have hq2 : some w.heap.size = some q := hq
      have hq3 : w.heap.size = q := by injection hq2
      omega
    try rw [hsz] at hr
    exact ⟨.slice (some ⟨w.heap.size, 0, none⟩) (k + (l.length - (k + 1))) G, w', hr, hrow, hb, hown⟩
end Go.Proofs.YteaiidcconggcaaDoor
