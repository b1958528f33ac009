/- The walk of CommuteStates. -/
import Derived.Test.YteaiidcconggcaaDoorBundleQ10
import Derived.Test.YteaiidcconggcaaDoorQComm
import Derived.Test.YteaiidcconggcaaDoorBundleT9
import Derived.Test.YteaiidcconggcaaDoorBundleT7
import Derived.Test.YteaiidcconggcaaDoorVOpen
namespace Go.Proofs.YteaiidcconggcaaDoor
open Go.RowKit
set_option linter.unusedVariables false
set_option maxRecDepth 100000

def Gq (W w' : World) : Prop := Below W.heap.size W w'
theorem Gq.start (W : World) : Gq W W := Below.refl _ _
theorem Gq.drew {W w : World} (h : Gq W w) : Gq W w.drew := Below.drew h
theorem Gq.below {W w w' : World} (h : Gq W w) (hb : Below w.heap.size w w') : Gq W w' := Below.trans h (hb.mono (Below.size h))
theorem Gq.low {W w' : World} (h : Gq W w') : Below W.heap.size W w' := h
theorem Gq.cell3 {W : World} {N : Nat} {a b c : Value} {t : TypeId} (h : W.heap[N]? = some (.cells #[a, b, c] t (0, 0))) : (∀ w1, Gq W w1 → w1.cell? ⟨N, 0, none⟩ = some a) ∧ (∀ w1, Gq W w1 → w1.cell? ⟨N, 1, none⟩ = some b) ∧ (∀ w1, Gq W w1 → w1.cell? ⟨N, 2, none⟩ = some c) := by
  refine ⟨fun w1 hf => ?_, fun w1 hf => ?_, fun w1 hf => ?_⟩ <;> rw [block_cell ((Below.block hf _ (block_lt h)).trans h)] <;> rfl
theorem Gq.cell4 {W : World} {N : Nat} {a b c d : Value} {t : TypeId} (h : W.heap[N]? = some (.cells #[a, b, c, d] t (0, 0))) : (∀ w1, Gq W w1 → w1.cell? ⟨N, 0, none⟩ = some a) ∧ (∀ w1, Gq W w1 → w1.cell? ⟨N, 1, none⟩ = some b) ∧ (∀ w1, Gq W w1 → w1.cell? ⟨N, 2, none⟩ = some c) ∧ (∀ w1, Gq W w1 → w1.cell? ⟨N, 3, none⟩ = some d) := by
  refine ⟨fun w1 hf => ?_, fun w1 hf => ?_, fun w1 hf => ?_, fun w1 hf => ?_⟩ <;> rw [block_cell ((Below.block hf _ (block_lt h)).trans h)] <;> rfl
/- A result that is a call that may be. -/
def Res.mc : Res where
  F := fun v _ => ∃ V : MC, V.may ∧ v = mcV V
  own := fun _ => none
  cells := stCells
  n := 4
  len := fun v w ⟨V, _, e⟩ => by subst e; rfl
  later := fun v w w' h _ => h
  other := fun v w w' q h _ _ => h
  low := fun v w k _ h => by cases h
theorem may_few {x : VS} (h : x.may) : x.rows.length ≤ 100 := by
  have := VS.may_rows h
  have := VS.most_le x
  omega
theorem mask_rem (a : Int) (n : Nat) (h : 0 < n) : ∃ m p : Nat, bits .and .i64 a 255 = (m : Int) ∧ Int.tmod (m : Int) ((n : Nat) : Int) = (p : Int) ∧ p < n := by
  have h1 : bits .and .i64 a 255 = a % 256 := by rw [pl_and_mask a 8 255 (by omega) (by decide)]; rfl
  refine ⟨(a % 256).toNat, (a % 256).toNat % n, by rw [h1]; omega, by rw [Int.ofNat_tmod], Nat.mod_lt _ h⟩
theorem three_heap (w : World) (A B C : Obj) : (((w.alloc A).alloc B).alloc C).heap[w.heap.size]? = some A ∧ (((w.alloc A).alloc B).alloc C).heap[w.heap.size + 1]? = some B ∧ (((w.alloc A).alloc B).alloc C).heap[w.heap.size + 1 + 1]? = some C ∧ Below w.heap.size w (((w.alloc A).alloc B).alloc C) := by
  have h2 := under_two w A B
  have g3 := heap_alloc_new ((w.alloc A).alloc B) C
  simp only [World.size_alloc] at g3
  refine ⟨?_, ?_, g3, h2.alloc h2.size C⟩
  · rw [Below.heap_alloc _ _ _ (by simp; omega), Below.heap_alloc _ _ _ (by simp)]; exact heap_alloc_new w A
  · rw [Below.heap_alloc _ _ _ (by simp)]
    have := heap_alloc_new (w.alloc A) B
    rwa [World.size_alloc] at this
set_option maxHeartbeats 102400000 in
theorem qstates_any {w : World} {v : Value} {s : VS} (hs : StAt w v s) (hsn : -9223372036854775808 ≤ s.n ∧ s.n ≤ 9223372036854775807) (hsz : ∀ i (h : i < s.rows.length), (s.rows[i]'h).1.length ≤ maxLen ∧ (s.rows[i]'h).2.length ≤ maxLen)
    (op : Int) (ca cb : ByteArray) (cn : Int) (hop : I64 op) (hn : I64 cn) (hca : ca.size ≤ maxLen) (hcb : cb.size ≤ maxLen)
    (op' : Int) (ca' cb' : ByteArray) (cn' : Int) (hop' : I64 op') (hn' : I64 cn') (hca' : ca'.size ≤ maxLen) (hcb' : cb'.size ≤ maxLen) (ii jj : Int) (hw : MD w) :
    Calls Tryd.prog 4 #[v, .agg #[.int .i64 op, .string ca, .string cb, .int .i64 cn], .agg #[.int .i64 op', .string ca', .string cb', .int .i64 cn'], .int .i64 ii, .int .i64 jj] w fun e w' => e = .returned (.bool true) ∧ Below w.heap.size w w' := by
  have HTS := hide (fun (w1 : World) (hb : Below w.heap.size w w1) => tstate_any (hs.later hb) hsn hsz)
  have HOA := hide (fun (w1 : World) (v : Value) (x : VS) (h : StAt w1 v x) => of_any h op ca cb cn hop hn hca hcb)
  have HOB := hide (fun (w1 : World) (v : Value) (x : VS) (h : StAt w1 v x) => of_any h op' ca' cb' cn' hop' hn' hca' hcb')
  have HAW := hide (fun (w1 : World) (hb : Below w.heap.size w w1) => qawake_any (hw.later hb))
  have HMD := hide hw
  obtain ⟨k0, rfl, hr⟩ := hs
  obtain ⟨a, c, rfl, hc, hm⟩ := hr.shape
  obtain ⟨h30, h31, h32, h3l⟩ := three_heap w (.cells #[.int .i64 s.kind, .int .i64 s.n, .slice a s.rows.length c] 47 (0, 0)) (.cells #[.int .i64 op, .string ca, .string cb, .int .i64 cn] 24 (0, 0)) (.cells #[.int .i64 op', .string ca', .string cb', .int .i64 cn'] 24 (0, 0))
  have H30 := hide h30
  have H31 := hide h31
  have H32 := hide h32
  have H3L := hide h3l
  clear hr hw hsn hsz hop hn hca hcb hop' hn' hca' hcb' h30 h31 h32 h3l
  go_enter Tryd.func4, Tryd.ntmps4
  go_wp2_with fail
  refine (unhide HAW _ (unhide H3L)).mono ?_
  rintro e w1 ⟨rfl, hb1⟩
  have HL1 := hide ((unhide H3L).trans (hb1.mono (unhide H3L).size))
  have hs1 := (hb1.block _ (block_lt (unhide H30))).trans (unhide H30)
  have HA1 := hide ((hb1.block _ (block_lt (unhide H31))).trans (unhide H31))
  have HB1 := hide ((hb1.block _ (block_lt (unhide H32))).trans (unhide H32))
  obtain ⟨d0, d1, d2, _⟩ := cell3 hs1
  clear hb1 hs1 H30 H31 H32 H3L HAW
  go_wp2_with fail
  refine (unhide HTS _ (unhide HL1)).mono ?_
  rintro e w2 ⟨v2, rfl, x, hmay, hxn, ⟨kx, rfl, hox⟩, hb2⟩
  obtain ⟨xa, xc, rfl, _⟩ := ownsRow_slice hox
  obtain ⟨W, hW⟩ : ∃ W, w2.alloc (.cells #[.int .i64 x.kind, .int .i64 x.n, .slice xa x.rows.length xc] 38) = W := ⟨_, rfl⟩
  have hbW : Below w1.heap.size w1 W := by rw [← hW]; exact hb2.trans ((under_box _).mono hb2.size)
  have HXB : Hid (W.heap[w2.heap.size]? = some (.cells #[.int .i64 x.kind, .int .i64 x.n, .slice xa x.rows.length xc] 38 (0, 0))) := by show _ = _; rw [← hW]; exact heap_alloc_new w2 _
  have HXO : Hid (W.ownsRow 0 77 2 (.slice xa x.rows.length xc) x.rows.length (R9 x.rows)) := by show World.ownsRow _ _ _ _ _ _ _; rw [← hW]; exact ownsRow_less (hox.alloc _) (Nat.zero_le _)
  have HAB := hide ((hbW.block _ (block_lt (unhide HA1))).trans (unhide HA1))
  have HBB := hide ((hbW.block _ (block_lt (unhide HB1))).trans (unhide HB1))
  have HLW := hide ((unhide HL1).trans (hbW.mono (unhide HL1).size))
  have HMAY := hide hmay
  have HXN := hide hxn
  have HOFA := hide (fun (wz : World) (hb : Below W.heap.size W wz) => unhide HOA wz (.agg #[.int .i64 x.kind, .int .i64 x.n, .slice xa x.rows.length xc]) x ⟨_, rfl, Row2.of_own (ownsRow_below (unhide HXO) hb)⟩)
  have HOFB := hide (fun (wz : World) (hb : Below W.heap.size W wz) => unhide HOB wz (.agg #[.int .i64 x.kind, .int .i64 x.n, .slice xa x.rows.length xc]) x ⟨_, rfl, Row2.of_own (ownsRow_below (unhide HXO) hb)⟩)
  clear hmay hxn hox hb2 hbW d0 d1 d2 HTS HOA HOB HL1 HA1 HB1
  go_upto_region 4 with fail
  try rw [hW]
  clear hW
  refine regN [.val 22 (Res.plain (.agg #[.int .i64 x.kind, .int .i64 x.n, .slice xa x.rows.length xc]) []), .val 23 (Res.plain (.agg #[.int .i64 op, .string ca, .string cb, .int .i64 cn]) []), .val 24 Res.mc, .val 25 (Res.plain (.agg #[.int .i64 x.kind, .int .i64 x.n, .slice xa x.rows.length xc]) []), .val 26 (Res.plain (.agg #[.int .i64 op', .string ca', .string cb', .int .i64 cn']) []), .val 27 Res.mc, .box 12 4 29, .box 13 4 29, .put 2 6, .put 5 7] (fun i => if i = 2 then [0, 1] else if i = 5 then [3, 4] else []) ?_ ?_ ?_ ?_ ?_ ?_ ?_ (fun i hi => ?_) ?_
  · kernel_rfl
  · rfl
  · kernel_rfl
  · kernel_rfl
  · kernel_rfl
  · kernel_rfl
  · kernel_rfl
  · have hc : i = 0 ∨ i = 1 ∨ i = 2 ∨ i = 3 ∨ i = 4 ∨ i = 5 ∨ i = 6 ∨ i = 7 ∨ i = 8 ∨ i = 9 := by have : i < 10 := hi; omega
    clear hi
    rcases hc with rfl | rfl | rfl | rfl | rfl | rfl | rfl | rfl | rfl | rfl
    · with_reducible refine DoesN.plain (s := 22) (v := .agg #[.int .i64 x.kind, .int .i64 x.n, .slice xa x.rows.length xc]) ?_ ?_
      · rfl
      intro f wz K hb hd hK
      obtain ⟨d0, d1, d2, _⟩ := cell3 ((hb.block _ (block_lt (unhide HXB))).trans (unhide HXB))
      simp only [setN, upd, Nat.reduceAdd, Nat.reduceEqDiff, reduceIte, List.setIfInBounds_toArray, List.set_cons_zero, List.set_cons_succ] at hK ⊢
      refine wpOp_do rfl (by kernel_rfl) ?_
      unfold Oper.wp execOp
      go_simp
      exact hK _ (Below.refl _ _)
    · with_reducible refine DoesN.plain (s := 23) (v := .agg #[.int .i64 op, .string ca, .string cb, .int .i64 cn]) ?_ ?_
      · rfl
      intro f wz K hb hd hK
      obtain ⟨d0, d1, d2, d3, _⟩ := cell4 ((hb.block _ (block_lt (unhide HAB))).trans (unhide HAB))
      simp only [setN, upd, Nat.reduceAdd, Nat.reduceEqDiff, reduceIte, List.setIfInBounds_toArray, List.set_cons_zero, List.set_cons_succ] at hK ⊢
      refine wpOp_do rfl (by kernel_rfl) ?_
      unfold Oper.wp execOp
      go_simp
      exact hK _ (Below.refl _ _)
    · with_reducible refine DoesN.val (s := 24) (R := Res.mc) ?_ ?_
      · rfl
      intro f wz K hb hd hK
      have e0 : f 0 = .agg #[.int .i64 x.kind, .int .i64 x.n, .slice xa x.rows.length xc] := plainAt (s := 22) (cs := []) (hd 0 (by decide)) rfl
      have e1 : f 1 = .agg #[.int .i64 op, .string ca, .string cb, .int .i64 cn] := plainAt (s := 23) (cs := []) (hd 1 (by decide)) rfl
      simp only [setN, upd, Nat.reduceAdd, Nat.reduceEqDiff, reduceIte, List.setIfInBounds_toArray, List.set_cons_zero, List.set_cons_succ] at hK ⊢
      simp only [e0, e1] at hK ⊢
      refine wpOp_do rfl (by kernel_rfl) ?_
      unfold Oper.wp execOp
      go_simp
      refine (unhide HOFA _ hb).mono ?_
      rintro e w' ⟨V, rfl, hV, hb'⟩
      exact hK _ _ hb' ⟨V, hV, rfl⟩ (fun k h => by cases h)
    · with_reducible refine DoesN.plain (s := 25) (v := .agg #[.int .i64 x.kind, .int .i64 x.n, .slice xa x.rows.length xc]) ?_ ?_
      · rfl
      intro f wz K hb hd hK
      obtain ⟨d0, d1, d2, _⟩ := cell3 ((hb.block _ (block_lt (unhide HXB))).trans (unhide HXB))
      simp only [setN, upd, Nat.reduceAdd, Nat.reduceEqDiff, reduceIte, List.setIfInBounds_toArray, List.set_cons_zero, List.set_cons_succ] at hK ⊢
      refine wpOp_do rfl (by kernel_rfl) ?_
      unfold Oper.wp execOp
      go_simp
      exact hK _ (Below.refl _ _)
    · with_reducible refine DoesN.plain (s := 26) (v := .agg #[.int .i64 op', .string ca', .string cb', .int .i64 cn']) ?_ ?_
      · rfl
      intro f wz K hb hd hK
      obtain ⟨d0, d1, d2, d3, _⟩ := cell4 ((hb.block _ (block_lt (unhide HBB))).trans (unhide HBB))
      simp only [setN, upd, Nat.reduceAdd, Nat.reduceEqDiff, reduceIte, List.setIfInBounds_toArray, List.set_cons_zero, List.set_cons_succ] at hK ⊢
      refine wpOp_do rfl (by kernel_rfl) ?_
      unfold Oper.wp execOp
      go_simp
      exact hK _ (Below.refl _ _)
    · with_reducible refine DoesN.val (s := 27) (R := Res.mc) ?_ ?_
      · rfl
      intro f wz K hb hd hK
      have e3 : f 3 = .agg #[.int .i64 x.kind, .int .i64 x.n, .slice xa x.rows.length xc] := plainAt (s := 25) (cs := []) (hd 3 (by decide)) rfl
      have e4 : f 4 = .agg #[.int .i64 op', .string ca', .string cb', .int .i64 cn'] := plainAt (s := 26) (cs := []) (hd 4 (by decide)) rfl
      simp only [setN, upd, Nat.reduceAdd, Nat.reduceEqDiff, reduceIte, List.setIfInBounds_toArray, List.set_cons_zero, List.set_cons_succ] at hK ⊢
      simp only [e3, e4] at hK ⊢
      refine wpOp_do rfl (by kernel_rfl) ?_
      unfold Oper.wp execOp
      go_simp
      refine (unhide HOFB _ hb).mono ?_
      rintro e w' ⟨V, rfl, hV, hb'⟩
      exact hK _ _ hb' ⟨V, hV, rfl⟩ (fun k h => by cases h)
    · with_reducible refine DoesN.box (s := 12) (n := 4) (t := 29) ?_ ?_
      · rfl
      intro f wz K
      refine ⟨[.int .i64 0, .string ⟨#[]⟩, .string ⟨#[]⟩, .int .i64 0], rfl, fun hK => ?_⟩
      unfold ptr at hK
      simp only [setN, upd, Nat.reduceAdd, Nat.reduceEqDiff, reduceIte, List.setIfInBounds_toArray, List.set_cons_zero, List.set_cons_succ] at hK ⊢
      refine wpOp_do rfl (by kernel_rfl) ?_
      unfold Oper.wp execOp
      go_simp
      exact hK
    · with_reducible refine DoesN.box (s := 13) (n := 4) (t := 29) ?_ ?_
      · rfl
      intro f wz K
      refine ⟨[.int .i64 0, .string ⟨#[]⟩, .string ⟨#[]⟩, .int .i64 0], rfl, fun hK => ?_⟩
      unfold ptr at hK
      simp only [setN, upd, Nat.reduceAdd, Nat.reduceEqDiff, reduceIte, List.setIfInBounds_toArray, List.set_cons_zero, List.set_cons_succ] at hK ⊢
      refine wpOp_do rfl (by kernel_rfl) ?_
      unfold Oper.wp execOp
      go_simp
      exact hK
    · with_reducible refine DoesN.put (c := 2) (b := 6) (s := 24) (R := Res.mc) (s' := 12) (n := 4) (t := 29) ?_ ?_ ?_ ?_
      · rfl
      · rfl
      · rfl
      intro f wz K q ys eb hy hq hF hK
      obtain ⟨V, hV, ev⟩ := hF
      have ec := ev
      simp only [ec, Res.mc, stCells, mcV] at hK
      simp only [setN, Nat.reduceAdd, List.setIfInBounds_toArray, List.set_cons_zero, List.set_cons_succ] at hK ⊢
      simp only [ec, eb, mcV] at hK ⊢
      match ys, hy with
      | [y1, y2, y3, y4], _ =>
      obtain ⟨d0, d1, d2, d3, fz⟩ := cell4 hq
      unfold ptr at *
      simp only [putL] at hK
      refine wpOp_do rfl (by kernel_rfl) ?_
      unfold Oper.wp execOp
      go_simp
      exact hK
    · with_reducible refine DoesN.put (c := 5) (b := 7) (s := 27) (R := Res.mc) (s' := 13) (n := 4) (t := 29) ?_ ?_ ?_ ?_
      · rfl
      · rfl
      · rfl
      intro f wz K q ys eb hy hq hF hK
      obtain ⟨V, hV, ev⟩ := hF
      have ec := ev
      simp only [ec, Res.mc, stCells, mcV] at hK
      simp only [setN, Nat.reduceAdd, List.setIfInBounds_toArray, List.set_cons_zero, List.set_cons_succ] at hK ⊢
      simp only [ec, eb, mcV] at hK ⊢
      match ys, hy with
      | [y1, y2, y3, y4], _ =>
      obtain ⟨d0, d1, d2, d3, fz⟩ := cell4 hq
      unfold ptr at *
      simp only [putL] at hK
      refine wpOp_do rfl (by kernel_rfl) ?_
      unfold Oper.wp execOp
      go_simp
      exact hK
  · intro f wE hbE hv hp hne ho
    have h0 : f 0 = .agg #[.int .i64 x.kind, .int .i64 x.n, .slice xa x.rows.length xc] := plainAt (s := 22) (cs := []) (hv 0) rfl
    have h1 : f 1 = .agg #[.int .i64 op, .string ca, .string cb, .int .i64 cn] := plainAt (s := 23) (cs := []) (hv 1) rfl
    have h3 : f 3 = .agg #[.int .i64 x.kind, .int .i64 x.n, .slice xa x.rows.length xc] := plainAt (s := 25) (cs := []) (hv 3) rfl
    have h4 : f 4 = .agg #[.int .i64 op', .string ca', .string cb', .int .i64 cn'] := plainAt (s := 26) (cs := []) (hv 4) rfl
    simp only [setN, Nat.reduceAdd, List.setIfInBounds_toArray, List.set_cons_zero, List.set_cons_succ]
    simp only [h0, h1, h3, h4]
    clear h0 h1 h3 h4
    obtain ⟨qA, eA, gA, bA⟩ := putAt (c := 2) (b := 6) (s := 24) (R := Res.mc) (s' := 12) (n := 4) (t := 29) (hp 8) rfl rfl rfl
    obtain ⟨qB, eB, gB, bB⟩ := putAt (c := 5) (b := 7) (s := 27) (R := Res.mc) (s' := 13) (n := 4) (t := 29) (hp 9) rfl rfl rfl
    obtain ⟨V1, hV1, ex⟩ := factAt (s := 24) (R := Res.mc) (hv 2) rfl
    obtain ⟨V2, hV2, ey⟩ := factAt (s := 27) (R := Res.mc) (hv 5) rfl
    simp only [ex, Res.mc, stCells, mcV] at bA
    simp only [ey, Res.mc, stCells, mcV] at bB
    simp only [eA, eB, ex, ey, ptr, mcV]
    have HL5 := hide ((unhide HLW).trans (hbE.mono (unhide HLW).size))
    have hx5 := (hbE.block _ (block_lt (unhide HXB))).trans (unhide HXB)
    have HXO5 := hide (ownsRow_below (unhide HXO) hbE)
    have HX5 := hide hx5
    have HC5 := hide bA
    have HD5 := hide bB
    have HV1 := hide hV1
    have HV2 := hide hV2
    obtain ⟨xc0, xc1, xc2⟩ := Gq.cell3 hx5
    obtain ⟨cc0, cc1, cc2, cc3⟩ := Gq.cell4 bA
    obtain ⟨dc0, dc1, dc2, dc3⟩ := Gq.cell4 bB
    have hop1 := MC.may_op hV1
    have hop2 := MC.may_op hV2
    have hsm : x.rows.length ≤ 1000 := by have := may_few (unhide HMAY); omega
    obtain ⟨l, hl⟩ : ∃ l, answers x V1 = l := ⟨_, rfl⟩
    obtain ⟨r, hr⟩ : ∃ r, answers x V2 = r := ⟨_, rfl⟩
    have HLA := hide hl
    have HRA := hide hr
    have HN1 : Hid (∀ wz, Gq wE wz → Calls Tryd.prog 16 #[.agg #[.int .i64 x.kind, .int .i64 x.n, .slice xa x.rows.length xc], .agg #[.int .i64 V1.op, .string (S V1.a), .string (S V1.b), .int .i64 V1.n]] wz fun e w' => ∃ v', e = .returned v' ∧ Row3 w' v' l ∧ Below wz.heap.size wz w') := fun wz hf => by rw [← hl]; exact ranswers_any (c := V1) (s := x) ⟨_, rfl, Row2.of_own (ownsRow_below (unhide HXO5) hf.low)⟩ hsm hop1
    have HN2 : Hid (∀ wz, Gq wE wz → Calls Tryd.prog 16 #[.agg #[.int .i64 x.kind, .int .i64 x.n, .slice xa x.rows.length xc], .agg #[.int .i64 V2.op, .string (S V2.a), .string (S V2.b), .int .i64 V2.n]] wz fun e w' => ∃ v', e = .returned v' ∧ Row3 w' v' r ∧ Below wz.heap.size wz w') := fun wz hf => by rw [← hr]; exact ranswers_any (c := V2) (s := x) ⟨_, rfl, Row2.of_own (ownsRow_below (unhide HXO5) hf.low)⟩ hsm hop2
    have hst := Gq.start wE
    have hstd := hst.drew
    clear hv hp hne ho ex ey eA eB gA gB bA bB hbE hV1 hV2 hop1 hop2 hsm hl hr hx5 HOFA HOFB HXB HXO HLW
    go_upto_region 5 with fail
    go_region_held3 (fun w' => Gq wE w') (with_reducible (first | exact hstd | exact hst | (refine Gq.below ?_ (by assumption) <;> assumption)))
      (first | (go_at_call 16; first | (have hq := HRA0; clear hq; refine (unhide HN2 _ (by assumption)).mono ?_; rintro e wb ⟨vb, rfl, hrb, hbb⟩; obtain ⟨ta, tc, rfl, _, _⟩ := hrb.shape; have HRR := hide hrb; have HRL := hide ((unhide HRA0).later hbb); clear hrb HRA0) | (refine (unhide HN1 _ (by assumption)).mono ?_; rintro e wa ⟨va, rfl, hra, hba⟩; obtain ⟨sa, sc, rfl, _, _⟩ := hra.shape; have HRA0 := hide hra; clear hra)) | fail)
    have h7 : Gq wE wb := by assumption
    have HX7 := hide ((h7.low.block _ (block_lt (unhide HX5))).trans (unhide HX5))
    have HC7 := hide ((h7.low.block _ (block_lt (unhide HC5))).trans (unhide HC5))
    have HD7 := hide ((h7.low.block _ (block_lt (unhide HD5))).trans (unhide HD5))
    have HL7 := hide ((unhide HL5).trans (h7.low.mono (unhide HL5).size))
    have HXO7 := hide (ownsRow_below (unhide HXO5) h7.low)
    clear h7 hst hstd hba hbb HN1 HN2 HX5 HC5 HD5 HL5 HXO5 xc0 xc1 xc2 cc0 cc1 cc2 cc3 dc0 dc1 dc2 dc3
    by_cases hl0 : l.length = 0
    · have e1 : (((l.length : Nat) : Int) == 0) = true := by rw [hl0]; rfl
      go_wp2_with fail
      go_ret
      exact ⟨rfl, unhide HL7⟩
    have e1 : (((l.length : Nat) : Int) == 0) = false := by rw [beq_eq_false_iff_ne]; omega
    by_cases hr0 : r.length = 0
    · have e2 : (((r.length : Nat) : Int) == 0) = true := by rw [hr0]; rfl
      go_wp2_with fail
      go_ret
      exact ⟨rfl, unhide HL7⟩
    have e2 : (((r.length : Nat) : Int) == 0) = false := by rw [beq_eq_false_iff_ne]; omega
    obtain ⟨m1, p1, hm1, hp1, hp1l⟩ := mask_rem ii l.length (by omega)
    obtain ⟨m2, p2, hm2, hp2, hp2l⟩ := mask_rem jj r.length (by omega)
    obtain ⟨bl, ol, rfl, hbl, f1, f2, f3⟩ := (unhide HRL).at p1 hp1l
    obtain ⟨br, orr, rfl, hbr, g1, g2, g3⟩ := (unhide HRR).at p2 hp2l
    have HM1 := hide (List.getElem_mem hp1l)
    have HM2 := hide (List.getElem_mem hp2l)
    generalize l[p1]'hp1l = q1 at *
    generalize r[p2]'hp2l = q2 at *
    obtain ⟨y1, y2, y3⟩ := q1
    obtain ⟨z1, z2, z3⟩ := q2
    dsimp only at *
    have i1 : (0 : Int) ≤ (p1 : Int) := by omega
    have i2 : (p1 : Int) < ((l.length : Nat) : Int) := by omega
    have i3 : (0 : Int) ≤ (p2 : Int) := by omega
    have i4 : (p2 : Int) < ((r.length : Nat) : Int) := by omega
    go_upto_region 8 with fail
    obtain ⟨W8, hW8⟩ : ∃ W8, wb = W8 := ⟨_, rfl⟩
    rw [hW8] at HX7 HC7 HD7 HL7 HXO7 hbl hbr f1 f2 f3 g1 g2 g3 ⊢
    clear hW8 HRL HRR
    refine regN [.val 42 (Res.plain (.slice (some ⟨bl, ol, none⟩) l.length sc) []), .val 43 (Res.plain (.int .i64 ii) []), .val 44 (Res.plain (.int .i64 (m1 : Int)) []), .val 45 (Res.plain (.slice (some ⟨bl, ol, none⟩) l.length sc) []), .val 46 (Res.plain (.int .i64 ((l.length : Nat) : Int)) []), .val 47 (Res.plain (.int .i64 (p1 : Int)) []), .val 48 (Res.plain (.pointer (some ⟨bl, ol + p1 * 3, none⟩)) []), .val 49 (Res.plain (.agg #[.int .i64 y1, .string (S y2), .int .i64 y3]) [.int .i64 y1, .string (S y2), .int .i64 y3]), .val 50 (Res.plain (.slice (some ⟨br, orr, none⟩) r.length tc) []), .val 51 (Res.plain (.int .i64 jj) []), .val 52 (Res.plain (.int .i64 (m2 : Int)) []), .val 53 (Res.plain (.slice (some ⟨br, orr, none⟩) r.length tc) []), .val 54 (Res.plain (.int .i64 ((r.length : Nat) : Int)) []), .val 55 (Res.plain (.int .i64 (p2 : Int)) []), .val 56 (Res.plain (.pointer (some ⟨br, orr + p2 * 3, none⟩)) []), .val 57 (Res.plain (.agg #[.int .i64 z1, .string (S z2), .int .i64 z3]) [.int .i64 z1, .string (S z2), .int .i64 z3]), .box 16 3 30, .box 17 3 30, .put 7 16, .put 15 17] (fun i => if i = 2 then [1] else if i = 4 then [3] else if i = 5 then [2, 4] else if i = 6 then [0, 5] else if i = 7 then [6] else if i = 10 then [9] else if i = 12 then [11] else if i = 13 then [10, 12] else if i = 14 then [8, 13] else if i = 15 then [14] else []) ?_ ?_ ?_ ?_ ?_ ?_ ?_ (fun i hi => ?_) ?_
    · kernel_rfl
    · rfl
    · kernel_rfl
    · kernel_rfl
    · kernel_rfl
    · kernel_rfl
    · kernel_rfl
    · have hc : i = 0 ∨ i = 1 ∨ i = 2 ∨ i = 3 ∨ i = 4 ∨ i = 5 ∨ i = 6 ∨ i = 7 ∨ i = 8 ∨ i = 9 ∨ i = 10 ∨ i = 11 ∨ i = 12 ∨ i = 13 ∨ i = 14 ∨ i = 15 ∨ i = 16 ∨ i = 17 ∨ i = 18 ∨ i = 19 := by have : i < 20 := hi; omega
      clear hi
      rcases hc with rfl | rfl | rfl | rfl | rfl | rfl | rfl | rfl | rfl | rfl | rfl | rfl | rfl | rfl | rfl | rfl | rfl | rfl | rfl | rfl
      · with_reducible refine DoesN.plain (s := 42) (v := .slice (some ⟨bl, ol, none⟩) l.length sc) ?_ ?_
        · rfl
        intro f wz K hb hd hK
        simp only [setN, upd, Nat.reduceAdd, Nat.reduceEqDiff, reduceIte, List.setIfInBounds_toArray, List.set_cons_zero, List.set_cons_succ] at hK ⊢
        refine wpOp_do rfl (by kernel_rfl) ?_
        unfold Oper.wp execOp
        go_simp
        exact hK _ (Below.refl _ _)
      · with_reducible refine DoesN.plain (s := 43) (v := .int .i64 ii) ?_ ?_
        · rfl
        intro f wz K hb hd hK
        simp only [setN, upd, Nat.reduceAdd, Nat.reduceEqDiff, reduceIte, List.setIfInBounds_toArray, List.set_cons_zero, List.set_cons_succ] at hK ⊢
        refine wpOp_do rfl (by kernel_rfl) ?_
        unfold Oper.wp execOp
        go_simp
        exact hK _ (Below.refl _ _)
      · with_reducible refine DoesN.plain (s := 44) (v := .int .i64 (m1 : Int)) ?_ ?_
        · rfl
        intro f wz K hb hd hK
        have e1 : f 1 = .int .i64 ii := plainAt (s := 43) (cs := []) (hd 1 (by decide)) rfl
        simp only [setN, upd, Nat.reduceAdd, Nat.reduceEqDiff, reduceIte, List.setIfInBounds_toArray, List.set_cons_zero, List.set_cons_succ] at hK ⊢
        simp only [e1] at hK ⊢
        refine wpOp_do rfl (by kernel_rfl) ?_
        unfold Oper.wp execOp
        go_simp
        exact hK _ (Below.refl _ _)
      · with_reducible refine DoesN.plain (s := 45) (v := .slice (some ⟨bl, ol, none⟩) l.length sc) ?_ ?_
        · rfl
        intro f wz K hb hd hK
        simp only [setN, upd, Nat.reduceAdd, Nat.reduceEqDiff, reduceIte, List.setIfInBounds_toArray, List.set_cons_zero, List.set_cons_succ] at hK ⊢
        refine wpOp_do rfl (by kernel_rfl) ?_
        unfold Oper.wp execOp
        go_simp
        exact hK _ (Below.refl _ _)
      · with_reducible refine DoesN.plain (s := 46) (v := .int .i64 ((l.length : Nat) : Int)) ?_ ?_
        · rfl
        intro f wz K hb hd hK
        have e3 : f 3 = .slice (some ⟨bl, ol, none⟩) l.length sc := plainAt (s := 45) (cs := []) (hd 3 (by decide)) rfl
        simp only [setN, upd, Nat.reduceAdd, Nat.reduceEqDiff, reduceIte, List.setIfInBounds_toArray, List.set_cons_zero, List.set_cons_succ] at hK ⊢
        simp only [e3] at hK ⊢
        refine wpOp_do rfl (by kernel_rfl) ?_
        unfold Oper.wp execOp
        go_simp
        exact hK _ (Below.refl _ _)
      · with_reducible refine DoesN.plain (s := 47) (v := .int .i64 (p1 : Int)) ?_ ?_
        · rfl
        intro f wz K hb hd hK
        have e2 : f 2 = .int .i64 (m1 : Int) := plainAt (s := 44) (cs := []) (hd 2 (by decide)) rfl
        have e4 : f 4 = .int .i64 ((l.length : Nat) : Int) := plainAt (s := 46) (cs := []) (hd 4 (by decide)) rfl
        simp only [setN, upd, Nat.reduceAdd, Nat.reduceEqDiff, reduceIte, List.setIfInBounds_toArray, List.set_cons_zero, List.set_cons_succ] at hK ⊢
        simp only [e2, e4] at hK ⊢
        refine wpOp_do rfl (by kernel_rfl) ?_
        unfold Oper.wp execOp
        go_simp
        exact hK _ (Below.refl _ _)
      · with_reducible refine DoesN.plain (s := 48) (v := .pointer (some ⟨bl, ol + p1 * 3, none⟩)) ?_ ?_
        · rfl
        intro f wz K hb hd hK
        have e0 : f 0 = .slice (some ⟨bl, ol, none⟩) l.length sc := plainAt (s := 42) (cs := []) (hd 0 (by decide)) rfl
        have e5 : f 5 = .int .i64 (p1 : Int) := plainAt (s := 47) (cs := []) (hd 5 (by decide)) rfl
        simp only [setN, upd, Nat.reduceAdd, Nat.reduceEqDiff, reduceIte, List.setIfInBounds_toArray, List.set_cons_zero, List.set_cons_succ] at hK ⊢
        simp only [e0, e5] at hK ⊢
        refine wpOp_do rfl (by kernel_rfl) ?_
        unfold Oper.wp execOp
        go_simp
        exact hK _ (Below.refl _ _)
      · with_reducible refine DoesN.val (s := 49) (R := (Res.plain (.agg #[.int .i64 y1, .string (S y2), .int .i64 y3]) [.int .i64 y1, .string (S y2), .int .i64 y3])) ?_ ?_
        · rfl
        intro f wz K hb hd hK
        have e6 : f 6 = .pointer (some ⟨bl, ol + p1 * 3, none⟩) := plainAt (s := 48) (cs := []) (hd 6 (by decide)) rfl
        have d0 := (hb.cell (p := ⟨bl, ol + p1 * 3, none⟩) hbl).trans f1
        have d1 := (hb.cell (p := ⟨bl, ol + p1 * 3 + 1, none⟩) hbl).trans f2
        have d2 := (hb.cell (p := ⟨bl, ol + p1 * 3 + 2, none⟩) hbl).trans f3
        simp only [setN, upd, Nat.reduceAdd, Nat.reduceEqDiff, reduceIte, List.setIfInBounds_toArray, List.set_cons_zero, List.set_cons_succ] at hK ⊢
        simp only [e6] at hK ⊢
        refine wpOp_do rfl (by kernel_rfl) ?_
        unfold Oper.wp execOp
        go_simp
        exact hK _ _ (Below.refl _ _) rfl (fun k h => by cases h)
      · with_reducible refine DoesN.plain (s := 50) (v := .slice (some ⟨br, orr, none⟩) r.length tc) ?_ ?_
        · rfl
        intro f wz K hb hd hK
        simp only [setN, upd, Nat.reduceAdd, Nat.reduceEqDiff, reduceIte, List.setIfInBounds_toArray, List.set_cons_zero, List.set_cons_succ] at hK ⊢
        refine wpOp_do rfl (by kernel_rfl) ?_
        unfold Oper.wp execOp
        go_simp
        exact hK _ (Below.refl _ _)
      · with_reducible refine DoesN.plain (s := 51) (v := .int .i64 jj) ?_ ?_
        · rfl
        intro f wz K hb hd hK
        simp only [setN, upd, Nat.reduceAdd, Nat.reduceEqDiff, reduceIte, List.setIfInBounds_toArray, List.set_cons_zero, List.set_cons_succ] at hK ⊢
        refine wpOp_do rfl (by kernel_rfl) ?_
        unfold Oper.wp execOp
        go_simp
        exact hK _ (Below.refl _ _)
      · with_reducible refine DoesN.plain (s := 52) (v := .int .i64 (m2 : Int)) ?_ ?_
        · rfl
        intro f wz K hb hd hK
        have e9 : f 9 = .int .i64 jj := plainAt (s := 51) (cs := []) (hd 9 (by decide)) rfl
        simp only [setN, upd, Nat.reduceAdd, Nat.reduceEqDiff, reduceIte, List.setIfInBounds_toArray, List.set_cons_zero, List.set_cons_succ] at hK ⊢
        simp only [e9] at hK ⊢
        refine wpOp_do rfl (by kernel_rfl) ?_
        unfold Oper.wp execOp
        go_simp
        exact hK _ (Below.refl _ _)
      · with_reducible refine DoesN.plain (s := 53) (v := .slice (some ⟨br, orr, none⟩) r.length tc) ?_ ?_
        · rfl
        intro f wz K hb hd hK
        simp only [setN, upd, Nat.reduceAdd, Nat.reduceEqDiff, reduceIte, List.setIfInBounds_toArray, List.set_cons_zero, List.set_cons_succ] at hK ⊢
        refine wpOp_do rfl (by kernel_rfl) ?_
        unfold Oper.wp execOp
        go_simp
        exact hK _ (Below.refl _ _)
      · with_reducible refine DoesN.plain (s := 54) (v := .int .i64 ((r.length : Nat) : Int)) ?_ ?_
        · rfl
        intro f wz K hb hd hK
        have e11 : f 11 = .slice (some ⟨br, orr, none⟩) r.length tc := plainAt (s := 53) (cs := []) (hd 11 (by decide)) rfl
        simp only [setN, upd, Nat.reduceAdd, Nat.reduceEqDiff, reduceIte, List.setIfInBounds_toArray, List.set_cons_zero, List.set_cons_succ] at hK ⊢
        simp only [e11] at hK ⊢
        refine wpOp_do rfl (by kernel_rfl) ?_
        unfold Oper.wp execOp
        go_simp
        exact hK _ (Below.refl _ _)
      · with_reducible refine DoesN.plain (s := 55) (v := .int .i64 (p2 : Int)) ?_ ?_
        · rfl
        intro f wz K hb hd hK
        have e10 : f 10 = .int .i64 (m2 : Int) := plainAt (s := 52) (cs := []) (hd 10 (by decide)) rfl
        have e12 : f 12 = .int .i64 ((r.length : Nat) : Int) := plainAt (s := 54) (cs := []) (hd 12 (by decide)) rfl
        simp only [setN, upd, Nat.reduceAdd, Nat.reduceEqDiff, reduceIte, List.setIfInBounds_toArray, List.set_cons_zero, List.set_cons_succ] at hK ⊢
        simp only [e10, e12] at hK ⊢
        refine wpOp_do rfl (by kernel_rfl) ?_
        unfold Oper.wp execOp
        go_simp
        exact hK _ (Below.refl _ _)
      · with_reducible refine DoesN.plain (s := 56) (v := .pointer (some ⟨br, orr + p2 * 3, none⟩)) ?_ ?_
        · rfl
        intro f wz K hb hd hK
        have e8 : f 8 = .slice (some ⟨br, orr, none⟩) r.length tc := plainAt (s := 50) (cs := []) (hd 8 (by decide)) rfl
        have e13 : f 13 = .int .i64 (p2 : Int) := plainAt (s := 55) (cs := []) (hd 13 (by decide)) rfl
        simp only [setN, upd, Nat.reduceAdd, Nat.reduceEqDiff, reduceIte, List.setIfInBounds_toArray, List.set_cons_zero, List.set_cons_succ] at hK ⊢
        simp only [e8, e13] at hK ⊢
        refine wpOp_do rfl (by kernel_rfl) ?_
        unfold Oper.wp execOp
        go_simp
        exact hK _ (Below.refl _ _)
      · with_reducible refine DoesN.val (s := 57) (R := (Res.plain (.agg #[.int .i64 z1, .string (S z2), .int .i64 z3]) [.int .i64 z1, .string (S z2), .int .i64 z3])) ?_ ?_
        · rfl
        intro f wz K hb hd hK
        have e14 : f 14 = .pointer (some ⟨br, orr + p2 * 3, none⟩) := plainAt (s := 56) (cs := []) (hd 14 (by decide)) rfl
        have d0 := (hb.cell (p := ⟨br, orr + p2 * 3, none⟩) hbr).trans g1
        have d1 := (hb.cell (p := ⟨br, orr + p2 * 3 + 1, none⟩) hbr).trans g2
        have d2 := (hb.cell (p := ⟨br, orr + p2 * 3 + 2, none⟩) hbr).trans g3
        simp only [setN, upd, Nat.reduceAdd, Nat.reduceEqDiff, reduceIte, List.setIfInBounds_toArray, List.set_cons_zero, List.set_cons_succ] at hK ⊢
        simp only [e14] at hK ⊢
        refine wpOp_do rfl (by kernel_rfl) ?_
        unfold Oper.wp execOp
        go_simp
        exact hK _ _ (Below.refl _ _) rfl (fun k h => by cases h)
      · with_reducible refine DoesN.box (s := 16) (n := 3) (t := 30) ?_ ?_
        · rfl
        intro f wz K
        refine ⟨[.int .i64 0, .string ⟨#[]⟩, .int .i64 0], rfl, fun hK => ?_⟩
        unfold ptr at hK
        simp only [setN, upd, Nat.reduceAdd, Nat.reduceEqDiff, reduceIte, List.setIfInBounds_toArray, List.set_cons_zero, List.set_cons_succ] at hK ⊢
        refine wpOp_do rfl (by kernel_rfl) ?_
        unfold Oper.wp execOp
        go_simp
        exact hK
      · with_reducible refine DoesN.box (s := 17) (n := 3) (t := 30) ?_ ?_
        · rfl
        intro f wz K
        refine ⟨[.int .i64 0, .string ⟨#[]⟩, .int .i64 0], rfl, fun hK => ?_⟩
        unfold ptr at hK
        simp only [setN, upd, Nat.reduceAdd, Nat.reduceEqDiff, reduceIte, List.setIfInBounds_toArray, List.set_cons_zero, List.set_cons_succ] at hK ⊢
        refine wpOp_do rfl (by kernel_rfl) ?_
        unfold Oper.wp execOp
        go_simp
        exact hK
      · with_reducible refine DoesN.put (c := 7) (b := 16) (s := 49) (R := (Res.plain (.agg #[.int .i64 y1, .string (S y2), .int .i64 y3]) [.int .i64 y1, .string (S y2), .int .i64 y3])) (s' := 16) (n := 3) (t := 30) ?_ ?_ ?_ ?_
        · rfl
        · rfl
        · rfl
        intro f wz K q ys eb hy hq hF hK
        have ev : f 7 = .agg #[.int .i64 y1, .string (S y2), .int .i64 y3] := hF
        have ec := ev
        simp only [ec, Res.plain] at hK
        simp only [setN, Nat.reduceAdd, List.setIfInBounds_toArray, List.set_cons_zero, List.set_cons_succ] at hK ⊢
        simp only [ec, eb] at hK ⊢
        match ys, hy with
        | [w1, w2, w3], _ =>
        obtain ⟨d0, d1, d2, fz⟩ := cell3 hq
        unfold ptr at *
        simp only [putL] at hK
        refine wpOp_do rfl (by kernel_rfl) ?_
        unfold Oper.wp execOp
        go_simp
        exact hK
      · with_reducible refine DoesN.put (c := 15) (b := 17) (s := 57) (R := (Res.plain (.agg #[.int .i64 z1, .string (S z2), .int .i64 z3]) [.int .i64 z1, .string (S z2), .int .i64 z3])) (s' := 17) (n := 3) (t := 30) ?_ ?_ ?_ ?_
        · rfl
        · rfl
        · rfl
        intro f wz K q ys eb hy hq hF hK
        have ev : f 15 = .agg #[.int .i64 z1, .string (S z2), .int .i64 z3] := hF
        have ec := ev
        simp only [ec, Res.plain] at hK
        simp only [setN, Nat.reduceAdd, List.setIfInBounds_toArray, List.set_cons_zero, List.set_cons_succ] at hK ⊢
        simp only [ec, eb] at hK ⊢
        match ys, hy with
        | [w1, w2, w3], _ =>
        obtain ⟨d0, d1, d2, fz⟩ := cell3 hq
        unfold ptr at *
        simp only [putL] at hK
        refine wpOp_do rfl (by kernel_rfl) ?_
        unfold Oper.wp execOp
        go_simp
        exact hK
    · intro f wE hbE hv hp hne ho
      have h0 : f 0 = .slice (some ⟨bl, ol, none⟩) l.length sc := plainAt (s := 42) (cs := []) (hv 0) rfl
      have h1 : f 1 = .int .i64 ii := plainAt (s := 43) (cs := []) (hv 1) rfl
      have h2 : f 2 = .int .i64 (m1 : Int) := plainAt (s := 44) (cs := []) (hv 2) rfl
      have h3 : f 3 = .slice (some ⟨bl, ol, none⟩) l.length sc := plainAt (s := 45) (cs := []) (hv 3) rfl
      have h4 : f 4 = .int .i64 ((l.length : Nat) : Int) := plainAt (s := 46) (cs := []) (hv 4) rfl
      have h5 : f 5 = .int .i64 (p1 : Int) := plainAt (s := 47) (cs := []) (hv 5) rfl
      have h6 : f 6 = .pointer (some ⟨bl, ol + p1 * 3, none⟩) := plainAt (s := 48) (cs := []) (hv 6) rfl
      have h8 : f 8 = .slice (some ⟨br, orr, none⟩) r.length tc := plainAt (s := 50) (cs := []) (hv 8) rfl
      have h9 : f 9 = .int .i64 jj := plainAt (s := 51) (cs := []) (hv 9) rfl
      have h10 : f 10 = .int .i64 (m2 : Int) := plainAt (s := 52) (cs := []) (hv 10) rfl
      have h11 : f 11 = .slice (some ⟨br, orr, none⟩) r.length tc := plainAt (s := 53) (cs := []) (hv 11) rfl
      have h12 : f 12 = .int .i64 ((r.length : Nat) : Int) := plainAt (s := 54) (cs := []) (hv 12) rfl
      have h13 : f 13 = .int .i64 (p2 : Int) := plainAt (s := 55) (cs := []) (hv 13) rfl
      have h14 : f 14 = .pointer (some ⟨br, orr + p2 * 3, none⟩) := plainAt (s := 56) (cs := []) (hv 14) rfl
      simp only [setN, Nat.reduceAdd, List.setIfInBounds_toArray, List.set_cons_zero, List.set_cons_succ]
      simp only [h0, h1, h2, h3, h4, h5, h6, h8, h9, h10, h11, h12, h13, h14]
      clear h0 h1 h2 h3 h4 h5 h6 h8 h9 h10 h11 h12 h13 h14
      have hR : f 7 = .agg #[.int .i64 y1, .string (S y2), .int .i64 y3] := factAt (s := 49) (R := (Res.plain (.agg #[.int .i64 y1, .string (S y2), .int .i64 y3]) [.int .i64 y1, .string (S y2), .int .i64 y3])) (hv 7) rfl
      have hT : f 15 = .agg #[.int .i64 z1, .string (S z2), .int .i64 z3] := factAt (s := 57) (R := (Res.plain (.agg #[.int .i64 z1, .string (S z2), .int .i64 z3]) [.int .i64 z1, .string (S z2), .int .i64 z3])) (hv 15) rfl
      simp only [hR, hT]
      clear hR hT
      obtain ⟨qA, eA, gA, bA⟩ := putAt (c := 7) (b := 16) (s := 49) (R := (Res.plain (.agg #[.int .i64 y1, .string (S y2), .int .i64 y3]) [.int .i64 y1, .string (S y2), .int .i64 y3])) (s' := 16) (n := 3) (t := 30) (hp 18) rfl rfl rfl
      obtain ⟨qB, eB, gB, bB⟩ := putAt (c := 15) (b := 17) (s := 57) (R := (Res.plain (.agg #[.int .i64 z1, .string (S z2), .int .i64 z3]) [.int .i64 z1, .string (S z2), .int .i64 z3])) (s' := 17) (n := 3) (t := 30) (hp 19) rfl rfl rfl
      simp only [Res.plain] at bA bB
      simp only [eA, eB, ptr]
      have HL8 := hide ((unhide HL7).trans (hbE.mono (unhide HL7).size))
      have HX8 := (hbE.block _ (block_lt (unhide HX7))).trans (unhide HX7)
      have HC8 := (hbE.block _ (block_lt (unhide HC7))).trans (unhide HC7)
      have HD8 := (hbE.block _ (block_lt (unhide HD7))).trans (unhide HD7)
      have HR8 := bA
      have HT8 := bB
      have HXO8 := hide (ownsRow_below (unhide HXO7) hbE)
      clear hv hp hne ho hbE eA eB gA gB bA bB HX7 HC7 HD7 HL7 HXO7 f1 f2 f3 g1 g2 g3 hbl hbr
      have HO1 := hide (fun wz : World => lown_any (w := wz) V1 ⟨y1, y2, y3⟩)
      have HO2 := hide (fun wz : World => lown_any (w := wz) V2 ⟨z1, z2, z3⟩)
      have HCO := hide (fun (wz : World) (hb : Below wE.heap.size wE wz) => conflict_any ((unhide HMD).later ((unhide HL8).trans (hb.mono (unhide HL8).size))) (V1, ⟨y1, y2, y3⟩) (V2, ⟨z1, z2, z3⟩) (MC.may_op (unhide HV1)) (MC.may_op (unhide HV2)))
      obtain ⟨E, hE⟩ : ∃ E, conM (V1, ⟨y1, y2, y3⟩) (V2, ⟨z1, z2, z3⟩) = E := ⟨_, rfl⟩
      have HCF := hide hE
      rw [hE] at HCO
      clear hE
      unfold mcV mrV at HO1 HO2
      dsimp only at HO1 HO2
      cases E
      · go_upto_region 9 with fail
        refine regN [.val 58 (Res.plain (.agg #[.int .i64 V1.op, .string (S V1.a), .string (S V1.b), .int .i64 V1.n]) []), .val 59 (Res.plain (.agg #[.int .i64 y1, .string (S y2), .int .i64 y3]) []), .val 60 (Res.plain (stV (V1, ⟨y1, y2, y3⟩)) []), .val 61 (Res.plain (.agg #[.int .i64 V2.op, .string (S V2.a), .string (S V2.b), .int .i64 V2.n]) []), .val 62 (Res.plain (.agg #[.int .i64 z1, .string (S z2), .int .i64 z3]) []), .val 63 (Res.plain (stV (V2, ⟨z1, z2, z3⟩)) []), .val 64 (Res.plain (.bool false) [])] (fun i => if i = 2 then [0, 1] else if i = 5 then [3, 4] else if i = 6 then [2, 5] else []) ?_ ?_ ?_ ?_ ?_ ?_ ?_ (fun i hi => ?_) ?_
        · kernel_rfl
        · rfl
        · kernel_rfl
        · kernel_rfl
        · kernel_rfl
        · kernel_rfl
        · kernel_rfl
        · have hc : i = 0 ∨ i = 1 ∨ i = 2 ∨ i = 3 ∨ i = 4 ∨ i = 5 ∨ i = 6 := by have : i < 7 := hi; omega
          clear hi
          rcases hc with rfl | rfl | rfl | rfl | rfl | rfl | rfl
          · with_reducible refine DoesN.plain (s := 58) (v := .agg #[.int .i64 V1.op, .string (S V1.a), .string (S V1.b), .int .i64 V1.n]) ?_ ?_
            · rfl
            intro f wz K hb hd hK
            obtain ⟨d0, d1, d2, d3, _⟩ := cell4 ((hb.block _ (block_lt HC8)).trans HC8)
            simp only [setN, upd, Nat.reduceAdd, Nat.reduceEqDiff, reduceIte, List.setIfInBounds_toArray, List.set_cons_zero, List.set_cons_succ] at hK ⊢
            refine wpOp_do rfl (by kernel_rfl) ?_
            unfold Oper.wp execOp
            go_simp
            exact hK _ (Below.refl _ _)
          · with_reducible refine DoesN.plain (s := 59) (v := .agg #[.int .i64 y1, .string (S y2), .int .i64 y3]) ?_ ?_
            · rfl
            intro f wz K hb hd hK
            obtain ⟨d0, d1, d2, _⟩ := cell3 ((hb.block _ (block_lt HR8)).trans HR8)
            simp only [setN, upd, Nat.reduceAdd, Nat.reduceEqDiff, reduceIte, List.setIfInBounds_toArray, List.set_cons_zero, List.set_cons_succ] at hK ⊢
            refine wpOp_do rfl (by kernel_rfl) ?_
            unfold Oper.wp execOp
            go_simp
            exact hK _ (Below.refl _ _)
          · with_reducible refine DoesN.plain (s := 60) (v := stV (V1, ⟨y1, y2, y3⟩)) ?_ ?_
            · rfl
            intro f wz K hb hd hK
            have e0 : f 0 = .agg #[.int .i64 V1.op, .string (S V1.a), .string (S V1.b), .int .i64 V1.n] := plainAt (s := 58) (cs := []) (hd 0 (by decide)) rfl
            have e1 : f 1 = .agg #[.int .i64 y1, .string (S y2), .int .i64 y3] := plainAt (s := 59) (cs := []) (hd 1 (by decide)) rfl
            simp only [setN, upd, Nat.reduceAdd, Nat.reduceEqDiff, reduceIte, List.setIfInBounds_toArray, List.set_cons_zero, List.set_cons_succ] at hK ⊢
            simp only [e0, e1] at hK ⊢
            refine wpOp_do rfl (by kernel_rfl) ?_
            unfold Oper.wp execOp
            go_simp
            refine (unhide HO1 _).mono ?_
            rintro e w' ⟨rfl, hb'⟩
            exact hK _ hb'
          · with_reducible refine DoesN.plain (s := 61) (v := .agg #[.int .i64 V2.op, .string (S V2.a), .string (S V2.b), .int .i64 V2.n]) ?_ ?_
            · rfl
            intro f wz K hb hd hK
            obtain ⟨d0, d1, d2, d3, _⟩ := cell4 ((hb.block _ (block_lt HD8)).trans HD8)
            simp only [setN, upd, Nat.reduceAdd, Nat.reduceEqDiff, reduceIte, List.setIfInBounds_toArray, List.set_cons_zero, List.set_cons_succ] at hK ⊢
            refine wpOp_do rfl (by kernel_rfl) ?_
            unfold Oper.wp execOp
            go_simp
            exact hK _ (Below.refl _ _)
          · with_reducible refine DoesN.plain (s := 62) (v := .agg #[.int .i64 z1, .string (S z2), .int .i64 z3]) ?_ ?_
            · rfl
            intro f wz K hb hd hK
            obtain ⟨d0, d1, d2, _⟩ := cell3 ((hb.block _ (block_lt HT8)).trans HT8)
            simp only [setN, upd, Nat.reduceAdd, Nat.reduceEqDiff, reduceIte, List.setIfInBounds_toArray, List.set_cons_zero, List.set_cons_succ] at hK ⊢
            refine wpOp_do rfl (by kernel_rfl) ?_
            unfold Oper.wp execOp
            go_simp
            exact hK _ (Below.refl _ _)
          · with_reducible refine DoesN.plain (s := 63) (v := stV (V2, ⟨z1, z2, z3⟩)) ?_ ?_
            · rfl
            intro f wz K hb hd hK
            have e3 : f 3 = .agg #[.int .i64 V2.op, .string (S V2.a), .string (S V2.b), .int .i64 V2.n] := plainAt (s := 61) (cs := []) (hd 3 (by decide)) rfl
            have e4 : f 4 = .agg #[.int .i64 z1, .string (S z2), .int .i64 z3] := plainAt (s := 62) (cs := []) (hd 4 (by decide)) rfl
            simp only [setN, upd, Nat.reduceAdd, Nat.reduceEqDiff, reduceIte, List.setIfInBounds_toArray, List.set_cons_zero, List.set_cons_succ] at hK ⊢
            simp only [e3, e4] at hK ⊢
            refine wpOp_do rfl (by kernel_rfl) ?_
            unfold Oper.wp execOp
            go_simp
            refine (unhide HO2 _).mono ?_
            rintro e w' ⟨rfl, hb'⟩
            exact hK _ hb'
          · with_reducible refine DoesN.plain (s := 64) (v := .bool false) ?_ ?_
            · rfl
            intro f wz K hb hd hK
            have e2 : f 2 = stV (V1, ⟨y1, y2, y3⟩) := plainAt (s := 60) (cs := []) (hd 2 (by decide)) rfl
            have e5 : f 5 = stV (V2, ⟨z1, z2, z3⟩) := plainAt (s := 63) (cs := []) (hd 5 (by decide)) rfl
            simp only [setN, upd, Nat.reduceAdd, Nat.reduceEqDiff, reduceIte, List.setIfInBounds_toArray, List.set_cons_zero, List.set_cons_succ] at hK ⊢
            simp only [e2, e5] at hK ⊢
            refine wpOp_do rfl (by kernel_rfl) ?_
            unfold Oper.wp execOp
            go_simp
            refine (unhide HCO _ hb).mono ?_
            rintro e w' ⟨rfl, hb'⟩
            exact hK _ hb'
        · intro f wE hbE hv hp hne ho
          have h0 : f 0 = .agg #[.int .i64 V1.op, .string (S V1.a), .string (S V1.b), .int .i64 V1.n] := plainAt (s := 58) (cs := []) (hv 0) rfl
          have h1 : f 1 = .agg #[.int .i64 y1, .string (S y2), .int .i64 y3] := plainAt (s := 59) (cs := []) (hv 1) rfl
          have h2 : f 2 = stV (V1, ⟨y1, y2, y3⟩) := plainAt (s := 60) (cs := []) (hv 2) rfl
          have h3 : f 3 = .agg #[.int .i64 V2.op, .string (S V2.a), .string (S V2.b), .int .i64 V2.n] := plainAt (s := 61) (cs := []) (hv 3) rfl
          have h4 : f 4 = .agg #[.int .i64 z1, .string (S z2), .int .i64 z3] := plainAt (s := 62) (cs := []) (hv 4) rfl
          have h5 : f 5 = stV (V2, ⟨z1, z2, z3⟩) := plainAt (s := 63) (cs := []) (hv 5) rfl
          have h6 : f 6 = .bool false := plainAt (s := 64) (cs := []) (hv 6) rfl
          simp only [setN, Nat.reduceAdd, List.setIfInBounds_toArray, List.set_cons_zero, List.set_cons_succ]
          simp only [h0, h1, h2, h3, h4, h5, h6]
          clear h0 h1 h2 h3 h4 h5 h6
          have HLC := hide ((unhide HL8).trans (hbE.mono (unhide HL8).size))
          have hx9 := (hbE.block _ (block_lt HX8)).trans HX8
          have hc9 := (hbE.block _ (block_lt HC8)).trans HC8
          have hd9 := (hbE.block _ (block_lt HD8)).trans HD8
          have hr9 := (hbE.block _ (block_lt HR8)).trans HR8
          have ht9 := (hbE.block _ (block_lt HT8)).trans HT8
          have HXO9 := hide (ownsRow_below (unhide HXO8) hbE)
          clear hv hp hne ho hbE HX8 HC8 HD8 HR8 HT8
          obtain ⟨d0, d1, d2, _⟩ := cell3 hx9
          obtain ⟨u0, u1, u2, u3, _⟩ := cell4 hc9
          obtain ⟨k0, k1, k2, _⟩ := cell3 hr9
          obtain ⟨n0, n1, n2, n3, _⟩ := cell4 hd9
          obtain ⟨j0, j1, j2, _⟩ := cell3 ht9
          have HRC := hide (rcomm_any (x := (V1, ⟨y1, y2, y3⟩)) (y := (V2, ⟨z1, z2, z3⟩)) (unhide HXO9) (by have := may_few (unhide HMAY); omega) (MC.may_op (unhide HV1)) (MC.may_op (unhide HV2)) (may_nob (unhide HV1)) (may_nob (unhide HV2)) (VS.may.fit (unhide HMAY)))
          rw [comm_ok (x := (V1, ⟨y1, y2, y3⟩)) (y := (V2, ⟨z1, z2, z3⟩)) (VS.may.fit (unhide HMAY)) (fun h => by have h2 := (unhide HXN) h; omega) (unhide HV1) (unhide HV2) (unhide HCF)] at HRC
          unfold mcV mrV at HRC
          dsimp only at HRC
          clear hx9 hc9 hd9 hr9 ht9
          go_wp2_with fail
          refine (unhide HRC).mono ?_
          rintro e wF ⟨rfl, hbF⟩
          have HLF := hide ((unhide HLC).trans (hbF.mono (unhide HLC).size))
          clear hbF
          go_wp2_with fail
          go_ret
          exact ⟨rfl, unhide HLF⟩
      · go_upto_region 9 with fail
        refine regN [.val 58 (Res.plain (.agg #[.int .i64 V1.op, .string (S V1.a), .string (S V1.b), .int .i64 V1.n]) []), .val 59 (Res.plain (.agg #[.int .i64 y1, .string (S y2), .int .i64 y3]) []), .val 60 (Res.plain (stV (V1, ⟨y1, y2, y3⟩)) []), .val 61 (Res.plain (.agg #[.int .i64 V2.op, .string (S V2.a), .string (S V2.b), .int .i64 V2.n]) []), .val 62 (Res.plain (.agg #[.int .i64 z1, .string (S z2), .int .i64 z3]) []), .val 63 (Res.plain (stV (V2, ⟨z1, z2, z3⟩)) []), .val 64 (Res.plain (.bool true) [])] (fun i => if i = 2 then [0, 1] else if i = 5 then [3, 4] else if i = 6 then [2, 5] else []) ?_ ?_ ?_ ?_ ?_ ?_ ?_ (fun i hi => ?_) ?_
        · kernel_rfl
        · rfl
        · kernel_rfl
        · kernel_rfl
        · kernel_rfl
        · kernel_rfl
        · kernel_rfl
        · have hc : i = 0 ∨ i = 1 ∨ i = 2 ∨ i = 3 ∨ i = 4 ∨ i = 5 ∨ i = 6 := by have : i < 7 := hi; omega
          clear hi
          rcases hc with rfl | rfl | rfl | rfl | rfl | rfl | rfl
          · with_reducible refine DoesN.plain (s := 58) (v := .agg #[.int .i64 V1.op, .string (S V1.a), .string (S V1.b), .int .i64 V1.n]) ?_ ?_
            · rfl
            intro f wz K hb hd hK
            obtain ⟨d0, d1, d2, d3, _⟩ := cell4 ((hb.block _ (block_lt HC8)).trans HC8)
            simp only [setN, upd, Nat.reduceAdd, Nat.reduceEqDiff, reduceIte, List.setIfInBounds_toArray, List.set_cons_zero, List.set_cons_succ] at hK ⊢
            refine wpOp_do rfl (by kernel_rfl) ?_
            unfold Oper.wp execOp
            go_simp
            exact hK _ (Below.refl _ _)
          · with_reducible refine DoesN.plain (s := 59) (v := .agg #[.int .i64 y1, .string (S y2), .int .i64 y3]) ?_ ?_
            · rfl
            intro f wz K hb hd hK
            obtain ⟨d0, d1, d2, _⟩ := cell3 ((hb.block _ (block_lt HR8)).trans HR8)
            simp only [setN, upd, Nat.reduceAdd, Nat.reduceEqDiff, reduceIte, List.setIfInBounds_toArray, List.set_cons_zero, List.set_cons_succ] at hK ⊢
            refine wpOp_do rfl (by kernel_rfl) ?_
            unfold Oper.wp execOp
            go_simp
            exact hK _ (Below.refl _ _)
          · with_reducible refine DoesN.plain (s := 60) (v := stV (V1, ⟨y1, y2, y3⟩)) ?_ ?_
            · rfl
            intro f wz K hb hd hK
            have e0 : f 0 = .agg #[.int .i64 V1.op, .string (S V1.a), .string (S V1.b), .int .i64 V1.n] := plainAt (s := 58) (cs := []) (hd 0 (by decide)) rfl
            have e1 : f 1 = .agg #[.int .i64 y1, .string (S y2), .int .i64 y3] := plainAt (s := 59) (cs := []) (hd 1 (by decide)) rfl
            simp only [setN, upd, Nat.reduceAdd, Nat.reduceEqDiff, reduceIte, List.setIfInBounds_toArray, List.set_cons_zero, List.set_cons_succ] at hK ⊢
            simp only [e0, e1] at hK ⊢
            refine wpOp_do rfl (by kernel_rfl) ?_
            unfold Oper.wp execOp
            go_simp
            refine (unhide HO1 _).mono ?_
            rintro e w' ⟨rfl, hb'⟩
            exact hK _ hb'
          · with_reducible refine DoesN.plain (s := 61) (v := .agg #[.int .i64 V2.op, .string (S V2.a), .string (S V2.b), .int .i64 V2.n]) ?_ ?_
            · rfl
            intro f wz K hb hd hK
            obtain ⟨d0, d1, d2, d3, _⟩ := cell4 ((hb.block _ (block_lt HD8)).trans HD8)
            simp only [setN, upd, Nat.reduceAdd, Nat.reduceEqDiff, reduceIte, List.setIfInBounds_toArray, List.set_cons_zero, List.set_cons_succ] at hK ⊢
            refine wpOp_do rfl (by kernel_rfl) ?_
            unfold Oper.wp execOp
            go_simp
            exact hK _ (Below.refl _ _)
          · with_reducible refine DoesN.plain (s := 62) (v := .agg #[.int .i64 z1, .string (S z2), .int .i64 z3]) ?_ ?_
            · rfl
            intro f wz K hb hd hK
            obtain ⟨d0, d1, d2, _⟩ := cell3 ((hb.block _ (block_lt HT8)).trans HT8)
            simp only [setN, upd, Nat.reduceAdd, Nat.reduceEqDiff, reduceIte, List.setIfInBounds_toArray, List.set_cons_zero, List.set_cons_succ] at hK ⊢
            refine wpOp_do rfl (by kernel_rfl) ?_
            unfold Oper.wp execOp
            go_simp
            exact hK _ (Below.refl _ _)
          · with_reducible refine DoesN.plain (s := 63) (v := stV (V2, ⟨z1, z2, z3⟩)) ?_ ?_
            · rfl
            intro f wz K hb hd hK
            have e3 : f 3 = .agg #[.int .i64 V2.op, .string (S V2.a), .string (S V2.b), .int .i64 V2.n] := plainAt (s := 61) (cs := []) (hd 3 (by decide)) rfl
            have e4 : f 4 = .agg #[.int .i64 z1, .string (S z2), .int .i64 z3] := plainAt (s := 62) (cs := []) (hd 4 (by decide)) rfl
            simp only [setN, upd, Nat.reduceAdd, Nat.reduceEqDiff, reduceIte, List.setIfInBounds_toArray, List.set_cons_zero, List.set_cons_succ] at hK ⊢
            simp only [e3, e4] at hK ⊢
            refine wpOp_do rfl (by kernel_rfl) ?_
            unfold Oper.wp execOp
            go_simp
            refine (unhide HO2 _).mono ?_
            rintro e w' ⟨rfl, hb'⟩
            exact hK _ hb'
          · with_reducible refine DoesN.plain (s := 64) (v := .bool true) ?_ ?_
            · rfl
            intro f wz K hb hd hK
            have e2 : f 2 = stV (V1, ⟨y1, y2, y3⟩) := plainAt (s := 60) (cs := []) (hd 2 (by decide)) rfl
            have e5 : f 5 = stV (V2, ⟨z1, z2, z3⟩) := plainAt (s := 63) (cs := []) (hd 5 (by decide)) rfl
            simp only [setN, upd, Nat.reduceAdd, Nat.reduceEqDiff, reduceIte, List.setIfInBounds_toArray, List.set_cons_zero, List.set_cons_succ] at hK ⊢
            simp only [e2, e5] at hK ⊢
            refine wpOp_do rfl (by kernel_rfl) ?_
            unfold Oper.wp execOp
            go_simp
            refine (unhide HCO _ hb).mono ?_
            rintro e w' ⟨rfl, hb'⟩
            exact hK _ hb'
        · intro f wE hbE hv hp hne ho
          have h0 : f 0 = .agg #[.int .i64 V1.op, .string (S V1.a), .string (S V1.b), .int .i64 V1.n] := plainAt (s := 58) (cs := []) (hv 0) rfl
          have h1 : f 1 = .agg #[.int .i64 y1, .string (S y2), .int .i64 y3] := plainAt (s := 59) (cs := []) (hv 1) rfl
          have h2 : f 2 = stV (V1, ⟨y1, y2, y3⟩) := plainAt (s := 60) (cs := []) (hv 2) rfl
          have h3 : f 3 = .agg #[.int .i64 V2.op, .string (S V2.a), .string (S V2.b), .int .i64 V2.n] := plainAt (s := 61) (cs := []) (hv 3) rfl
          have h4 : f 4 = .agg #[.int .i64 z1, .string (S z2), .int .i64 z3] := plainAt (s := 62) (cs := []) (hv 4) rfl
          have h5 : f 5 = stV (V2, ⟨z1, z2, z3⟩) := plainAt (s := 63) (cs := []) (hv 5) rfl
          have h6 : f 6 = .bool true := plainAt (s := 64) (cs := []) (hv 6) rfl
          simp only [setN, Nat.reduceAdd, List.setIfInBounds_toArray, List.set_cons_zero, List.set_cons_succ]
          simp only [h0, h1, h2, h3, h4, h5, h6]
          clear h0 h1 h2 h3 h4 h5 h6
          have HLC := hide ((unhide HL8).trans (hbE.mono (unhide HL8).size))
          have hx9 := (hbE.block _ (block_lt HX8)).trans HX8
          have hc9 := (hbE.block _ (block_lt HC8)).trans HC8
          have hd9 := (hbE.block _ (block_lt HD8)).trans HD8
          have hr9 := (hbE.block _ (block_lt HR8)).trans HR8
          have ht9 := (hbE.block _ (block_lt HT8)).trans HT8
          have HXO9 := hide (ownsRow_below (unhide HXO8) hbE)
          clear hv hp hne ho hbE HX8 HC8 HD8 HR8 HT8
          go_wp2_with fail
          go_ret
          exact ⟨rfl, unhide HLC⟩
theorem commuteStates_walk {H : Type} {enc : TypeId × Value → H} {base b0 : Nat} {spare : Nat → Bool} {held : Bool} {r : Reach} {v : Value} {d : DataW H} {p : List MemPlace} (w : World)
    (hv : Value.okWide Tryd.prog w r b0 47 v) (hd : DataW.Trod enc Tryd.prog w base spare held 47 v d p) (op : Int) (wop : (Lit.int .i64 op).wf = true) (ca : ByteArray) (wca : ca.size ≤ maxLen) (cb : ByteArray) (wcb : cb.size ≤ maxLen) (cn : Int) (wcn : (Lit.int .i64 cn).wf = true)
    (op' : Int) (wop' : (Lit.int .i64 op').wf = true) (ca' : ByteArray) (wca' : ca'.size ≤ maxLen) (cb' : ByteArray) (wcb' : cb'.size ≤ maxLen) (cn' : Int) (wcn' : (Lit.int .i64 cn').wf = true) (ii : Int) (wii : (Lit.int .i64 ii).wf = true) (jj : Int) (wjj : (Lit.int .i64 jj).wf = true) (hw : MD w) :
    Calls Tryd.prog 4 #[v, .agg #[.int .i64 op, .string ca, .string cb, .int .i64 cn], .agg #[.int .i64 op', .string ca', .string cb', .int .i64 cn'], .int .i64 ii, .int .i64 jj] w fun e w' => e = .returned (.bool true) ∧ Below w.heap.size w w' := by
  obtain ⟨s, hs, _, hn, hz⟩ := open_state hv hd
  exact qstates_any hs hn hz op ca cb cn (vwf_i64 wop) (vwf_i64 wcn) wca wcb op' ca' cb' cn' (vwf_i64 wop') (vwf_i64 wcn') wca' wcb' ii jj hw
end Go.Proofs.YteaiidcconggcaaDoor
