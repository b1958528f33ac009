/- The walk of CommuteExact. -/
import Derived.Test.YteaiidcconggcaaDoorQMeet
import Derived.Test.YteaiidcconggcaaDoorBundleQ13
import Derived.Test.YteaiidcconggcaaDoorBundleQ14
import Derived.Test.YteaiidcconggcaaDoorBundleA11
import Derived.Test.YteaiidcconggcaaDoorVOpen
import Derived.Deep.DeepCutAuto
namespace Go.Proofs.YteaiidcconggcaaDoor
open Go.RowKit
set_option linter.unusedVariables false
set_option maxRecDepth 100000

/- The boxes of the law behind its first step. -/
structure Zx (w : World) (Q : Nat) (o : Int) (s t : ByteArray) (n : Int) (k : Int) (u : ByteArray) (m : Int) (p : Stp) (wx : World) : Prop where
  b : wx.heap[w.heap.size + 1]? = some (.cells #[.int .i64 o, .string s, .string t, .int .i64 n] 24 (0, 0))
  t : wx.heap[w.heap.size + 1 + 1 + 1]? = some (.cells #[.int .i64 k, .string u, .int .i64 m] 26 (0, 0))
  c : wx.heap[Q]? = some (.cells #[.int .i64 p.1.op, .string (S p.1.a), .string (S p.1.b), .int .i64 p.1.n] 29 (0, 0))
  x : wx.heap[Q + 1]? = some (.cells #[.int .i64 p.2.code, .string (S p.2.text), .int .i64 p.2.n] 30 (0, 0))
  low : Below w.heap.size w wx
  far : w.heap.size + 1 + 1 + 1 < Q
section
variable {w wx w' : World} {Q : Nat} {o n k m : Int} {s t u : ByteArray} {p : Stp}
theorem Zx.later (h : Zx w Q o s t n k u m p wx) (hb : Below wx.heap.size wx w') : Zx w Q o s t n k u m p w' :=
  ⟨(hb.block _ (block_lt h.b)).trans h.b, (hb.block _ (block_lt h.t)).trans h.t, (hb.block _ (block_lt h.c)).trans h.c, (hb.block _ (block_lt h.x)).trans h.x, h.low.trans (hb.mono h.low.size), h.far⟩
theorem Zx.set (h : Zx w Q o s t n k u m p wx) (o' n' : Int) (s' t' : ByteArray) : Zx w Q o' s' t' n' k u m p ((((wx.setCell ⟨w.heap.size + 1, 0, none⟩ (.int .i64 o')).setCell ⟨w.heap.size + 1, 1, none⟩ (.string s')).setCell ⟨w.heap.size + 1, 2, none⟩ (.string t')).setCell ⟨w.heap.size + 1, 3, none⟩ (.int .i64 n')) := by
  have hf := h.far
  have ho : ∀ j, j ≠ w.heap.size + 1 → ((((wx.setCell ⟨w.heap.size + 1, 0, none⟩ (.int .i64 o')).setCell ⟨w.heap.size + 1, 1, none⟩ (.string s')).setCell ⟨w.heap.size + 1, 2, none⟩ (.string t')).setCell ⟨w.heap.size + 1, 3, none⟩ (.int .i64 n')).heap[j]? = wx.heap[j]? := fun j hj => by
    rw [heap_setCell_other _ ⟨w.heap.size + 1, 3, none⟩ j _ hj, heap_setCell_other _ ⟨w.heap.size + 1, 2, none⟩ j _ hj, heap_setCell_other _ ⟨w.heap.size + 1, 1, none⟩ j _ hj, heap_setCell_other _ ⟨w.heap.size + 1, 0, none⟩ j _ hj]
  refine ⟨?_, (ho _ (by omega)).trans h.t, (ho _ (by omega)).trans h.c, (ho _ (by omega)).trans h.x, Below.setc (Below.setc (Below.setc (Below.setc h.low (by omega) _ _) (by omega) _ _) (by omega) _ _) (by omega) _ _, hf⟩
  have f0 := heap_setCell_same wx (w.heap.size + 1) 0 _ _ (.int .i64 o') h.b
  have f1 := heap_setCell_same _ (w.heap.size + 1) 1 _ _ (.string s') f0
  have f2 := heap_setCell_same _ (w.heap.size + 1) 2 _ _ (.string t') f1
  have f3 := heap_setCell_same _ (w.heap.size + 1) 3 _ _ (.int .i64 n') f2
  simpa [Array.setIfInBounds] using f3
end
set_option maxHeartbeats 102400000 in
theorem qexact_any {w : World} (x0 : Int) (hx0 : I64 x0) (x1 : ByteArray) (hx1 : x1.size ≤ maxLen) (x2 : ByteArray) (hx2 : x2.size ≤ maxLen) (x3 : Int) (hx3 : I64 x3)
    (y0 : Int) (hy0 : I64 y0) (y1 : ByteArray) (hy1 : y1.size ≤ maxLen) (y2 : ByteArray) (hy2 : y2.size ≤ maxLen) (y3 : Int) (hy3 : I64 y3)
    (r0 : Int) (hr0 : I64 r0) (r1 : ByteArray) (hr1 : r1.size ≤ maxLen) (r2 : Int) (hr2 : I64 r2) (u0 : Int) (hu0 : I64 u0) (u1 : ByteArray) (hu1 : u1.size ≤ maxLen) (u2 : Int) (hu2 : I64 u2) (of : Bool) (hw : MD w) :
    Calls Tryd.prog 3 #[.agg #[.int .i64 x0, .string x1, .string x2, .int .i64 x3], .agg #[.int .i64 y0, .string y1, .string y2, .int .i64 y3], .agg #[.int .i64 r0, .string r1, .int .i64 r2], .agg #[.int .i64 u0, .string u1, .int .i64 u2], .bool of] w fun e w' => e = .returned (.bool true) ∧ Below w.heap.size w w' := by
  have HAW := hide (fun (wz : World) (hb : Below w.heap.size w wz) => qawake_any (hw.later hb))
  have HST1 := hide (fun (wz : World) => lstep_any (w := wz) x0 x3 r0 r2 x1 x2 r1 hx0 hx3 hr0 hr2 hx1 hx2 hr1)
  have HMD := hide hw
  have HY := hide (show I64 y0 ∧ I64 y3 ∧ y1.size ≤ maxLen ∧ y2.size ≤ maxLen from ⟨hy0, hy3, hy1, hy2⟩)
  have HU := hide (show I64 u0 ∧ I64 u2 ∧ u1.size ≤ maxLen from ⟨hu0, hu2, hu1⟩)
  clear hw hx0 hx1 hx2 hx3 hy0 hy1 hy2 hy3 hr0 hr1 hr2 hu0 hu1 hu2
  obtain ⟨W, hW⟩ : ∃ W, (((w.alloc (.cells #[.int .i64 x0, .string x1, .string x2, .int .i64 x3] 24)).alloc (.cells #[.int .i64 y0, .string y1, .string y2, .int .i64 y3] 24)).alloc (.cells #[.int .i64 r0, .string r1, .int .i64 r2] 26)).alloc (.cells #[.int .i64 u0, .string u1, .int .i64 u2] 26) = W := ⟨_, rfl⟩
  have HF : Hid (W.heap[w.heap.size]? = some (.cells #[.int .i64 x0, .string x1, .string x2, .int .i64 x3] 24 (0, 0)) ∧ W.heap[w.heap.size + 1]? = some (.cells #[.int .i64 y0, .string y1, .string y2, .int .i64 y3] 24 (0, 0)) ∧ W.heap[w.heap.size + 1 + 1]? = some (.cells #[.int .i64 r0, .string r1, .int .i64 r2] 26 (0, 0)) ∧ W.heap[w.heap.size + 1 + 1 + 1]? = some (.cells #[.int .i64 u0, .string u1, .int .i64 u2] 26 (0, 0)) ∧ Below w.heap.size w W) := by
    show _ ∧ _
    rw [← hW]
    exact qfour_heap w _ _ _ _
  go_enter Tryd.func3, Tryd.ntmps3
  go_upto_region 1 with fail
  try rw [hW]
  clear hW
  go_wp2_with fail
  refine (unhide HAW _ (unhide HF).2.2.2.2).mono ?_
  rintro e w1 ⟨rfl, hb1⟩
  have HF1 : Hid (w1.heap[w.heap.size]? = some (.cells #[.int .i64 x0, .string x1, .string x2, .int .i64 x3] 24 (0, 0)) ∧ w1.heap[w.heap.size + 1]? = some (.cells #[.int .i64 y0, .string y1, .string y2, .int .i64 y3] 24 (0, 0)) ∧ w1.heap[w.heap.size + 1 + 1]? = some (.cells #[.int .i64 r0, .string r1, .int .i64 r2] 26 (0, 0)) ∧ w1.heap[w.heap.size + 1 + 1 + 1]? = some (.cells #[.int .i64 u0, .string u1, .int .i64 u2] 26 (0, 0)) ∧ Below w.heap.size w w1) := by
    obtain ⟨f1, f2, f3, f4, f5⟩ := unhide HF
    exact ⟨(hb1.block _ (block_lt f1)).trans f1, (hb1.block _ (block_lt f2)).trans f2, (hb1.block _ (block_lt f3)).trans f3, (hb1.block _ (block_lt f4)).trans f4, f5.trans (hb1.mono f5.size)⟩
  clear hb1 HF HAW
  obtain ⟨d0, d1, d2, d3, _⟩ := cell4 (unhide HF1).1
  obtain ⟨g0, g1, g2, _⟩ := cell3 (unhide HF1).2.2.1
  go_wp2_with fail
  refine (unhide HST1 _).mono ?_
  rintro e w2 ⟨p, rfl, hgp, hb2⟩
  have HGP := hide hgp
  obtain ⟨⟨o1, a1, b1, n1⟩, ⟨c1, t1, m1⟩⟩ := p
  unfold mcV mrV
  dsimp only
  obtain ⟨W3, hW3⟩ : ∃ W3, (w2.alloc (.cells #[.int .i64 o1, .string (S a1), .string (S b1), .int .i64 n1] 29)).alloc (.cells #[.int .i64 c1, .string (S t1), .int .i64 m1] 30) = W3 := ⟨_, rfl⟩
  have HZ3 : Hid (Zx w w2.heap.size y0 y1 y2 y3 u0 u1 u2 (⟨o1, a1, b1, n1⟩, ⟨c1, t1, m1⟩) W3) := by
    obtain ⟨f1, f2, f3, f4, f5⟩ := unhide HF1
    have hb3 : Below w2.heap.size w2 W3 := by rw [← hW3]; exact under_two w2 _ _
    have hb := hb2.trans (hb3.mono hb2.size)
    refine ⟨(hb.block _ (block_lt f2)).trans f2, (hb.block _ (block_lt f4)).trans f4, ?_, ?_, f5.trans (hb.mono f5.size), ?_⟩
    · rw [← hW3, Below.heap_alloc _ _ _ (by simp)]; exact heap_alloc_new w2 _
    · rw [← hW3]
      have g := heap_alloc_new (w2.alloc (.cells #[.int .i64 o1, .string (S a1), .string (S b1), .int .i64 n1] 29)) (.cells #[.int .i64 c1, .string (S t1), .int .i64 m1] 30)
      simp only [World.size_alloc] at g
      exact g
    · have h1 := block_lt f4; have h2 := hb2.size; omega
  obtain ⟨Q1, hQ1⟩ : ∃ Q1, w2.heap.size = Q1 := ⟨_, rfl⟩
  rw [hQ1] at HZ3
  clear hb2 hgp HF1 HST1 d0 d1 d2 d3 g0 g1 g2
  go_upto_if 24 with fail
  try rw [hW3]
  try rw [hQ1]
  clear hW3 hQ1
  go_cut [] (fun wx => ∃ (z0 : Int) (z1 z2 : ByteArray) (z3 : Int), I64 z0 ∧ I64 z3 ∧ z1.size ≤ maxLen ∧ z2.size ≤ maxLen ∧ Zx w Q1 z0 z1 z2 z3 u0 u1 u2 (⟨o1, a1, b1, n1⟩, ⟨c1, t1, m1⟩) wx)
  case first =>
    cases of
    · go_wp2_with fail
      go_meet
      exact ⟨y0, y1, y2, y3, (unhide HY).1, (unhide HY).2.1, (unhide HY).2.2.1, (unhide HY).2.2.2, unhide HZ3⟩
    · have HKI := hide (fun wz : World => rkind_any (w := wz) o1 (MC.may_op (unhide HGP).may))
      try dsimp only at HKI
      have HOF := hide (fun wz : World => of_any (w := wz) (v := .agg #[.int .i64 (mfact o1).kind, .int .i64 0, .slice none 0 0]) (s := ⟨(mfact o1).kind, 0, []⟩) ⟨_, rfl, Row2.of_own (World.ownsRow_nil _ 0 77 2)⟩ y0 y1 y2 y3 (unhide HY).1 (unhide HY).2.1 (unhide HY).2.2.1 (unhide HY).2.2.2)
      generalize (mfact o1).kind = K at *
      have HZD := hide ((unhide HZ3).later (Below.refl _ _).drew)
      go_upto_region 5 with fail
      obtain ⟨k0, k1, k2, k3, kf⟩ := cell4 (unhide HZD).c
      obtain ⟨b0, b1', b2, b3, bf⟩ := cell4 (unhide HZD).b
      go_region_with (first | (go_at_call 11; refine (unhide HKI _).mono ?_; rintro e wk ⟨rfl, hbk⟩; have HZK := hide ((unhide HZD).later hbk); obtain ⟨b0, b1', b2, b3, bf⟩ := cell4 (unhide HZK).b; clear hbk) | (go_at_call 10; refine (unhide HOF _).mono ?_; rintro e wo ⟨V2, rfl, hV2, hbo⟩; unfold mcV; have HV2 := hide hV2; have HZO := hide ((unhide HZK).later hbo); clear hbo hV2) | (go_at_call 9; refine (mown_any V2).mono ?_; rintro e wn ⟨rfl, hbn⟩; unfold mcV; have HZN := hide ((unhide HZO).later hbn); obtain ⟨b0, b1', b2, b3, bf⟩ := cell4 (unhide HZN).b; clear hbn))
      all_goals go_wp2_with fail
      all_goals go_meet
      all_goals exact ⟨V2.op, S V2.a, S V2.b, V2.n, by have := MC.may_op (unhide HV2); unfold okOp at this; unfold I64; omega, (unhide HV2).2, by have := (MC.may_len (unhide HV2)).1; rw [S_size]; unfold maxLen; omega, by have := (MC.may_len (unhide HV2)).2; rw [S_size]; unfold maxLen; omega, (unhide HZN).set V2.op V2.n (S V2.a) (S V2.b)⟩
  case rest =>
  obtain ⟨z0, z1, z2, z3, hz0, hz3, hz1, hz2, hzx⟩ := hcut
  rename World => wc
  have HST2 := hide (fun (wz : World) => lstep_any (w := wz) z0 z3 u0 u2 z1 z2 u1 hz0 hz3 (unhide HU).1 (unhide HU).2.1 hz1 hz2 (unhide HU).2.2)
  have HZX := hide hzx
  obtain ⟨d0, d1, d2, d3, _⟩ := cell4 hzx.b
  obtain ⟨g0, g1, g2, _⟩ := cell3 hzx.t
  clear hz0 hz1 hz2 hz3 hzx HZ3 HY HU
  go_wp2_with fail
  refine (unhide HST2 _).mono ?_
  rintro e w6 ⟨q, rfl, hgq, hb6⟩
  have HGQ := hide hgq
  obtain ⟨⟨o2, a2, b2, n2⟩, ⟨c2, t2, m2⟩⟩ := q
  unfold mcV mrV
  dsimp only
  obtain ⟨W8, hW8⟩ : ∃ W8, (w6.alloc (.cells #[.int .i64 o2, .string (S a2), .string (S b2), .int .i64 n2] 29)).alloc (.cells #[.int .i64 c2, .string (S t2), .int .i64 m2] 30) = W8 := ⟨_, rfl⟩
  have hb8 : Below w6.heap.size w6 W8 := by rw [← hW8]; exact under_two w6 _ _
  have HZ8 := hide (((unhide HZX).later hb6).later hb8)
  have zc2 : W8.heap[w6.heap.size]? = some (.cells #[.int .i64 o2, .string (S a2), .string (S b2), .int .i64 n2] 29 (0, 0)) := by rw [← hW8, Below.heap_alloc _ _ _ (by simp)]; exact heap_alloc_new w6 _
  have zx2 : W8.heap[w6.heap.size + 1]? = some (.cells #[.int .i64 c2, .string (S t2), .int .i64 m2] 30 (0, 0)) := by
    rw [← hW8]
    have g := heap_alloc_new (w6.alloc (.cells #[.int .i64 o2, .string (S a2), .string (S b2), .int .i64 n2] 29)) (.cells #[.int .i64 c2, .string (S t2), .int .i64 m2] 30)
    simp only [World.size_alloc] at g
    exact g
  obtain ⟨Q2, hQ2⟩ : ∃ Q2, w6.heap.size = Q2 := ⟨_, rfl⟩
  rw [hQ2] at zc2 zx2
  have ZC2 := hide zc2
  have ZX2 := hide zx2
  clear zc2 zx2 hb6 hb8 hgq HST2 HZX d0 d1 d2 d3 g0 g1 g2
  go_upto_region 7 with fail
  try rw [hW8]
  try rw [hQ2]
  clear hW8 hQ2
  have zc2 := unhide ZC2
  have zx2 := unhide ZX2
  have zc1 := (unhide HZ8).c
  have zx1 := (unhide HZ8).x
  have HL8 := hide (unhide HZ8).low
  obtain ⟨G, hG⟩ : ∃ G, conM (⟨o1, a1, b1, n1⟩, ⟨c1, t1, m1⟩) (⟨o2, a2, b2, n2⟩, ⟨c2, t2, m2⟩) = G := ⟨_, rfl⟩
  obtain ⟨K1, hK1⟩ : ∃ K, (mfact o1).kind = K := ⟨_, rfl⟩
  obtain ⟨K2, hK2⟩ : ∃ K, (mfact o2).kind = K := ⟨_, rfl⟩
  have hop1 := MC.may_op (unhide HGP).may
  have hop2 := MC.may_op (unhide HGQ).may
  have HO1 := hide (fun (wz : World) (_ : Below W8.heap.size W8 wz) => lown_any (w := wz) ⟨o1, a1, b1, n1⟩ ⟨c1, t1, m1⟩)
  have HO2 := hide (fun (wz : World) (_ : Below W8.heap.size W8 wz) => lown_any (w := wz) ⟨o2, a2, b2, n2⟩ ⟨c2, t2, m2⟩)
  have HCF := hide (fun (wz : World) (hb : Below W8.heap.size W8 wz) => conflict_any ((unhide HMD).later ((unhide HL8).trans (hb.mono (unhide HL8).size))) (⟨o1, a1, b1, n1⟩, ⟨c1, t1, m1⟩) (⟨o2, a2, b2, n2⟩, ⟨c2, t2, m2⟩) hop1 hop2)
  have HK1 := hide (fun (wz : World) => rkind_any (w := wz) o1 hop1)
  have HK2 := hide (fun (wz : World) => rkind_any (w := wz) o2 hop2)
  have HMT := hide (fun (h : K1 = K2) (wz : World) => rmeet_any (w := wz) (⟨o1, a1, b1, n1⟩, ⟨c1, t1, m1⟩) (⟨o2, a2, b2, n2⟩, ⟨c2, t2, m2⟩) (unhide HGP) (unhide HGQ) (by show (mfact o1).kind = (mfact o2).kind; rw [hK1, hK2]; exact h))
  have HGN : Hid (¬ K1 = K2 → G = false) := fun h => by
    rw [← hG]
    unfold conM
    rw [decide_eq_false (fun e => h (by rw [← hK1, ← hK2]; exact e))]
    simp
  rw [hG] at HCF HMT
  rw [hK1] at HK1
  rw [hK2] at HK2
  unfold mcV mrV stV at HO1 HO2
  unfold mcV mrV at HMT
  unfold stV at HCF
  dsimp only at HO1 HO2 HCF HMT
  clear hG hK1 hK2 hop1 hop2
  refine regN [.val 38 (Res.plain (.agg #[.int .i64 o1, .string (S a1), .string (S b1), .int .i64 n1]) []), .val 39 (Res.plain (.agg #[.int .i64 c1, .string (S t1), .int .i64 m1]) []), .val 40 (Res.plain (.agg #[.int .i64 o1, .string (S a1), .string (S b1), .int .i64 n1, .int .i64 c1, .string (S t1), .int .i64 m1]) []), .val 41 (Res.plain (.agg #[.int .i64 o2, .string (S a2), .string (S b2), .int .i64 n2]) []), .val 42 (Res.plain (.agg #[.int .i64 c2, .string (S t2), .int .i64 m2]) []), .val 43 (Res.plain (.agg #[.int .i64 o2, .string (S a2), .string (S b2), .int .i64 n2, .int .i64 c2, .string (S t2), .int .i64 m2]) []), .val 44 (Res.plain (.bool G) []), .val 15 (Res.plain (.bool G) [])] (fun i => if i = 2 then [0, 1] else if i = 5 then [3, 4] else if i = 6 then [2, 5] else if i = 7 then [6] else []) ?_ ?_ ?_ ?_ ?_ ?_ ?_ (fun i hi => ?_) ?_
  · kernel_rfl
  · rfl
  · kernel_rfl
  · kernel_rfl
  · kernel_rfl
  · kernel_rfl
  · kernel_rfl
  · have hc : i = 0 ∨ i = 1 ∨ i = 2 ∨ i = 3 ∨ i = 4 ∨ i = 5 ∨ i = 6 ∨ i = 7 := by have : i < 8 := hi; omega
    clear hi
    rcases hc with rfl | rfl | rfl | rfl | rfl | rfl | rfl | rfl
    · with_reducible refine DoesN.plain (s := 38) (v := .agg #[.int .i64 o1, .string (S a1), .string (S b1), .int .i64 n1]) ?_ ?_
      · rfl
      intro f wz K hb hd hK
      obtain ⟨p0, p1, p2, p3, _⟩ := cell4 ((hb.block _ (block_lt zc1)).trans zc1)
      simp only [setN, upd, Nat.reduceAdd, Nat.reduceEqDiff, reduceIte, List.setIfInBounds_toArray, List.set_cons_zero, List.set_cons_succ] at hK ⊢
      refine wpOp_do rfl (by kernel_rfl) ?_
      unfold Oper.wp execOp
      go_simp
      exact hK _ (Below.refl _ _)
    · with_reducible refine DoesN.plain (s := 39) (v := .agg #[.int .i64 c1, .string (S t1), .int .i64 m1]) ?_ ?_
      · rfl
      intro f wz K hb hd hK
      obtain ⟨p0, p1, p2, _⟩ := cell3 ((hb.block _ (block_lt zx1)).trans zx1)
      simp only [setN, upd, Nat.reduceAdd, Nat.reduceEqDiff, reduceIte, List.setIfInBounds_toArray, List.set_cons_zero, List.set_cons_succ] at hK ⊢
      refine wpOp_do rfl (by kernel_rfl) ?_
      unfold Oper.wp execOp
      go_simp
      exact hK _ (Below.refl _ _)
    · with_reducible refine DoesN.plain (s := 40) (v := .agg #[.int .i64 o1, .string (S a1), .string (S b1), .int .i64 n1, .int .i64 c1, .string (S t1), .int .i64 m1]) ?_ ?_
      · rfl
      intro f wz K hb hd hK
      have e0 : f 0 = .agg #[.int .i64 o1, .string (S a1), .string (S b1), .int .i64 n1] := plainAt (s := 38) (cs := []) (hd 0 (by decide)) rfl
      have e1 : f 1 = .agg #[.int .i64 c1, .string (S t1), .int .i64 m1] := plainAt (s := 39) (cs := []) (hd 1 (by decide)) rfl
      simp only [setN, upd, Nat.reduceAdd, Nat.reduceEqDiff, reduceIte, List.setIfInBounds_toArray, List.set_cons_zero, List.set_cons_succ] at hK ⊢
      simp only [e0, e1] at hK ⊢
      refine wpOp_do rfl (by kernel_rfl) ?_
      unfold Oper.wp execOp
      go_simp
      refine (unhide HO1 _ ?_).mono ?_
      · exact hb
      rintro e w' ⟨rfl, hb'⟩
      exact hK _ hb'
    · with_reducible refine DoesN.plain (s := 41) (v := .agg #[.int .i64 o2, .string (S a2), .string (S b2), .int .i64 n2]) ?_ ?_
      · rfl
      intro f wz K hb hd hK
      obtain ⟨p0, p1, p2, p3, _⟩ := cell4 ((hb.block _ (block_lt zc2)).trans zc2)
      simp only [setN, upd, Nat.reduceAdd, Nat.reduceEqDiff, reduceIte, List.setIfInBounds_toArray, List.set_cons_zero, List.set_cons_succ] at hK ⊢
      refine wpOp_do rfl (by kernel_rfl) ?_
      unfold Oper.wp execOp
      go_simp
      exact hK _ (Below.refl _ _)
    · with_reducible refine DoesN.plain (s := 42) (v := .agg #[.int .i64 c2, .string (S t2), .int .i64 m2]) ?_ ?_
      · rfl
      intro f wz K hb hd hK
      obtain ⟨p0, p1, p2, _⟩ := cell3 ((hb.block _ (block_lt zx2)).trans zx2)
      simp only [setN, upd, Nat.reduceAdd, Nat.reduceEqDiff, reduceIte, List.setIfInBounds_toArray, List.set_cons_zero, List.set_cons_succ] at hK ⊢
      refine wpOp_do rfl (by kernel_rfl) ?_
      unfold Oper.wp execOp
      go_simp
      exact hK _ (Below.refl _ _)
    · with_reducible refine DoesN.plain (s := 43) (v := .agg #[.int .i64 o2, .string (S a2), .string (S b2), .int .i64 n2, .int .i64 c2, .string (S t2), .int .i64 m2]) ?_ ?_
      · rfl
      intro f wz K hb hd hK
      have e3 : f 3 = .agg #[.int .i64 o2, .string (S a2), .string (S b2), .int .i64 n2] := plainAt (s := 41) (cs := []) (hd 3 (by decide)) rfl
      have e4 : f 4 = .agg #[.int .i64 c2, .string (S t2), .int .i64 m2] := plainAt (s := 42) (cs := []) (hd 4 (by decide)) rfl
      simp only [setN, upd, Nat.reduceAdd, Nat.reduceEqDiff, reduceIte, List.setIfInBounds_toArray, List.set_cons_zero, List.set_cons_succ] at hK ⊢
      simp only [e3, e4] at hK ⊢
      refine wpOp_do rfl (by kernel_rfl) ?_
      unfold Oper.wp execOp
      go_simp
      refine (unhide HO2 _ ?_).mono ?_
      · exact hb
      rintro e w' ⟨rfl, hb'⟩
      exact hK _ hb'
    · with_reducible refine DoesN.plain (s := 44) (v := .bool G) ?_ ?_
      · rfl
      intro f wz K hb hd hK
      have e2 : f 2 = .agg #[.int .i64 o1, .string (S a1), .string (S b1), .int .i64 n1, .int .i64 c1, .string (S t1), .int .i64 m1] := plainAt (s := 40) (cs := []) (hd 2 (by decide)) rfl
      have e5 : f 5 = .agg #[.int .i64 o2, .string (S a2), .string (S b2), .int .i64 n2, .int .i64 c2, .string (S t2), .int .i64 m2] := plainAt (s := 43) (cs := []) (hd 5 (by decide)) rfl
      simp only [setN, upd, Nat.reduceAdd, Nat.reduceEqDiff, reduceIte, List.setIfInBounds_toArray, List.set_cons_zero, List.set_cons_succ] at hK ⊢
      simp only [e2, e5] at hK ⊢
      refine wpOp_do rfl (by kernel_rfl) ?_
      unfold Oper.wp execOp
      go_simp
      refine (unhide HCF _ ?_).mono ?_
      · exact hb
      rintro e w' ⟨rfl, hb'⟩
      exact hK _ hb'
    · with_reducible refine DoesN.plain (s := 15) (v := .bool G) ?_ ?_
      · rfl
      intro f wz K hb hd hK
      have e6 : f 6 = .bool G := plainAt (s := 44) (cs := []) (hd 6 (by decide)) rfl
      simp only [setN, upd, Nat.reduceAdd, Nat.reduceEqDiff, reduceIte, List.setIfInBounds_toArray, List.set_cons_zero, List.set_cons_succ] at hK ⊢
      simp only [e6] at hK ⊢
      refine wpOp_do rfl (by kernel_rfl) ?_
      unfold Oper.wp execOp
      go_simp
      exact hK _ (Below.refl _ _)
  · intro f wE hbE hv hp hne ho
    have h0 : f 0 = .agg #[.int .i64 o1, .string (S a1), .string (S b1), .int .i64 n1] := plainAt (s := 38) (cs := []) (hv 0) rfl
    have h1 : f 1 = .agg #[.int .i64 c1, .string (S t1), .int .i64 m1] := plainAt (s := 39) (cs := []) (hv 1) rfl
    have h2 : f 2 = .agg #[.int .i64 o1, .string (S a1), .string (S b1), .int .i64 n1, .int .i64 c1, .string (S t1), .int .i64 m1] := plainAt (s := 40) (cs := []) (hv 2) rfl
    have h3 : f 3 = .agg #[.int .i64 o2, .string (S a2), .string (S b2), .int .i64 n2] := plainAt (s := 41) (cs := []) (hv 3) rfl
    have h4 : f 4 = .agg #[.int .i64 c2, .string (S t2), .int .i64 m2] := plainAt (s := 42) (cs := []) (hv 4) rfl
    have h5 : f 5 = .agg #[.int .i64 o2, .string (S a2), .string (S b2), .int .i64 n2, .int .i64 c2, .string (S t2), .int .i64 m2] := plainAt (s := 43) (cs := []) (hv 5) rfl
    have h6 : f 6 = .bool G := plainAt (s := 44) (cs := []) (hv 6) rfl
    have h7 : f 7 = .bool G := plainAt (s := 15) (cs := []) (hv 7) rfl
    simp only [setN, Nat.reduceAdd, List.setIfInBounds_toArray, List.set_cons_zero, List.set_cons_succ]
    simp only [h0, h1, h2, h3, h4, h5, h6, h7]
    clear h0 h1 h2 h3 h4 h5 h6 h7
    have ZC1 := hide ((hbE.block _ (block_lt zc1)).trans zc1)
    have ZX1 := hide ((hbE.block _ (block_lt zx1)).trans zx1)
    have ZC2 := hide ((hbE.block _ (block_lt zc2)).trans zc2)
    have ZX2 := hide ((hbE.block _ (block_lt zx2)).trans zx2)
    have HL9 := hide ((unhide HL8).trans (hbE.mono (unhide HL8).size))
    clear hv hp hne ho hbE zc1 zx1 zc2 zx2 HO1 HO2 HCF
    have zc1 := unhide ZC1
    have zc2 := unhide ZC2
    go_upto_region 8 with fail
    by_cases hk : K1 = K2
    · have e8 : (K1 != K2) = false := by simpa using hk
      have HK := hide hk
      clear hk
      refine regN [.val 45 (Res.plain (.pointer (some ⟨Q1, 0, none⟩)) []), .val 46 (Res.plain (.int .i64 o1) []), .val 47 (Res.plain (.int .i64 K1) []), .val 48 (Res.plain (.pointer (some ⟨Q2, 0, none⟩)) []), .val 49 (Res.plain (.int .i64 o2) []), .val 50 (Res.plain (.int .i64 K2) []), .val 51 (Res.plain (.bool false) [])] (fun i => if i = 1 then [0] else if i = 2 then [1] else if i = 4 then [3] else if i = 5 then [4] else if i = 6 then [2, 5] else []) ?_ ?_ ?_ ?_ ?_ ?_ ?_ (fun i hi => ?_) ?_
      · kernel_rfl
      · rfl
      · kernel_rfl
      · kernel_rfl
      · kernel_rfl
      · kernel_rfl
      · kernel_rfl
      · have hc : i = 0 ∨ i = 1 ∨ i = 2 ∨ i = 3 ∨ i = 4 ∨ i = 5 ∨ i = 6 := by have : i < 7 := hi; omega
        clear hi
        rcases hc with rfl | rfl | rfl | rfl | rfl | rfl | rfl
        · with_reducible refine DoesN.plain (s := 45) (v := .pointer (some ⟨Q1, 0, none⟩)) ?_ ?_
          · rfl
          intro f wz K hb hd hK
          simp only [setN, upd, Nat.reduceAdd, Nat.reduceEqDiff, reduceIte, List.setIfInBounds_toArray, List.set_cons_zero, List.set_cons_succ] at hK ⊢
          refine wpOp_do rfl (by kernel_rfl) ?_
          unfold Oper.wp execOp
          go_simp
          exact hK _ (Below.refl _ _)
        · with_reducible refine DoesN.plain (s := 46) (v := .int .i64 o1) ?_ ?_
          · rfl
          intro f wz K hb hd hK
          have e0 : f 0 = .pointer (some ⟨Q1, 0, none⟩) := plainAt (s := 45) (cs := []) (hd 0 (by decide)) rfl
          obtain ⟨p0, p1, p2, p3, _⟩ := cell4 ((hb.block _ (block_lt zc1)).trans zc1)
          simp only [setN, upd, Nat.reduceAdd, Nat.reduceEqDiff, reduceIte, List.setIfInBounds_toArray, List.set_cons_zero, List.set_cons_succ] at hK ⊢
          simp only [e0] at hK ⊢
          refine wpOp_do rfl (by kernel_rfl) ?_
          unfold Oper.wp execOp
          go_simp
          exact hK _ (Below.refl _ _)
        · with_reducible refine DoesN.plain (s := 47) (v := .int .i64 K1) ?_ ?_
          · rfl
          intro f wz K hb hd hK
          have e1 : f 1 = .int .i64 o1 := plainAt (s := 46) (cs := []) (hd 1 (by decide)) rfl
          simp only [setN, upd, Nat.reduceAdd, Nat.reduceEqDiff, reduceIte, List.setIfInBounds_toArray, List.set_cons_zero, List.set_cons_succ] at hK ⊢
          simp only [e1] at hK ⊢
          refine wpOp_do rfl (by kernel_rfl) ?_
          unfold Oper.wp execOp
          go_simp
          refine (unhide HK1 _).mono ?_
          rintro e w' ⟨rfl, hb'⟩
          exact hK _ hb'
        · with_reducible refine DoesN.plain (s := 48) (v := .pointer (some ⟨Q2, 0, none⟩)) ?_ ?_
          · rfl
          intro f wz K hb hd hK
          simp only [setN, upd, Nat.reduceAdd, Nat.reduceEqDiff, reduceIte, List.setIfInBounds_toArray, List.set_cons_zero, List.set_cons_succ] at hK ⊢
          refine wpOp_do rfl (by kernel_rfl) ?_
          unfold Oper.wp execOp
          go_simp
          exact hK _ (Below.refl _ _)
        · with_reducible refine DoesN.plain (s := 49) (v := .int .i64 o2) ?_ ?_
          · rfl
          intro f wz K hb hd hK
          have e3 : f 3 = .pointer (some ⟨Q2, 0, none⟩) := plainAt (s := 48) (cs := []) (hd 3 (by decide)) rfl
          obtain ⟨p0, p1, p2, p3, _⟩ := cell4 ((hb.block _ (block_lt zc2)).trans zc2)
          simp only [setN, upd, Nat.reduceAdd, Nat.reduceEqDiff, reduceIte, List.setIfInBounds_toArray, List.set_cons_zero, List.set_cons_succ] at hK ⊢
          simp only [e3] at hK ⊢
          refine wpOp_do rfl (by kernel_rfl) ?_
          unfold Oper.wp execOp
          go_simp
          exact hK _ (Below.refl _ _)
        · with_reducible refine DoesN.plain (s := 50) (v := .int .i64 K2) ?_ ?_
          · rfl
          intro f wz K hb hd hK
          have e4 : f 4 = .int .i64 o2 := plainAt (s := 49) (cs := []) (hd 4 (by decide)) rfl
          simp only [setN, upd, Nat.reduceAdd, Nat.reduceEqDiff, reduceIte, List.setIfInBounds_toArray, List.set_cons_zero, List.set_cons_succ] at hK ⊢
          simp only [e4] at hK ⊢
          refine wpOp_do rfl (by kernel_rfl) ?_
          unfold Oper.wp execOp
          go_simp
          refine (unhide HK2 _).mono ?_
          rintro e w' ⟨rfl, hb'⟩
          exact hK _ hb'
        · with_reducible refine DoesN.plain (s := 51) (v := .bool false) ?_ ?_
          · rfl
          intro f wz K hb hd hK
          have e2 : f 2 = .int .i64 K1 := plainAt (s := 47) (cs := []) (hd 2 (by decide)) rfl
          have e5 : f 5 = .int .i64 K2 := plainAt (s := 50) (cs := []) (hd 5 (by decide)) rfl
          simp only [setN, upd, Nat.reduceAdd, Nat.reduceEqDiff, reduceIte, List.setIfInBounds_toArray, List.set_cons_zero, List.set_cons_succ] at hK ⊢
          simp only [e2, e5] at hK ⊢
          refine wpOp_do rfl (by kernel_rfl) ?_
          unfold Oper.wp execOp
          go_simp
          exact hK _ (Below.refl _ _)
      · intro f wE hbE hv hp hne ho
        have h0 : f 0 = .pointer (some ⟨Q1, 0, none⟩) := plainAt (s := 45) (cs := []) (hv 0) rfl
        have h1 : f 1 = .int .i64 o1 := plainAt (s := 46) (cs := []) (hv 1) rfl
        have h2 : f 2 = .int .i64 K1 := plainAt (s := 47) (cs := []) (hv 2) rfl
        have h3 : f 3 = .pointer (some ⟨Q2, 0, none⟩) := plainAt (s := 48) (cs := []) (hv 3) rfl
        have h4 : f 4 = .int .i64 o2 := plainAt (s := 49) (cs := []) (hv 4) rfl
        have h5 : f 5 = .int .i64 K2 := plainAt (s := 50) (cs := []) (hv 5) rfl
        have h6 : f 6 = .bool false := plainAt (s := 51) (cs := []) (hv 6) rfl
        simp only [setN, Nat.reduceAdd, List.setIfInBounds_toArray, List.set_cons_zero, List.set_cons_succ]
        simp only [h0, h1, h2, h3, h4, h5, h6]
        clear h0 h1 h2 h3 h4 h5 h6
        have HL10 := hide ((unhide HL9).trans (hbE.mono (unhide HL9).size))
        have hC1 := (hbE.block _ (block_lt (unhide ZC1))).trans (unhide ZC1)
        have hX1 := (hbE.block _ (block_lt (unhide ZX1))).trans (unhide ZX1)
        have hC2 := (hbE.block _ (block_lt (unhide ZC2))).trans (unhide ZC2)
        have hX2 := (hbE.block _ (block_lt (unhide ZX2))).trans (unhide ZX2)
        clear hv hp hne ho hbE zc1 zc2
        obtain ⟨p0, p1, p2, p3, _⟩ := cell4 hC1
        obtain ⟨q0, q1, q2, _⟩ := cell3 hX1
        obtain ⟨u0, u1, u2, u3, _⟩ := cell4 hC2
        obtain ⟨v0, v1, v2, _⟩ := cell3 hX2
        clear hC1 hX1 hC2 hX2
        go_wp2_with fail
        refine (unhide HMT (unhide HK) _).mono ?_
        rintro e w11 ⟨rfl, hb11⟩
        have HL11 := hide ((unhide HL10).trans (hb11.mono (unhide HL10).size))
        clear hb11 p0 p1 p2 p3 q0 q1 q2 u0 u1 u2 u3 v0 v1 v2
        have eg : (G == G) = true := by simp
        go_wp2_with fail
        go_ret
        exact ⟨rfl, unhide HL11⟩
    have e8 : (K1 != K2) = true := by simpa using hk
    have HK := hide hk
    clear hk
    refine regN [.val 45 (Res.plain (.pointer (some ⟨Q1, 0, none⟩)) []), .val 46 (Res.plain (.int .i64 o1) []), .val 47 (Res.plain (.int .i64 K1) []), .val 48 (Res.plain (.pointer (some ⟨Q2, 0, none⟩)) []), .val 49 (Res.plain (.int .i64 o2) []), .val 50 (Res.plain (.int .i64 K2) []), .val 51 (Res.plain (.bool true) [])] (fun i => if i = 1 then [0] else if i = 2 then [1] else if i = 4 then [3] else if i = 5 then [4] else if i = 6 then [2, 5] else []) ?_ ?_ ?_ ?_ ?_ ?_ ?_ (fun i hi => ?_) ?_
    · kernel_rfl
    · rfl
    · kernel_rfl
    · kernel_rfl
    · kernel_rfl
    · kernel_rfl
    · kernel_rfl
    · have hc : i = 0 ∨ i = 1 ∨ i = 2 ∨ i = 3 ∨ i = 4 ∨ i = 5 ∨ i = 6 := by have : i < 7 := hi; omega
      clear hi
      rcases hc with rfl | rfl | rfl | rfl | rfl | rfl | rfl
      · with_reducible refine DoesN.plain (s := 45) (v := .pointer (some ⟨Q1, 0, none⟩)) ?_ ?_
        · rfl
        intro f wz K hb hd hK
        simp only [setN, upd, Nat.reduceAdd, Nat.reduceEqDiff, reduceIte, List.setIfInBounds_toArray, List.set_cons_zero, List.set_cons_succ] at hK ⊢
        refine wpOp_do rfl (by kernel_rfl) ?_
        unfold Oper.wp execOp
        go_simp
        exact hK _ (Below.refl _ _)
      · with_reducible refine DoesN.plain (s := 46) (v := .int .i64 o1) ?_ ?_
        · rfl
        intro f wz K hb hd hK
        have e0 : f 0 = .pointer (some ⟨Q1, 0, none⟩) := plainAt (s := 45) (cs := []) (hd 0 (by decide)) rfl
        obtain ⟨p0, p1, p2, p3, _⟩ := cell4 ((hb.block _ (block_lt zc1)).trans zc1)
        simp only [setN, upd, Nat.reduceAdd, Nat.reduceEqDiff, reduceIte, List.setIfInBounds_toArray, List.set_cons_zero, List.set_cons_succ] at hK ⊢
        simp only [e0] at hK ⊢
        refine wpOp_do rfl (by kernel_rfl) ?_
        unfold Oper.wp execOp
        go_simp
        exact hK _ (Below.refl _ _)
      · with_reducible refine DoesN.plain (s := 47) (v := .int .i64 K1) ?_ ?_
        · rfl
        intro f wz K hb hd hK
        have e1 : f 1 = .int .i64 o1 := plainAt (s := 46) (cs := []) (hd 1 (by decide)) rfl
        simp only [setN, upd, Nat.reduceAdd, Nat.reduceEqDiff, reduceIte, List.setIfInBounds_toArray, List.set_cons_zero, List.set_cons_succ] at hK ⊢
        simp only [e1] at hK ⊢
        refine wpOp_do rfl (by kernel_rfl) ?_
        unfold Oper.wp execOp
        go_simp
        refine (unhide HK1 _).mono ?_
        rintro e w' ⟨rfl, hb'⟩
        exact hK _ hb'
      · with_reducible refine DoesN.plain (s := 48) (v := .pointer (some ⟨Q2, 0, none⟩)) ?_ ?_
        · rfl
        intro f wz K hb hd hK
        simp only [setN, upd, Nat.reduceAdd, Nat.reduceEqDiff, reduceIte, List.setIfInBounds_toArray, List.set_cons_zero, List.set_cons_succ] at hK ⊢
        refine wpOp_do rfl (by kernel_rfl) ?_
        unfold Oper.wp execOp
        go_simp
        exact hK _ (Below.refl _ _)
      · with_reducible refine DoesN.plain (s := 49) (v := .int .i64 o2) ?_ ?_
        · rfl
        intro f wz K hb hd hK
        have e3 : f 3 = .pointer (some ⟨Q2, 0, none⟩) := plainAt (s := 48) (cs := []) (hd 3 (by decide)) rfl
        obtain ⟨p0, p1, p2, p3, _⟩ := cell4 ((hb.block _ (block_lt zc2)).trans zc2)
        simp only [setN, upd, Nat.reduceAdd, Nat.reduceEqDiff, reduceIte, List.setIfInBounds_toArray, List.set_cons_zero, List.set_cons_succ] at hK ⊢
        simp only [e3] at hK ⊢
        refine wpOp_do rfl (by kernel_rfl) ?_
        unfold Oper.wp execOp
        go_simp
        exact hK _ (Below.refl _ _)
      · with_reducible refine DoesN.plain (s := 50) (v := .int .i64 K2) ?_ ?_
        · rfl
        intro f wz K hb hd hK
        have e4 : f 4 = .int .i64 o2 := plainAt (s := 49) (cs := []) (hd 4 (by decide)) rfl
        simp only [setN, upd, Nat.reduceAdd, Nat.reduceEqDiff, reduceIte, List.setIfInBounds_toArray, List.set_cons_zero, List.set_cons_succ] at hK ⊢
        simp only [e4] at hK ⊢
        refine wpOp_do rfl (by kernel_rfl) ?_
        unfold Oper.wp execOp
        go_simp
        refine (unhide HK2 _).mono ?_
        rintro e w' ⟨rfl, hb'⟩
        exact hK _ hb'
      · with_reducible refine DoesN.plain (s := 51) (v := .bool true) ?_ ?_
        · rfl
        intro f wz K hb hd hK
        have e2 : f 2 = .int .i64 K1 := plainAt (s := 47) (cs := []) (hd 2 (by decide)) rfl
        have e5 : f 5 = .int .i64 K2 := plainAt (s := 50) (cs := []) (hd 5 (by decide)) rfl
        simp only [setN, upd, Nat.reduceAdd, Nat.reduceEqDiff, reduceIte, List.setIfInBounds_toArray, List.set_cons_zero, List.set_cons_succ] at hK ⊢
        simp only [e2, e5] at hK ⊢
        refine wpOp_do rfl (by kernel_rfl) ?_
        unfold Oper.wp execOp
        go_simp
        exact hK _ (Below.refl _ _)
    · intro f wE hbE hv hp hne ho
      have h0 : f 0 = .pointer (some ⟨Q1, 0, none⟩) := plainAt (s := 45) (cs := []) (hv 0) rfl
      have h1 : f 1 = .int .i64 o1 := plainAt (s := 46) (cs := []) (hv 1) rfl
      have h2 : f 2 = .int .i64 K1 := plainAt (s := 47) (cs := []) (hv 2) rfl
      have h3 : f 3 = .pointer (some ⟨Q2, 0, none⟩) := plainAt (s := 48) (cs := []) (hv 3) rfl
      have h4 : f 4 = .int .i64 o2 := plainAt (s := 49) (cs := []) (hv 4) rfl
      have h5 : f 5 = .int .i64 K2 := plainAt (s := 50) (cs := []) (hv 5) rfl
      have h6 : f 6 = .bool true := plainAt (s := 51) (cs := []) (hv 6) rfl
      simp only [setN, Nat.reduceAdd, List.setIfInBounds_toArray, List.set_cons_zero, List.set_cons_succ]
      simp only [h0, h1, h2, h3, h4, h5, h6]
      clear h0 h1 h2 h3 h4 h5 h6
      have HL10 := hide ((unhide HL9).trans (hbE.mono (unhide HL9).size))
      have hC1 := (hbE.block _ (block_lt (unhide ZC1))).trans (unhide ZC1)
      have hX1 := (hbE.block _ (block_lt (unhide ZX1))).trans (unhide ZX1)
      have hC2 := (hbE.block _ (block_lt (unhide ZC2))).trans (unhide ZC2)
      have hX2 := (hbE.block _ (block_lt (unhide ZX2))).trans (unhide ZX2)
      clear hv hp hne ho hbE zc1 zc2
      go_wp2_with fail
      go_ret
      exact ⟨by rw [unhide HGN (unhide HK)]; rfl, unhide HL10⟩
theorem commuteExact_walk (a00 : Int) (w00 : (Lit.int .i64 a00).wf = true) (a01 : ByteArray) (w01 : a01.size ≤ maxLen) (a02 : ByteArray) (w02 : a02.size ≤ maxLen) (a03 : Int) (w03 : (Lit.int .i64 a03).wf = true)
    (a10 : Int) (w10 : (Lit.int .i64 a10).wf = true) (a11 : ByteArray) (w11 : a11.size ≤ maxLen) (a12 : ByteArray) (w12 : a12.size ≤ maxLen) (a13 : Int) (w13 : (Lit.int .i64 a13).wf = true)
    (a20 : Int) (w20 : (Lit.int .i64 a20).wf = true) (a21 : ByteArray) (w21 : a21.size ≤ maxLen) (a22 : Int) (w22 : (Lit.int .i64 a22).wf = true)
    (a30 : Int) (w30 : (Lit.int .i64 a30).wf = true) (a31 : ByteArray) (w31 : a31.size ≤ maxLen) (a32 : Int) (w32 : (Lit.int .i64 a32).wf = true) (a4 : Bool) (w : World) (hw : MD w) :
    Calls Tryd.prog 3 #[.agg #[.int .i64 a00, .string a01, .string a02, .int .i64 a03], .agg #[.int .i64 a10, .string a11, .string a12, .int .i64 a13], .agg #[.int .i64 a20, .string a21, .int .i64 a22], .agg #[.int .i64 a30, .string a31, .int .i64 a32], .bool a4] w fun e w' => e = .returned (.bool true) ∧ Below w.heap.size w w' :=
  qexact_any a00 (vwf_i64 w00) a01 w01 a02 w02 a03 (vwf_i64 w03) a10 (vwf_i64 w10) a11 w11 a12 w12 a13 (vwf_i64 w13) a20 (vwf_i64 w20) a21 w21 a22 (vwf_i64 w22) a30 (vwf_i64 w30) a31 w31 a32 (vwf_i64 w32) a4 hw
end Go.Proofs.YteaiidcconggcaaDoor
