/- The walk of ValueSame. -/
import Derived.Test.YthchnfgokkcepaaDoorATwoG
import Derived.Test.YthchnfgokkcepaaDoorVTidy
import Derived.Test.YthchnfgokkcepaaDoorVTold
import Derived.Test.YthchnfgokkcepaaDoorVLike
import Derived.Test.YthchnfgokkcepaaDoorVText
import Derived.Test.YthchnfgokkcepaaDoorVTextMath
import Derived.Test.YthchnfgokkcepaaDoorVAwake
import Derived.Test.YthchnfgokkcepaaDoorVOpen
import Derived.Test.YthchnfgokkcepaaDoorVRefWith
import Derived.Test.YthchnfgokkcepaaDoorCCut
import Derived.Deep.DeepCutAuto
import Derived.Deep.CutBlock
namespace Go.Proofs.YthchnfgokkcepaaDoor
open Go.RowKit
set_option linter.unusedVariables false
set_option maxRecDepth 100000

/- All of a world is as it was. -/
def Gr (W w' : World) : Prop := Below W.heap.size W w'
theorem Gr.start (W : World) : Gr W W := Below.refl _ _
theorem Gr.drew {W w : World} (h : Gr W w) : Gr W w.drew := Below.drew h
theorem Gr.below {W w w' : World} (h : Gr W w) (hb : Below w.heap.size w w') : Gr W w' := Below.trans h (hb.mono (Below.size h))
theorem Gr.low {W w' : World} (h : Gr W w') : Below W.heap.size W w' := h
theorem Gr.cell3 {W : World} {N : Nat} {a b c : Value} {t : TypeId} (h : W.heap[N]? = some (.cells #[a, b, c] t (0, 0))) : (∀ w1, Gr W w1 → w1.cell? ⟨N, 0, none⟩ = some a) ∧ (∀ w1, Gr W w1 → w1.cell? ⟨N, 1, none⟩ = some b) ∧ (∀ w1, Gr W w1 → w1.cell? ⟨N, 2, none⟩ = some c) := by
  refine ⟨fun w1 hf => ?_, fun w1 hf => ?_, fun w1 hf => ?_⟩ <;> rw [block_cell ((Below.block hf _ (block_lt h)).trans h)] <;> rfl
theorem Gr.set {W w : World} (h : Gr W w) {q : Nat} (hq : W.heap.size ≤ q) (k : Nat) (v : Value) : Gr W (w.setCell ⟨q, k, none⟩ v) :=
  ⟨h.low.os, h.low.tape, h.low.output, by simpa using h.low.size, fun j hj => by rw [heap_setCell_other _ ⟨q, k, none⟩ j _ (by show j ≠ q; omega)]; exact h.low.block j hj⟩
theorem Gr.one {W : World} {p : Addr} {v : Value} (hp : p.block < W.heap.size) (h : W.cell? p = some v) : ∀ w1, Gr W w1 → w1.cell? p = some v := fun w1 hf => (Below.cell hf hp).trans h
theorem box_before {w8 ww : World} {a b c : Value} {t : TypeId} (h : Below ((w8.alloc (.cells #[a, b, c] t)).drew).heap.size ((w8.alloc (.cells #[a, b, c] t)).drew) ww) : ww.heap[w8.heap.size]? = some (.cells #[a, b, c] t (0, 0)) := (h.block w8.heap.size (by simp)).trans (heap_alloc_new w8 _)
theorem put_after {ww : World} {N base : Nat} {a b c u : Value} {t e : TypeId} {nn : Nat} {xs : List Value} (h : ww.heap[N]? = some (.cells #[a, b, c] t (0, 0))) (hN : N < base) (ho : ww.ownsRow base e 2 u nn xs) (x y z : Value) : (put3 ww N x y z).heap[N]? = some (.cells #[x, y, z] t (0, 0)) ∧ (put3 ww N x y z).ownsRow base e 2 u nn xs := by
  refine ⟨?_, ownsRow_same ho fun j hj => ?_⟩
  · have f1 := heap_setCell_same ww N 0 _ _ x h
    have f2 := heap_setCell_same _ N 1 _ _ y f1
    have f3 := heap_setCell_same _ N 2 _ _ z f2
    unfold put3
    simpa [Array.setIfInBounds] using f3
  · have := (ho.lt j hj).1
    rw [put3_other _ _ _ _ (by omega)]
theorem cell3v {w : World} {N : Nat} {a b c : Value} {t : TypeId} (h : w.heap[N]? = some (.cells #[a, b, c] t (0, 0))) : w.cell? ⟨N, 0, none⟩ = some a ∧ w.cell? ⟨N, 1, none⟩ = some b ∧ w.cell? ⟨N, 2, none⟩ = some c ∧ ∀ j, w.frozen? ⟨N, j, none⟩ = false := by
  refine ⟨?_, ?_, ?_, fun j => block_frozen h j⟩ <;> rw [block_cell h] <;> rfl
theorem text_may {w : World} {v : Value} {x : VS} (h : StAt w v x) (hm : x.may) : Calls Tryd.prog 16 #[v] w fun e w' => e = .returned (.string (S x.text)) ∧ Below w.heap.size w w' := by
  have hk := VS.may_kind hm
  have h1 := (VS.may_rows hm).1
  have h2 := VS.most_le x
  exact vtext_any h (by omega) hm.2 (by omega) fun i hi => by have := VS.may_len hm i hi; omega

set_option maxHeartbeats 102400000 in
theorem vsame_far {w : World} {va vb : Value} {s t : VS} (hs : StAt w va s) (ht : StAt w vb t) (hsn : -9223372036854775808 ≤ s.n ∧ s.n ≤ 9223372036854775807) (htn : -9223372036854775808 ≤ t.n ∧ t.n ≤ 9223372036854775807)
    (hsz : ∀ i (h : i < s.rows.length), (s.rows[i]'h).1.length ≤ maxLen ∧ (s.rows[i]'h).2.length ≤ maxLen) (htz : ∀ i (h : i < t.rows.length), (t.rows[i]'h).1.length ≤ maxLen ∧ (t.rows[i]'h).2.length ≤ maxLen) (k1 k2 : ByteArray) (hk1 : k1.size ≤ maxLen) (hw : WD w) :
    Calls Tryd.prog 7 #[va, vb, .agg #[.string k1, .string k2], .bool false] w fun e w' => e = .returned (.bool true) ∧ Below w.heap.size w w' := by
  have HTS0 := hide (fun (wz : World) (hb : Below w.heap.size w wz) => tidy_any (hs.later hb) hsn hsz)
  have HTT0 := hide (fun (wz : World) (hb : Below w.heap.size w wz) => tidy_any (ht.later hb) htn htz)
  have HWD := hide hw
  obtain ⟨ks, rfl, hrs⟩ := hs
  obtain ⟨kt, rfl, hrt⟩ := ht
  obtain ⟨sa, sac, rfl, _⟩ := hrs.shape
  obtain ⟨ta, tac, rfl, _⟩ := hrt.shape
  clear hrs hrt hw hsn htn hsz htz
  go_enter Tryd.func7, Tryd.ntmps7
  go_upto_region 1 with fail
  have hL : Below w.heap.size w (((w.alloc (.cells #[.int .i64 s.kind, .int .i64 s.n, .slice sa s.rows.length sac] 24)).alloc (.cells #[.int .i64 t.kind, .int .i64 t.n, .slice ta t.rows.length tac] 24)).alloc (.cells #[.string k1, .string k2] 47)) := (under_two w _ _).alloc (by simp; omega) _
  have hS : (((w.alloc (.cells #[.int .i64 s.kind, .int .i64 s.n, .slice sa s.rows.length sac] 24)).alloc (.cells #[.int .i64 t.kind, .int .i64 t.n, .slice ta t.rows.length tac] 24)).alloc (.cells #[.string k1, .string k2] 47)).heap[w.heap.size]? = some (.cells #[.int .i64 s.kind, .int .i64 s.n, .slice sa s.rows.length sac] 24 (0, 0)) := by
    rw [Below.heap_alloc _ _ _ (by simp; omega), Below.heap_alloc _ _ _ (by simp)]; exact heap_alloc_new w _
  have hT : (((w.alloc (.cells #[.int .i64 s.kind, .int .i64 s.n, .slice sa s.rows.length sac] 24)).alloc (.cells #[.int .i64 t.kind, .int .i64 t.n, .slice ta t.rows.length tac] 24)).alloc (.cells #[.string k1, .string k2] 47)).heap[w.heap.size + 1]? = some (.cells #[.int .i64 t.kind, .int .i64 t.n, .slice ta t.rows.length tac] 24 (0, 0)) := by
    rw [Below.heap_alloc _ _ _ (by simp)]
    have := heap_alloc_new (w.alloc (.cells #[.int .i64 s.kind, .int .i64 s.n, .slice sa s.rows.length sac] 24)) (.cells #[.int .i64 t.kind, .int .i64 t.n, .slice ta t.rows.length tac] 24)
    rwa [World.size_alloc] at this
  have hRb := heap_alloc_new ((w.alloc (.cells #[.int .i64 s.kind, .int .i64 s.n, .slice sa s.rows.length sac] 24)).alloc (.cells #[.int .i64 t.kind, .int .i64 t.n, .slice ta t.rows.length tac] 24)) (.cells #[.string k1, .string k2] 47)
  rw [World.size_alloc, World.size_alloc] at hRb
  obtain ⟨W, hW⟩ : ∃ W, ((w.alloc (.cells #[.int .i64 s.kind, .int .i64 s.n, .slice sa s.rows.length sac] 24)).alloc (.cells #[.int .i64 t.kind, .int .i64 t.n, .slice ta t.rows.length tac] 24)).alloc (.cells #[.string k1, .string k2] 47) = W := ⟨_, rfl⟩
  rw [hW] at hL hS hT hRb ⊢
  clear hW
  have HLW := hide hL
  have HSB := hide hS
  have HTB := hide hT
  have HRB := hide hRb
  have HTS := hide (fun (wz : World) (hb : Below W.heap.size W wz) => unhide HTS0 wz ((unhide HLW).trans (hb.mono (unhide HLW).size)))
  have HTT := hide (fun (wz : World) (hb : Below W.heap.size W wz) => unhide HTT0 wz ((unhide HLW).trans (hb.mono (unhide HLW).size)))
  clear hL hS hT hRb HTS0 HTT0
  refine twoG_T 14 15 16 17 9 10 (.agg #[.int .i64 s.kind, .int .i64 s.n, .slice sa s.rows.length sac]) (.agg #[.int .i64 t.kind, .int .i64 t.n, .slice ta t.rows.length tac]) (Res.state VS.may W.heap.size 55) (Res.state VS.may W.heap.size 55) 29 29 (by kernel_rfl) rfl (fun i hi => ?hlow) (by kernel_rfl) (by kernel_rfl) (by kernel_rfl) (by kernel_rfl) (by kernel_rfl) (by kernel_rfl) ?H0 ?H1 ?H2 ?H3 ?H4 ?H5 ?H6 ?H7 ?hend
  case hlow =>
    have hc : i = 0 ∨ i = 1 ∨ i = 2 ∨ i = 3 ∨ i = 4 ∨ i = 5 ∨ i = 6 ∨ i = 7 := by have : i < 8 := hi; omega
    rcases hc with rfl | rfl | rfl | rfl | rfl | rfl | rfl | rfl <;> decide +kernel
  case H0 =>
    intro x0 x1 x2 x3 x4 x5 wz K hb hK
    obtain ⟨d0, d1, d2, _⟩ := cell3v ((hb.block _ (block_lt (unhide HSB))).trans (unhide HSB))
    simp only [set6, List.setIfInBounds_toArray, List.set_cons_zero, List.set_cons_succ] at hK ⊢
    unfold wpOp
    simp only [List.getElem?_toArray, List.getElem?_cons_zero, Region.wanted, if_true]
    refine .inl ?_
    unfold Oper.wp execOp
    go_simp
    exact hK
  case H1 =>
    intro x1 x2 x3 x4 x5 wz K hb hK
    simp only [set6, List.setIfInBounds_toArray, List.set_cons_zero, List.set_cons_succ] at hK ⊢
    unfold wpOp
    simp only [List.getElem?_toArray, List.getElem?_cons_zero, List.getElem?_cons_succ, Region.wanted, if_true]
    refine .inl ?_
    unfold Oper.wp execOp
    go_simp
    refine (unhide HTS _ hb).mono ?_
    rintro e w' ⟨v', rfl, x, hx, ⟨kk, rfl, ho⟩, hb'⟩
    obtain ⟨ka, kc, rfl, _⟩ := ownsRow_slice ho
    exact hK _ _ hb' ⟨x, ka, kc, hx, rfl, ownsRow_less ho hb.size⟩ (fun k hk => (ho.lt k hk).1)
  case H2 =>
    intro x0 x1 x2 x3 x4 x5 wz K hb hK
    obtain ⟨d0, d1, d2, _⟩ := cell3v ((hb.block _ (block_lt (unhide HTB))).trans (unhide HTB))
    simp only [set6, List.setIfInBounds_toArray, List.set_cons_zero, List.set_cons_succ] at hK ⊢
    unfold wpOp
    simp only [List.getElem?_toArray, List.getElem?_cons_zero, List.getElem?_cons_succ, Region.wanted, if_true]
    refine .inl ?_
    unfold Oper.wp execOp
    go_simp
    exact hK
  case H3 =>
    intro x0 x1 x3 x4 x5 wz K hb hK
    simp only [set6, List.setIfInBounds_toArray, List.set_cons_zero, List.set_cons_succ] at hK ⊢
    unfold wpOp
    simp only [List.getElem?_toArray, List.getElem?_cons_zero, List.getElem?_cons_succ, Region.wanted, if_true]
    refine .inl ?_
    unfold Oper.wp execOp
    go_simp
    refine (unhide HTT _ hb).mono ?_
    rintro e w' ⟨v', rfl, x, hx, ⟨kk, rfl, ho⟩, hb'⟩
    obtain ⟨ka, kc, rfl, _⟩ := ownsRow_slice ho
    exact hK _ _ hb' ⟨x, ka, kc, hx, rfl, ownsRow_less ho hb.size⟩ (fun k hk => (ho.lt k hk).1)
  case H4 =>
    intro x0 x1 x2 x3 x4 x5 wz K
    refine ⟨[.int .i64 0, .int .i64 0, .slice none 0 0], rfl, fun hK => ?_⟩
    unfold ptr at hK
    simp only [set6, List.setIfInBounds_toArray, List.set_cons_zero, List.set_cons_succ] at hK ⊢
    unfold wpOp
    simp only [List.getElem?_toArray, List.getElem?_cons_zero, List.getElem?_cons_succ, Region.wanted, if_true]
    refine .inl ?_
    unfold Oper.wp execOp
    go_simp
    exact hK
  case H5 =>
    intro x0 x1 x2 x3 x4 x5 wz K
    refine ⟨[.int .i64 0, .int .i64 0, .slice none 0 0], rfl, fun hK => ?_⟩
    unfold ptr at hK
    simp only [set6, List.setIfInBounds_toArray, List.set_cons_zero, List.set_cons_succ] at hK ⊢
    unfold wpOp
    simp only [List.getElem?_toArray, List.getElem?_cons_zero, List.getElem?_cons_succ, Region.wanted, if_true]
    refine .inl ?_
    unfold Oper.wp execOp
    go_simp
    exact hK
  case H6 =>
    intro x0 x1 x2 x3 x5 wz K q ys hF hy hq hK
    obtain ⟨zq, zqa, zqc, hz, hzv, ho⟩ := hF
    subst hzv
    match ys, hy with
    | [y1, y2, y3], _ =>
      obtain ⟨d0, d1, d2, fz⟩ := cell3v hq
      simp only [putL, Res.state, stCells] at hK
      unfold ptr at *
      simp only [set6, List.setIfInBounds_toArray, List.set_cons_zero, List.set_cons_succ] at hK ⊢
      unfold wpOp
      simp only [List.getElem?_toArray, List.getElem?_cons_zero, List.getElem?_cons_succ, Region.wanted, if_true]
      refine .inl ?_
      unfold Oper.wp execOp
      go_simp
      exact hK
  case H7 =>
    intro x0 x1 x2 x3 x4 wz K q ys hF hy hq hK
    obtain ⟨zq, zqa, zqc, hz, hzv, ho⟩ := hF
    subst hzv
    match ys, hy with
    | [y1, y2, y3], _ =>
      obtain ⟨d0, d1, d2, fz⟩ := cell3v hq
      simp only [putL, Res.state, stCells] at hK
      unfold ptr at *
      simp only [set6, List.setIfInBounds_toArray, List.set_cons_zero, List.set_cons_succ] at hK ⊢
      unfold wpOp
      simp only [List.getElem?_toArray, List.getElem?_cons_zero, List.getElem?_cons_succ, Region.wanted, if_true]
      refine .inl ?_
      unfold Oper.wp execOp
      go_simp
      exact hK
  case hend =>
    intro w6 u1 u3 qA qB hb6 _ _ _ hF1 hF3 hA6 hB6 _ _ _ _
    obtain ⟨x, xa, xac, hmx, rfl, hox⟩ := hF1
    obtain ⟨y, ya, yac, hmy, rfl, hoy⟩ := hF3
    unfold ptr
    simp only [Res.state, stCells] at hA6 hB6
    simp only [set6, List.setIfInBounds_toArray, List.set_cons_zero, List.set_cons_succ]
    have HA := hide hA6
    have HB := hide hB6
    have HXA : Hid (StAt w6 (.agg #[.int .i64 x.kind, .int .i64 x.n, .slice xa x.rows.length xac]) x) := ⟨_, rfl, Row2.of_own hox⟩
    have HYA : Hid (StAt w6 (.agg #[.int .i64 y.kind, .int .i64 y.n, .slice ya y.rows.length yac]) y) := ⟨_, rfl, Row2.of_own hoy⟩
    have HMX := hide hmx
    have HMY := hide hmy
    have HL6 : Hid (Below w.heap.size w w6) := (unhide HLW).trans (hb6.mono (unhide HLW).size)
    clear hA6 hB6 hox hoy hmx hmy hb6 HTS HTT HSB HTB HLW HRB
    go_upto_region 7 with fail
    have HOA := hide (fun (wz : World) (hb : Below w6.heap.size w6 wz) => own_any ((unhide HXA).later hb) (by have := VS.may_rows (unhide HMX); have := VS.most_le x; omega))
    have HOB := hide (fun (wz : World) (hb : Below w6.heap.size w6 wz) => own_any ((unhide HYA).later hb) (by have := VS.may_rows (unhide HMY); have := VS.most_le y; omega))
    refine twoG_T 30 31 32 33 12 13 (.agg #[.int .i64 x.kind, .int .i64 x.n, .slice xa x.rows.length xac]) (.agg #[.int .i64 y.kind, .int .i64 y.n, .slice ya y.rows.length yac]) (Res.state (fun zq => zq = x) w6.heap.size 47) (Res.state (fun zq => zq = y) w6.heap.size 47) 24 24 (by kernel_rfl) rfl (fun i hi => ?hlow) (by kernel_rfl) (by kernel_rfl) (by kernel_rfl) (by kernel_rfl) (by kernel_rfl) (by kernel_rfl) ?H0 ?H1 ?H2 ?H3 ?H4 ?H5 ?H6 ?H7 ?hend
    case hlow =>
      have hc : i = 0 ∨ i = 1 ∨ i = 2 ∨ i = 3 ∨ i = 4 ∨ i = 5 ∨ i = 6 ∨ i = 7 := by have : i < 8 := hi; omega
      rcases hc with rfl | rfl | rfl | rfl | rfl | rfl | rfl | rfl <;> decide +kernel
    case H0 =>
      intro x0 x1 x2 x3 x4 x5 wz K hb hK
      obtain ⟨d0, d1, d2, _⟩ := cell3v ((hb.block _ (block_lt (unhide HA))).trans (unhide HA))
      simp only [set6, List.setIfInBounds_toArray, List.set_cons_zero, List.set_cons_succ] at hK ⊢
      unfold wpOp
      simp only [List.getElem?_toArray, List.getElem?_cons_zero, Region.wanted, if_true]
      refine .inl ?_
      unfold Oper.wp execOp
      go_simp
      exact hK
    case H1 =>
      intro x1 x2 x3 x4 x5 wz K hb hK
      simp only [set6, List.setIfInBounds_toArray, List.set_cons_zero, List.set_cons_succ] at hK ⊢
      unfold wpOp
      simp only [List.getElem?_toArray, List.getElem?_cons_zero, List.getElem?_cons_succ, Region.wanted, if_true]
      refine .inl ?_
      unfold Oper.wp execOp
      go_simp
      refine (unhide HOA _ hb).mono ?_
      rintro e w' ⟨v', rfl, ⟨kk, rfl, ho⟩, hb'⟩
      obtain ⟨ka, kc, rfl, _⟩ := ownsRow_slice ho
      exact hK _ _ hb' ⟨x, ka, kc, rfl, rfl, ownsRow_less ho hb.size⟩ (fun k hk => (ho.lt k hk).1)
    case H2 =>
      intro x0 x1 x2 x3 x4 x5 wz K hb hK
      obtain ⟨d0, d1, d2, _⟩ := cell3v ((hb.block _ (block_lt (unhide HB))).trans (unhide HB))
      simp only [set6, List.setIfInBounds_toArray, List.set_cons_zero, List.set_cons_succ] at hK ⊢
      unfold wpOp
      simp only [List.getElem?_toArray, List.getElem?_cons_zero, List.getElem?_cons_succ, Region.wanted, if_true]
      refine .inl ?_
      unfold Oper.wp execOp
      go_simp
      exact hK
    case H3 =>
      intro x0 x1 x3 x4 x5 wz K hb hK
      simp only [set6, List.setIfInBounds_toArray, List.set_cons_zero, List.set_cons_succ] at hK ⊢
      unfold wpOp
      simp only [List.getElem?_toArray, List.getElem?_cons_zero, List.getElem?_cons_succ, Region.wanted, if_true]
      refine .inl ?_
      unfold Oper.wp execOp
      go_simp
      refine (unhide HOB _ hb).mono ?_
      rintro e w' ⟨v', rfl, ⟨kk, rfl, ho⟩, hb'⟩
      obtain ⟨ka, kc, rfl, _⟩ := ownsRow_slice ho
      exact hK _ _ hb' ⟨y, ka, kc, rfl, rfl, ownsRow_less ho hb.size⟩ (fun k hk => (ho.lt k hk).1)
    case H4 =>
      intro x0 x1 x2 x3 x4 x5 wz K
      refine ⟨[.int .i64 0, .int .i64 0, .slice none 0 0], rfl, fun hK => ?_⟩
      unfold ptr at hK
      simp only [set6, List.setIfInBounds_toArray, List.set_cons_zero, List.set_cons_succ] at hK ⊢
      unfold wpOp
      simp only [List.getElem?_toArray, List.getElem?_cons_zero, List.getElem?_cons_succ, Region.wanted, if_true]
      refine .inl ?_
      unfold Oper.wp execOp
      go_simp
      exact hK
    case H5 =>
      intro x0 x1 x2 x3 x4 x5 wz K
      refine ⟨[.int .i64 0, .int .i64 0, .slice none 0 0], rfl, fun hK => ?_⟩
      unfold ptr at hK
      simp only [set6, List.setIfInBounds_toArray, List.set_cons_zero, List.set_cons_succ] at hK ⊢
      unfold wpOp
      simp only [List.getElem?_toArray, List.getElem?_cons_zero, List.getElem?_cons_succ, Region.wanted, if_true]
      refine .inl ?_
      unfold Oper.wp execOp
      go_simp
      exact hK
    case H6 =>
      intro x0 x1 x2 x3 x5 wz K q ys hF hy hq hK
      obtain ⟨zq, zqa, zqc, hz, hzv, ho⟩ := hF
      have hz2 := (show _ = _ from hz).symm
      subst hz2
      subst hzv
      match ys, hy with
      | [y1, y2, y3], _ =>
        obtain ⟨d0, d1, d2, fz⟩ := cell3v hq
        simp only [putL, Res.state, stCells] at hK
        unfold ptr at *
        simp only [set6, List.setIfInBounds_toArray, List.set_cons_zero, List.set_cons_succ] at hK ⊢
        unfold wpOp
        simp only [List.getElem?_toArray, List.getElem?_cons_zero, List.getElem?_cons_succ, Region.wanted, if_true]
        refine .inl ?_
        unfold Oper.wp execOp
        go_simp
        exact hK
    case H7 =>
      intro x0 x1 x2 x3 x4 wz K q ys hF hy hq hK
      obtain ⟨zq, zqa, zqc, hz, hzv, ho⟩ := hF
      have hz2 := (show _ = _ from hz).symm
      subst hz2
      subst hzv
      match ys, hy with
      | [y1, y2, y3], _ =>
        obtain ⟨d0, d1, d2, fz⟩ := cell3v hq
        simp only [putL, Res.state, stCells] at hK
        unfold ptr at *
        simp only [set6, List.setIfInBounds_toArray, List.set_cons_zero, List.set_cons_succ] at hK ⊢
        unfold wpOp
        simp only [List.getElem?_toArray, List.getElem?_cons_zero, List.getElem?_cons_succ, Region.wanted, if_true]
        refine .inl ?_
        unfold Oper.wp execOp
        go_simp
        exact hK
    case hend =>
      intro w7 u1 u3 rA rB hb7 _ _ _ hF1 hF3 hA7 hB7 _ _ _ _
      obtain ⟨z1, aa, ac, hz1, rfl, hoa⟩ := hF1
      obtain ⟨z2, ba, bc, hz2, rfl, hob⟩ := hF3
      have hz1' := (show z1 = x from hz1).symm
      subst hz1'
      have hz2' := (show z2 = y from hz2).symm
      subst hz2'
      unfold ptr
      simp only [Res.state, stCells] at hA7 hB7
      simp only [set6, List.setIfInBounds_toArray, List.set_cons_zero, List.set_cons_succ]
      obtain ⟨xc0, xc1, xc2⟩ := Gr.cell3 ((hb7.block _ (block_lt (unhide HA))).trans (unhide HA))
      obtain ⟨yc0, yc1, yc2⟩ := Gr.cell3 ((hb7.block _ (block_lt (unhide HB))).trans (unhide HB))
      obtain ⟨ac0, ac1, ac2⟩ := Gr.cell3 hA7
      obtain ⟨bc0, bc1, bc2⟩ := Gr.cell3 hB7
      have HL7 : Hid (Below w.heap.size w w7) := (unhide HL6).trans (hb7.mono (unhide HL6).size)
      have hsa : StAt w7 (.agg #[.int .i64 x.kind, .int .i64 x.n, .slice aa x.rows.length ac]) x := ⟨_, rfl, Row2.of_own hoa⟩
      have hsb : StAt w7 (.agg #[.int .i64 y.kind, .int .i64 y.n, .slice ba y.rows.length bc]) y := ⟨_, rfl, Row2.of_own hob⟩
      have hsx := (unhide HXA).later hb7
      have hsy := (unhide HYA).later hb7
      obtain ⟨R, hR⟩ : ∃ R, x.alike y = R := ⟨_, rfl⟩
      have hmx := unhide HMX
      have hmy := unhide HMY
      have HAW : Hid (∀ wz, Gr w7 wz → Calls Tryd.prog 11 #[] wz fun e w' => e = .returned (.bool true) ∧ Below wz.heap.size wz w') := fun wz hf => vawake_any ((unhide HWD).later ((unhide HL7).trans (hf.low.mono (unhide HL7).size)))
      have HSM : Hid (∀ wz, Gr w7 wz → Calls Tryd.prog 18 #[.agg #[.int .i64 x.kind, .int .i64 x.n, .slice aa x.rows.length ac], .agg #[.int .i64 y.kind, .int .i64 y.n, .slice ba y.rows.length bc]] wz fun e w' => e = .returned (.bool R) ∧ Below wz.heap.size wz w') := fun wz hf => by rw [← hR]; exact vsame_any (hsa.later hf.low) (hsb.later hf.low)
      have HLK : Hid (∀ wz, Gr w7 wz → Calls Tryd.prog 21 #[.agg #[.int .i64 x.kind, .int .i64 x.n, .slice xa x.rows.length xac], .agg #[.int .i64 y.kind, .int .i64 y.n, .slice ya y.rows.length yac]] wz fun e w' => e = .returned (.bool R) ∧ Below wz.heap.size wz w') := fun wz hf => by rw [← hR]; exact like_any (hsx.later hf.low) (hsy.later hf.low)
      obtain ⟨p, hp⟩ : ∃ p, x.text = p := ⟨_, rfl⟩
      obtain ⟨q, hq⟩ : ∃ q, y.text = q := ⟨_, rfl⟩
      have HTX : Hid (∀ wz, Gr w7 wz → Calls Tryd.prog 16 #[.agg #[.int .i64 x.kind, .int .i64 x.n, .slice aa x.rows.length ac]] wz fun e w' => e = .returned (.string (S p)) ∧ Below wz.heap.size wz w') := fun wz hf => by rw [← hp]; exact text_may (hsa.later hf.low) hmx
      have HTY : Hid (∀ wz, Gr w7 wz → Calls Tryd.prog 16 #[.agg #[.int .i64 y.kind, .int .i64 y.n, .slice ba y.rows.length bc]] wz fun e w' => e = .returned (.string (S q)) ∧ Below wz.heap.size wz w') := fun wz hf => by rw [← hq]; exact text_may (hsb.later hf.low) hmy
      have hE : ((S p).toList == (S q).toList) = R := by
        have := S_eq p q
        rw [this, ← hp, ← hq, text_alike hmx hmy, hR]
      have hRR : (R == R) = true := by cases R <;> rfl
      have hst := Gr.start w7
      have hstd := hst.drew
      clear hsa hsb hsx hsy hR hmx hmy hp hq hoa hob hA7 hB7 hb7 HXA HYA HMX HMY HWD HA HB HOA HOB
      go_wp2_with fail
      go_region_held3 (fun w' => Gr w7 w') (with_reducible (first | exact hstd | exact hst | (refine Gr.below ?_ (by assumption) <;> assumption)))
        (first | (go_at_call 11; refine (unhide HAW _ (by assumption)).mono ?_; rintro e wa ⟨rfl, hba⟩) | (go_at_call 18; refine (unhide HSM _ (by assumption)).mono ?_; rintro e wb ⟨rfl, hbb⟩) | (go_at_call 16; first | (have hq := HT2; clear hq; refine (unhide HTY _ (by assumption)).mono ?_; rintro e we ⟨rfl, hbe⟩) | (refine (unhide HTX _ (by assumption)).mono ?_; rintro e wd ⟨rfl, hbd⟩; have HT2 := hide hbd)) | (go_at_call 21; refine (unhide HLK _ (by assumption)).mono ?_; rintro e wf ⟨rfl, hbf⟩) | fail)
      have hfin : Gr w7 wf := by assumption
      have HL8 := hide ((unhide HL7).trans (hfin.low.mono (unhide HL7).size))
      clear hfin hbf
      go_wp2_with fail
      go_ret
      exact ⟨rfl, unhide HL8⟩
set_option maxHeartbeats 102400000 in
theorem vsame_near {w : World} {va vb : Value} {s t : VS} (hs : StAt w va s) (ht : StAt w vb t) (hsn : -9223372036854775808 ≤ s.n ∧ s.n ≤ 9223372036854775807) (htn : -9223372036854775808 ≤ t.n ∧ t.n ≤ 9223372036854775807)
    (hsz : ∀ i (h : i < s.rows.length), (s.rows[i]'h).1.length ≤ maxLen ∧ (s.rows[i]'h).2.length ≤ maxLen) (htz : ∀ i (h : i < t.rows.length), (t.rows[i]'h).1.length ≤ maxLen ∧ (t.rows[i]'h).2.length ≤ maxLen) (k1 k2 : ByteArray) (hk1 : k1.size ≤ maxLen) (hw : WD w) :
    Calls Tryd.prog 7 #[va, vb, .agg #[.string k1, .string k2], .bool true] w fun e w' => e = .returned (.bool true) ∧ Below w.heap.size w w' := by
  have HTS0 := hide (fun (wz : World) (hb : Below w.heap.size w wz) => tidy_any (hs.later hb) hsn hsz)
  have HTT0 := hide (fun (wz : World) (hb : Below w.heap.size w wz) => tidy_any (ht.later hb) htn htz)
  have HWD := hide hw
  obtain ⟨ks, rfl, hrs⟩ := hs
  obtain ⟨kt, rfl, hrt⟩ := ht
  obtain ⟨sa, sac, rfl, _⟩ := hrs.shape
  obtain ⟨ta, tac, rfl, _⟩ := hrt.shape
  clear hrs hrt hw hsn htn hsz htz
  go_enter Tryd.func7, Tryd.ntmps7
  go_upto_region 1 with fail
  have hL : Below w.heap.size w (((w.alloc (.cells #[.int .i64 s.kind, .int .i64 s.n, .slice sa s.rows.length sac] 24)).alloc (.cells #[.int .i64 t.kind, .int .i64 t.n, .slice ta t.rows.length tac] 24)).alloc (.cells #[.string k1, .string k2] 47)) := (under_two w _ _).alloc (by simp; omega) _
  have hS : (((w.alloc (.cells #[.int .i64 s.kind, .int .i64 s.n, .slice sa s.rows.length sac] 24)).alloc (.cells #[.int .i64 t.kind, .int .i64 t.n, .slice ta t.rows.length tac] 24)).alloc (.cells #[.string k1, .string k2] 47)).heap[w.heap.size]? = some (.cells #[.int .i64 s.kind, .int .i64 s.n, .slice sa s.rows.length sac] 24 (0, 0)) := by
    rw [Below.heap_alloc _ _ _ (by simp; omega), Below.heap_alloc _ _ _ (by simp)]; exact heap_alloc_new w _
  have hT : (((w.alloc (.cells #[.int .i64 s.kind, .int .i64 s.n, .slice sa s.rows.length sac] 24)).alloc (.cells #[.int .i64 t.kind, .int .i64 t.n, .slice ta t.rows.length tac] 24)).alloc (.cells #[.string k1, .string k2] 47)).heap[w.heap.size + 1]? = some (.cells #[.int .i64 t.kind, .int .i64 t.n, .slice ta t.rows.length tac] 24 (0, 0)) := by
    rw [Below.heap_alloc _ _ _ (by simp)]
    have := heap_alloc_new (w.alloc (.cells #[.int .i64 s.kind, .int .i64 s.n, .slice sa s.rows.length sac] 24)) (.cells #[.int .i64 t.kind, .int .i64 t.n, .slice ta t.rows.length tac] 24)
    rwa [World.size_alloc] at this
  have hRb := heap_alloc_new ((w.alloc (.cells #[.int .i64 s.kind, .int .i64 s.n, .slice sa s.rows.length sac] 24)).alloc (.cells #[.int .i64 t.kind, .int .i64 t.n, .slice ta t.rows.length tac] 24)) (.cells #[.string k1, .string k2] 47)
  rw [World.size_alloc, World.size_alloc] at hRb
  obtain ⟨W, hW⟩ : ∃ W, ((w.alloc (.cells #[.int .i64 s.kind, .int .i64 s.n, .slice sa s.rows.length sac] 24)).alloc (.cells #[.int .i64 t.kind, .int .i64 t.n, .slice ta t.rows.length tac] 24)).alloc (.cells #[.string k1, .string k2] 47) = W := ⟨_, rfl⟩
  rw [hW] at hL hS hT hRb ⊢
  clear hW
  have HLW := hide hL
  have HSB := hide hS
  have HTB := hide hT
  have HRB := hide hRb
  have HTS := hide (fun (wz : World) (hb : Below W.heap.size W wz) => unhide HTS0 wz ((unhide HLW).trans (hb.mono (unhide HLW).size)))
  have HTT := hide (fun (wz : World) (hb : Below W.heap.size W wz) => unhide HTT0 wz ((unhide HLW).trans (hb.mono (unhide HLW).size)))
  clear hL hS hT hRb HTS0 HTT0
  refine twoG_T 14 15 16 17 9 10 (.agg #[.int .i64 s.kind, .int .i64 s.n, .slice sa s.rows.length sac]) (.agg #[.int .i64 t.kind, .int .i64 t.n, .slice ta t.rows.length tac]) (Res.state VS.may W.heap.size 55) (Res.state VS.may W.heap.size 55) 29 29 (by kernel_rfl) rfl (fun i hi => ?hlow) (by kernel_rfl) (by kernel_rfl) (by kernel_rfl) (by kernel_rfl) (by kernel_rfl) (by kernel_rfl) ?H0 ?H1 ?H2 ?H3 ?H4 ?H5 ?H6 ?H7 ?hend
  case hlow =>
    have hc : i = 0 ∨ i = 1 ∨ i = 2 ∨ i = 3 ∨ i = 4 ∨ i = 5 ∨ i = 6 ∨ i = 7 := by have : i < 8 := hi; omega
    rcases hc with rfl | rfl | rfl | rfl | rfl | rfl | rfl | rfl <;> decide +kernel
  case H0 =>
    intro x0 x1 x2 x3 x4 x5 wz K hb hK
    obtain ⟨d0, d1, d2, _⟩ := cell3v ((hb.block _ (block_lt (unhide HSB))).trans (unhide HSB))
    simp only [set6, List.setIfInBounds_toArray, List.set_cons_zero, List.set_cons_succ] at hK ⊢
    unfold wpOp
    simp only [List.getElem?_toArray, List.getElem?_cons_zero, Region.wanted, if_true]
    refine .inl ?_
    unfold Oper.wp execOp
    go_simp
    exact hK
  case H1 =>
    intro x1 x2 x3 x4 x5 wz K hb hK
    simp only [set6, List.setIfInBounds_toArray, List.set_cons_zero, List.set_cons_succ] at hK ⊢
    unfold wpOp
    simp only [List.getElem?_toArray, List.getElem?_cons_zero, List.getElem?_cons_succ, Region.wanted, if_true]
    refine .inl ?_
    unfold Oper.wp execOp
    go_simp
    refine (unhide HTS _ hb).mono ?_
    rintro e w' ⟨v', rfl, x, hx, ⟨kk, rfl, ho⟩, hb'⟩
    obtain ⟨ka, kc, rfl, _⟩ := ownsRow_slice ho
    exact hK _ _ hb' ⟨x, ka, kc, hx, rfl, ownsRow_less ho hb.size⟩ (fun k hk => (ho.lt k hk).1)
  case H2 =>
    intro x0 x1 x2 x3 x4 x5 wz K hb hK
    obtain ⟨d0, d1, d2, _⟩ := cell3v ((hb.block _ (block_lt (unhide HTB))).trans (unhide HTB))
    simp only [set6, List.setIfInBounds_toArray, List.set_cons_zero, List.set_cons_succ] at hK ⊢
    unfold wpOp
    simp only [List.getElem?_toArray, List.getElem?_cons_zero, List.getElem?_cons_succ, Region.wanted, if_true]
    refine .inl ?_
    unfold Oper.wp execOp
    go_simp
    exact hK
  case H3 =>
    intro x0 x1 x3 x4 x5 wz K hb hK
    simp only [set6, List.setIfInBounds_toArray, List.set_cons_zero, List.set_cons_succ] at hK ⊢
    unfold wpOp
    simp only [List.getElem?_toArray, List.getElem?_cons_zero, List.getElem?_cons_succ, Region.wanted, if_true]
    refine .inl ?_
    unfold Oper.wp execOp
    go_simp
    refine (unhide HTT _ hb).mono ?_
    rintro e w' ⟨v', rfl, x, hx, ⟨kk, rfl, ho⟩, hb'⟩
    obtain ⟨ka, kc, rfl, _⟩ := ownsRow_slice ho
    exact hK _ _ hb' ⟨x, ka, kc, hx, rfl, ownsRow_less ho hb.size⟩ (fun k hk => (ho.lt k hk).1)
  case H4 =>
    intro x0 x1 x2 x3 x4 x5 wz K
    refine ⟨[.int .i64 0, .int .i64 0, .slice none 0 0], rfl, fun hK => ?_⟩
    unfold ptr at hK
    simp only [set6, List.setIfInBounds_toArray, List.set_cons_zero, List.set_cons_succ] at hK ⊢
    unfold wpOp
    simp only [List.getElem?_toArray, List.getElem?_cons_zero, List.getElem?_cons_succ, Region.wanted, if_true]
    refine .inl ?_
    unfold Oper.wp execOp
    go_simp
    exact hK
  case H5 =>
    intro x0 x1 x2 x3 x4 x5 wz K
    refine ⟨[.int .i64 0, .int .i64 0, .slice none 0 0], rfl, fun hK => ?_⟩
    unfold ptr at hK
    simp only [set6, List.setIfInBounds_toArray, List.set_cons_zero, List.set_cons_succ] at hK ⊢
    unfold wpOp
    simp only [List.getElem?_toArray, List.getElem?_cons_zero, List.getElem?_cons_succ, Region.wanted, if_true]
    refine .inl ?_
    unfold Oper.wp execOp
    go_simp
    exact hK
  case H6 =>
    intro x0 x1 x2 x3 x5 wz K q ys hF hy hq hK
    obtain ⟨zq, zqa, zqc, hz, hzv, ho⟩ := hF
    subst hzv
    match ys, hy with
    | [y1, y2, y3], _ =>
      obtain ⟨d0, d1, d2, fz⟩ := cell3v hq
      simp only [putL, Res.state, stCells] at hK
      unfold ptr at *
      simp only [set6, List.setIfInBounds_toArray, List.set_cons_zero, List.set_cons_succ] at hK ⊢
      unfold wpOp
      simp only [List.getElem?_toArray, List.getElem?_cons_zero, List.getElem?_cons_succ, Region.wanted, if_true]
      refine .inl ?_
      unfold Oper.wp execOp
      go_simp
      exact hK
  case H7 =>
    intro x0 x1 x2 x3 x4 wz K q ys hF hy hq hK
    obtain ⟨zq, zqa, zqc, hz, hzv, ho⟩ := hF
    subst hzv
    match ys, hy with
    | [y1, y2, y3], _ =>
      obtain ⟨d0, d1, d2, fz⟩ := cell3v hq
      simp only [putL, Res.state, stCells] at hK
      unfold ptr at *
      simp only [set6, List.setIfInBounds_toArray, List.set_cons_zero, List.set_cons_succ] at hK ⊢
      unfold wpOp
      simp only [List.getElem?_toArray, List.getElem?_cons_zero, List.getElem?_cons_succ, Region.wanted, if_true]
      refine .inl ?_
      unfold Oper.wp execOp
      go_simp
      exact hK
  case hend =>
    intro w6 u1 u3 qA qB hb6 hqa hqb hqn hF1 hF3 hA6 hB6 _ hxB _ _
    obtain ⟨x, xa, xac, hmx, rfl, hox⟩ := hF1
    obtain ⟨y, ya, yac, hmy, rfl, hoy⟩ := hF3
    unfold ptr
    simp only [Res.state, stCells] at hA6 hB6
    simp only [set6, List.setIfInBounds_toArray, List.set_cons_zero, List.set_cons_succ]
    obtain ⟨b0, b1, b2, fb⟩ := cell3v hB6
    obtain ⟨a0, a1, a2, _⟩ := cell3v hA6
    obtain ⟨w8, hw8⟩ : ∃ w8, put3 w6 qB (.int .i64 x.kind) (.int .i64 x.n) (.slice xa x.rows.length xac) = w8 := ⟨_, rfl⟩
    have HA8 : Hid (w8.heap[qA]? = some (.cells #[.int .i64 x.kind, .int .i64 x.n, .slice xa x.rows.length xac] 29 (0, 0))) := by show _ = _; rw [← hw8, put3_other _ _ _ _ hqn]; exact hA6
    have HB8 : Hid (w8.heap[qB]? = some (.cells #[.int .i64 x.kind, .int .i64 x.n, .slice xa x.rows.length xac] 29 (0, 0))) := by
      show _ = _
      have f1 := heap_setCell_same w6 qB 0 _ _ (.int .i64 x.kind) hB6
      have f2 := heap_setCell_same _ qB 1 _ _ (.int .i64 x.n) f1
      have f3 := heap_setCell_same _ qB 2 _ _ (.slice xa x.rows.length xac) f2
      rw [← hw8]
      unfold put3
      simpa [Array.setIfInBounds] using f3
    have hox8 : w8.ownsRow W.heap.size 55 2 (.slice xa x.rows.length xac) x.rows.length (R9 x.rows) := by
      rw [← hw8]
      exact ownsRow_same hox fun k hk => put3_other _ _ _ _ (fun e => hxB (by rw [← e]; exact hk))
    have HXA8 : Hid (StAt w8 (.agg #[.int .i64 x.kind, .int .i64 x.n, .slice xa x.rows.length xac]) x) := ⟨_, rfl, Row2.of_own hox8⟩
    have HXO8 := hide hox8
    have HXB : Hid ((Value.slice xa x.rows.length xac).ownBlock ≠ some qB) := hxB
    have HWQ : Hid (w.heap.size ≤ qB) := Nat.le_trans (unhide HLW).size hqb
    have hb8 : Below W.heap.size W w8 := by
      rw [← hw8]
      exact ⟨hb6.os, hb6.tape, hb6.output, by rw [put3_size]; exact hb6.size, fun k hk => by rw [put3_other _ _ _ _ (by omega)]; exact hb6.block k hk⟩
    have HL8 : Hid (Below w.heap.size w w8) := (unhide HLW).trans (hb8.mono (unhide HLW).size)
    have HMX := hide hmx
    have hkey : w8.cell? ⟨w.heap.size + 1 + 1, 0, none⟩ = some (.string k1) := by
      have := (hb8.block _ (block_lt (unhide HRB))).trans (unhide HRB)
      rw [block_cell this]; rfl
    have hkeyc := Gr.one (W := w8) (p := ⟨w.heap.size + 1 + 1, 0, none⟩) (by have := (hb8.block _ (block_lt (unhide HRB))).trans (unhide HRB); exact block_lt this) hkey
    obtain ⟨xc0, xc1, xc2⟩ := Gr.cell3 (unhide HA8)
    have HQB : Hid (qB < w8.heap.size) := block_lt (unhide HB8)
    have HCU := hide (fun wz => cut_any k1 24 wz hk1)
    have e24 : ((24 : Nat) : Int) = 24 := rfl
    rw [e24] at HCU
    obtain ⟨kz, hkz⟩ : ∃ kz, k1.data.toList.take 24 = kz := ⟨_, rfl⟩
    rw [hkz] at HCU
    have HWI : Hid (∀ wz, Gr w8 wz → Calls Tryd.prog 27 #[.agg #[.int .i64 x.kind, .int .i64 x.n, .slice xa x.rows.length xac], .agg #[.string (S kz), .string ⟨#[]⟩]] wz fun e w' => ∃ v', e = .returned v' ∧ StOwn wz.heap.size 55 w' v' (x.rwith (kz, [])) ∧ Below wz.heap.size wz w') := fun wz hf => rwith_any ((unhide HXA8).later hf.low) (by have := VS.may_rows (unhide HMX); have := VS.most_le x; omega) (kz, [])
    have hst := Gr.start w8
    have hstd := hst.drew
    unfold put3 at hw8
    clear hA6 hox hoy hox8 hmx hmy hb6 hb8 hkey HTS HTT HSB HTB HLW HRB hkz hB6
    go_upto_region 4 with fail
    try rw [hw8]
    clear hw8 b0 b1 b2 fb a0 a1 a2
    have HQA : Hid (qA < w8.heap.size) := block_lt (unhide HA8)
    obtain ⟨z, hzz⟩ : ∃ z, x.rwith (kz, []) = z := ⟨_, rfl⟩
    have HZN : Hid (z.n = x.n) := by show _ = _; rw [← hzz]; rfl
    rw [hzz] at HWI
    clear hzz
    go_cut [11] (fun p wx => ∃ q, p = .pointer (some ⟨q, 0, none⟩) ∧ q ≠ qA ∧ q ≠ qB ∧ Gr w8 wx ∧ ∃ za zac, wx.heap[q]? = some (.cells #[.int .i64 z.kind, .int .i64 z.n, .slice za z.rows.length zac] 29 (0, 0)) ∧ wx.ownsRow w8.heap.size 55 2 (.slice za z.rows.length zac) z.rows.length (R9 z.rows))
    case first =>
      go_region_held3 (fun w' => Gr w8 w') (first | exact hstd | exact hst | exact hgw | (exact Gr.drew (Gr.below (Gr.start w8) (under_box _))) | (exact Gr.below (by assumption) (by assumption)) | (exact Gr.below hgw (under_box _)) | (exact Gr.below (by assumption) (under_box _)) | (refine Gr.set (Gr.set (Gr.set ?_ ?_ _ _) ?_ _ _) ?_ _ _ <;> first | assumption | exact hgw | (have := (Gr.low (by assumption) : Below w8.heap.size w8 _).size; omega) | simp))
        (first | (go_at_call 19; refine (unhide HCU _).mono ?_; rintro e wc ⟨rfl, hwc⟩; have hwc2 := hwc.symm; subst hwc2) | (go_at_call 27; refine (unhide HWI _ (by assumption)).mono ?_; rintro e ww ⟨vw, rfl, ⟨kw, rfl, how⟩, hbw⟩; obtain ⟨za, zac, rfl, _⟩ := ownsRow_slice how; have hgw : Gr w8 ww := Gr.below (by assumption) hbw; first | (have hbx := box_before hbw; obtain ⟨m0, m1, m2, fm⟩ := cell3v hbx) | skip) | fail)
      all_goals go_wp2_with fail
      all_goals go_meet
      all_goals
        have hqa1 := unhide HQA
        have hqb1 := unhide HQB
        have hws := (Gr.low hgw).size
        first
        | exact ⟨ww.heap.size, rfl, by omega, by omega, Gr.below hgw (under_box _), za, zac, heap_alloc_new ww _, ownsRow_less (how.alloc _) (by simp)⟩
        | (obtain ⟨g1, g2⟩ := put_after hbx (by simp) how (.int .i64 z.kind) (.int .i64 z.n) (.slice za z.rows.length zac)
           unfold put3 at g1 g2
           exact ⟨w8.heap.size, rfl, by omega, by omega, by assumption, za, zac, g1, ownsRow_less g2 (by simp)⟩)
    case rest =>
    obtain ⟨q, rfl, hq1, hq2, hg, za, zac, hz, hzo⟩ := hcut
    have hzat : StAt wc (.agg #[.int .i64 z.kind, .int .i64 z.n, .slice za z.rows.length zac]) z := ⟨_, rfl, Row2.of_own hzo⟩
    have HCK := hide (rcheck_any hzat)
    obtain ⟨d0, d1, d2, _⟩ := cell3v hz
    have HZO := hide hzo
    have HZB := hide hz
    have HG := hide hg
    clear hz hzo hzat hst hstd hkeyc xc0 xc1 xc2 HWI HCU hg
    go_wp2_with fail
    refine (unhide HCK).mono ?_
    rintro e w9 ⟨rfl, hb9⟩
    have hb89 := (Gr.low (unhide HG)).trans (hb9.mono (Gr.low (unhide HG)).size)
    have hB9 := (hb89.block qB (unhide HQB)).trans (unhide HB8)
    have hA9 := (hb89.block qA (unhide HQA)).trans (unhide HA8)
    have hZ9 := (hb9.block q (block_lt (unhide HZB))).trans (unhide HZB)
    have hzo9 := ownsRow_below (unhide HZO) hb9
    obtain ⟨e0, e1, e2, _⟩ := cell3v hZ9
    obtain ⟨b0, b1, b2, fb⟩ := cell3v hB9
    clear d0 d1 d2 HCK HZO HZB HG hb9
    by_cases hck : z.check = 0
    · have e0k : (z.check == 0) = true := by rw [hck]; rfl
      obtain ⟨g1, g2⟩ := put_after hB9 (unhide HQB) hzo9 (.int .i64 z.kind) (.int .i64 z.n) (.slice za z.rows.length zac)
      obtain ⟨wn, hwn⟩ : ∃ wn, put3 w9 qB (.int .i64 z.kind) (.int .i64 z.n) (.slice za z.rows.length zac) = wn := ⟨_, rfl⟩
      have hbn : Below w.heap.size w wn := by
        have hl := (unhide HL8).trans (hb89.mono (unhide HL8).size)
        rw [← hwn]
        exact ⟨hl.os, hl.tape, hl.output, by rw [put3_size]; exact hl.size, fun k hk => by rw [put3_other _ _ _ _ (by have := unhide HWQ; omega)]; exact hl.block k hk⟩
      have hxn : StAt wn (.agg #[.int .i64 x.kind, .int .i64 x.n, .slice xa x.rows.length xac]) x := by
        obtain ⟨k0, hk0, hr0⟩ := (unhide HXA8).later hb89
        rw [← hwn]
        refine ⟨k0, hk0, ?_⟩
        injection hk0 with hk1
        have hk2 : Value.slice xa x.rows.length xac = k0 := by
          have := congrArg (fun a : Array Value => a[2]?) hk1
          simpa using this
        subst hk2
        exact Row2.of_own (ownsRow_same (ownsRow_below (unhide HXO8) hb89) fun k hk => put3_other _ _ _ _ (fun e => unhide HXB (by rw [← e]; exact hk)))
      have HA := hide (show wn.heap[qA]? = some (.cells #[.int .i64 x.kind, .int .i64 x.n, .slice xa x.rows.length xac] 29 (0, 0)) by rw [← hwn, put3_other _ _ _ _ hqn]; exact hA9)
      have HB := hide (show wn.heap[qB]? = some (.cells #[.int .i64 z.kind, .int .i64 z.n, .slice za z.rows.length zac] 29 (0, 0)) by rw [← hwn]; exact g1)
      have HYA : Hid (StAt wn (.agg #[.int .i64 z.kind, .int .i64 z.n, .slice za z.rows.length zac]) z) := by
        rw [hwn] at g2
        exact ⟨_, rfl, Row2.of_own g2⟩
      have HXA := hide hxn
      have HL6 := hide hbn
      have HMY : Hid (VS.may z) := ⟨hck, by rw [unhide HZN]; exact (unhide HMX).2⟩
      unfold put3 at hwn
      clear g1 g2 hbn hxn hB9 hA9 hZ9 hzo9 hb89 hck HXA8 HXO8 HXB HA8 HB8 HL8 HWQ HQA HQB HZN
      go_upto_region 7 with fail
      try rw [hwn]
      clear hwn e0 e1 e2 b0 b1 b2 fb
      have HOA := hide (fun (wz : World) (hb : Below wn.heap.size wn wz) => own_any ((unhide HXA).later hb) (by have := VS.may_rows (unhide HMX); have := VS.most_le x; omega))
      have HOB := hide (fun (wz : World) (hb : Below wn.heap.size wn wz) => own_any ((unhide HYA).later hb) (by have := VS.may_rows (unhide HMY); have := VS.most_le z; omega))
      refine twoG_T 30 31 32 33 12 13 (.agg #[.int .i64 x.kind, .int .i64 x.n, .slice xa x.rows.length xac]) (.agg #[.int .i64 z.kind, .int .i64 z.n, .slice za z.rows.length zac]) (Res.state (fun zq => zq = x) wn.heap.size 47) (Res.state (fun zq => zq = z) wn.heap.size 47) 24 24 (by kernel_rfl) rfl (fun i hi => ?hlow) (by kernel_rfl) (by kernel_rfl) (by kernel_rfl) (by kernel_rfl) (by kernel_rfl) (by kernel_rfl) ?H0 ?H1 ?H2 ?H3 ?H4 ?H5 ?H6 ?H7 ?hend
      case hlow =>
        have hc : i = 0 ∨ i = 1 ∨ i = 2 ∨ i = 3 ∨ i = 4 ∨ i = 5 ∨ i = 6 ∨ i = 7 := by have : i < 8 := hi; omega
        rcases hc with rfl | rfl | rfl | rfl | rfl | rfl | rfl | rfl <;> decide +kernel
      case H0 =>
        intro x0 x1 x2 x3 x4 x5 wz K hb hK
        obtain ⟨d0, d1, d2, _⟩ := cell3v ((hb.block _ (block_lt (unhide HA))).trans (unhide HA))
        simp only [set6, List.setIfInBounds_toArray, List.set_cons_zero, List.set_cons_succ] at hK ⊢
        unfold wpOp
        simp only [List.getElem?_toArray, List.getElem?_cons_zero, Region.wanted, if_true]
        refine .inl ?_
        unfold Oper.wp execOp
        go_simp
        exact hK
      case H1 =>
        intro x1 x2 x3 x4 x5 wz K hb hK
        simp only [set6, List.setIfInBounds_toArray, List.set_cons_zero, List.set_cons_succ] at hK ⊢
        unfold wpOp
        simp only [List.getElem?_toArray, List.getElem?_cons_zero, List.getElem?_cons_succ, Region.wanted, if_true]
        refine .inl ?_
        unfold Oper.wp execOp
        go_simp
        refine (unhide HOA _ hb).mono ?_
        rintro e w' ⟨v', rfl, ⟨kk, rfl, ho⟩, hb'⟩
        obtain ⟨ka, kc, rfl, _⟩ := ownsRow_slice ho
        exact hK _ _ hb' ⟨x, ka, kc, rfl, rfl, ownsRow_less ho hb.size⟩ (fun k hk => (ho.lt k hk).1)
      case H2 =>
        intro x0 x1 x2 x3 x4 x5 wz K hb hK
        obtain ⟨d0, d1, d2, _⟩ := cell3v ((hb.block _ (block_lt (unhide HB))).trans (unhide HB))
        simp only [set6, List.setIfInBounds_toArray, List.set_cons_zero, List.set_cons_succ] at hK ⊢
        unfold wpOp
        simp only [List.getElem?_toArray, List.getElem?_cons_zero, List.getElem?_cons_succ, Region.wanted, if_true]
        refine .inl ?_
        unfold Oper.wp execOp
        go_simp
        exact hK
      case H3 =>
        intro x0 x1 x3 x4 x5 wz K hb hK
        simp only [set6, List.setIfInBounds_toArray, List.set_cons_zero, List.set_cons_succ] at hK ⊢
        unfold wpOp
        simp only [List.getElem?_toArray, List.getElem?_cons_zero, List.getElem?_cons_succ, Region.wanted, if_true]
        refine .inl ?_
        unfold Oper.wp execOp
        go_simp
        refine (unhide HOB _ hb).mono ?_
        rintro e w' ⟨v', rfl, ⟨kk, rfl, ho⟩, hb'⟩
        obtain ⟨ka, kc, rfl, _⟩ := ownsRow_slice ho
        exact hK _ _ hb' ⟨z, ka, kc, rfl, rfl, ownsRow_less ho hb.size⟩ (fun k hk => (ho.lt k hk).1)
      case H4 =>
        intro x0 x1 x2 x3 x4 x5 wz K
        refine ⟨[.int .i64 0, .int .i64 0, .slice none 0 0], rfl, fun hK => ?_⟩
        unfold ptr at hK
        simp only [set6, List.setIfInBounds_toArray, List.set_cons_zero, List.set_cons_succ] at hK ⊢
        unfold wpOp
        simp only [List.getElem?_toArray, List.getElem?_cons_zero, List.getElem?_cons_succ, Region.wanted, if_true]
        refine .inl ?_
        unfold Oper.wp execOp
        go_simp
        exact hK
      case H5 =>
        intro x0 x1 x2 x3 x4 x5 wz K
        refine ⟨[.int .i64 0, .int .i64 0, .slice none 0 0], rfl, fun hK => ?_⟩
        unfold ptr at hK
        simp only [set6, List.setIfInBounds_toArray, List.set_cons_zero, List.set_cons_succ] at hK ⊢
        unfold wpOp
        simp only [List.getElem?_toArray, List.getElem?_cons_zero, List.getElem?_cons_succ, Region.wanted, if_true]
        refine .inl ?_
        unfold Oper.wp execOp
        go_simp
        exact hK
      case H6 =>
        intro x0 x1 x2 x3 x5 wz K q ys hF hy hq hK
        obtain ⟨zq, zqa, zqc, hz, hzv, ho⟩ := hF
        have hz2 := (show _ = _ from hz).symm
        subst hz2
        subst hzv
        match ys, hy with
        | [y1, y2, y3], _ =>
          obtain ⟨d0, d1, d2, fz⟩ := cell3v hq
          simp only [putL, Res.state, stCells] at hK
          unfold ptr at *
          simp only [set6, List.setIfInBounds_toArray, List.set_cons_zero, List.set_cons_succ] at hK ⊢
          unfold wpOp
          simp only [List.getElem?_toArray, List.getElem?_cons_zero, List.getElem?_cons_succ, Region.wanted, if_true]
          refine .inl ?_
          unfold Oper.wp execOp
          go_simp
          exact hK
      case H7 =>
        intro x0 x1 x2 x3 x4 wz K q ys hF hy hq hK
        obtain ⟨zq, zqa, zqc, hz, hzv, ho⟩ := hF
        have hz2 := (show _ = _ from hz).symm
        subst hz2
        subst hzv
        match ys, hy with
        | [y1, y2, y3], _ =>
          obtain ⟨d0, d1, d2, fz⟩ := cell3v hq
          simp only [putL, Res.state, stCells] at hK
          unfold ptr at *
          simp only [set6, List.setIfInBounds_toArray, List.set_cons_zero, List.set_cons_succ] at hK ⊢
          unfold wpOp
          simp only [List.getElem?_toArray, List.getElem?_cons_zero, List.getElem?_cons_succ, Region.wanted, if_true]
          refine .inl ?_
          unfold Oper.wp execOp
          go_simp
          exact hK
      case hend =>
        intro w7 u1 u3 rA rB hb7 _ _ _ hF1 hF3 hA7 hB7 _ _ _ _
        obtain ⟨z1, aa, ac, hz1, rfl, hoa⟩ := hF1
        obtain ⟨z2, ba, bc, hz2, rfl, hob⟩ := hF3
        have hz1' := (show z1 = x from hz1).symm
        subst hz1'
        have hz2' := (show z2 = z from hz2).symm
        subst hz2'
        unfold ptr
        simp only [Res.state, stCells] at hA7 hB7
        simp only [set6, List.setIfInBounds_toArray, List.set_cons_zero, List.set_cons_succ]
        obtain ⟨xc0, xc1, xc2⟩ := Gr.cell3 ((hb7.block _ (block_lt (unhide HA))).trans (unhide HA))
        obtain ⟨yc0, yc1, yc2⟩ := Gr.cell3 ((hb7.block _ (block_lt (unhide HB))).trans (unhide HB))
        obtain ⟨ac0, ac1, ac2⟩ := Gr.cell3 hA7
        obtain ⟨bc0, bc1, bc2⟩ := Gr.cell3 hB7
        have HL7 : Hid (Below w.heap.size w w7) := (unhide HL6).trans (hb7.mono (unhide HL6).size)
        have hsa : StAt w7 (.agg #[.int .i64 x.kind, .int .i64 x.n, .slice aa x.rows.length ac]) x := ⟨_, rfl, Row2.of_own hoa⟩
        have hsb : StAt w7 (.agg #[.int .i64 z.kind, .int .i64 z.n, .slice ba z.rows.length bc]) z := ⟨_, rfl, Row2.of_own hob⟩
        have hsx := (unhide HXA).later hb7
        have hsy := (unhide HYA).later hb7
        obtain ⟨R, hR⟩ : ∃ R, x.alike z = R := ⟨_, rfl⟩
        have hmx := unhide HMX
        have hmy := unhide HMY
        have HAW : Hid (∀ wz, Gr w7 wz → Calls Tryd.prog 11 #[] wz fun e w' => e = .returned (.bool true) ∧ Below wz.heap.size wz w') := fun wz hf => vawake_any ((unhide HWD).later ((unhide HL7).trans (hf.low.mono (unhide HL7).size)))
        have HSM : Hid (∀ wz, Gr w7 wz → Calls Tryd.prog 18 #[.agg #[.int .i64 x.kind, .int .i64 x.n, .slice aa x.rows.length ac], .agg #[.int .i64 z.kind, .int .i64 z.n, .slice ba z.rows.length bc]] wz fun e w' => e = .returned (.bool R) ∧ Below wz.heap.size wz w') := fun wz hf => by rw [← hR]; exact vsame_any (hsa.later hf.low) (hsb.later hf.low)
        have HLK : Hid (∀ wz, Gr w7 wz → Calls Tryd.prog 21 #[.agg #[.int .i64 x.kind, .int .i64 x.n, .slice xa x.rows.length xac], .agg #[.int .i64 z.kind, .int .i64 z.n, .slice za z.rows.length zac]] wz fun e w' => e = .returned (.bool R) ∧ Below wz.heap.size wz w') := fun wz hf => by rw [← hR]; exact like_any (hsx.later hf.low) (hsy.later hf.low)
        obtain ⟨p, hp⟩ : ∃ p, x.text = p := ⟨_, rfl⟩
        obtain ⟨q, hq⟩ : ∃ q, z.text = q := ⟨_, rfl⟩
        have HTX : Hid (∀ wz, Gr w7 wz → Calls Tryd.prog 16 #[.agg #[.int .i64 x.kind, .int .i64 x.n, .slice aa x.rows.length ac]] wz fun e w' => e = .returned (.string (S p)) ∧ Below wz.heap.size wz w') := fun wz hf => by rw [← hp]; exact text_may (hsa.later hf.low) hmx
        have HTY : Hid (∀ wz, Gr w7 wz → Calls Tryd.prog 16 #[.agg #[.int .i64 z.kind, .int .i64 z.n, .slice ba z.rows.length bc]] wz fun e w' => e = .returned (.string (S q)) ∧ Below wz.heap.size wz w') := fun wz hf => by rw [← hq]; exact text_may (hsb.later hf.low) hmy
        have hE : ((S p).toList == (S q).toList) = R := by
          have := S_eq p q
          rw [this, ← hp, ← hq, text_alike hmx hmy, hR]
        have hRR : (R == R) = true := by cases R <;> rfl
        have hst := Gr.start w7
        have hstd := hst.drew
        clear hsa hsb hsx hsy hR hmx hmy hp hq hoa hob hA7 hB7 hb7 HXA HYA HMX HMY HWD HA HB HOA HOB
        go_wp2_with fail
        go_region_held3 (fun w' => Gr w7 w') (with_reducible (first | exact hstd | exact hst | (refine Gr.below ?_ (by assumption) <;> assumption)))
          (first | (go_at_call 11; refine (unhide HAW _ (by assumption)).mono ?_; rintro e wa ⟨rfl, hba⟩) | (go_at_call 18; refine (unhide HSM _ (by assumption)).mono ?_; rintro e wb ⟨rfl, hbb⟩) | (go_at_call 16; first | (have hq := HT2; clear hq; refine (unhide HTY _ (by assumption)).mono ?_; rintro e we ⟨rfl, hbe⟩) | (refine (unhide HTX _ (by assumption)).mono ?_; rintro e wd ⟨rfl, hbd⟩; have HT2 := hide hbd)) | (go_at_call 21; refine (unhide HLK _ (by assumption)).mono ?_; rintro e wf ⟨rfl, hbf⟩) | fail)
        have hfin : Gr w7 wf := by assumption
        have HL8 := hide ((unhide HL7).trans (hfin.low.mono (unhide HL7).size))
        clear hfin hbf
        go_wp2_with fail
        go_ret
        exact ⟨rfl, unhide HL8⟩
    · have e0k : (z.check == 0) = false := by rw [beq_eq_false_iff_ne]; exact hck
      have HA := hide hA9
      have HB := hide hB9
      have HXA := hide ((unhide HXA8).later hb89)
      have HYA := hide ((unhide HXA8).later hb89)
      have HMY := hide (unhide HMX)
      have HL6 := hide ((unhide HL8).trans (hb89.mono (unhide HL8).size))
      clear hB9 hA9 hZ9 hzo9 hb89 hck HXA8 HXO8 HXB HA8 HB8 HL8 HWQ HQA HQB HZN e0 e1 e2 b0 b1 b2 fb
      go_upto_region 7 with fail
      have HOA := hide (fun (wz : World) (hb : Below w9.heap.size w9 wz) => own_any ((unhide HXA).later hb) (by have := VS.may_rows (unhide HMX); have := VS.most_le x; omega))
      have HOB := hide (fun (wz : World) (hb : Below w9.heap.size w9 wz) => own_any ((unhide HYA).later hb) (by have := VS.may_rows (unhide HMY); have := VS.most_le x; omega))
      refine twoG_T 30 31 32 33 12 13 (.agg #[.int .i64 x.kind, .int .i64 x.n, .slice xa x.rows.length xac]) (.agg #[.int .i64 x.kind, .int .i64 x.n, .slice xa x.rows.length xac]) (Res.state (fun zq => zq = x) w9.heap.size 47) (Res.state (fun zq => zq = x) w9.heap.size 47) 24 24 (by kernel_rfl) rfl (fun i hi => ?hlow) (by kernel_rfl) (by kernel_rfl) (by kernel_rfl) (by kernel_rfl) (by kernel_rfl) (by kernel_rfl) ?H0 ?H1 ?H2 ?H3 ?H4 ?H5 ?H6 ?H7 ?hend
      case hlow =>
        have hc : i = 0 ∨ i = 1 ∨ i = 2 ∨ i = 3 ∨ i = 4 ∨ i = 5 ∨ i = 6 ∨ i = 7 := by have : i < 8 := hi; omega
        rcases hc with rfl | rfl | rfl | rfl | rfl | rfl | rfl | rfl <;> decide +kernel
      case H0 =>
        intro x0 x1 x2 x3 x4 x5 wz K hb hK
        obtain ⟨d0, d1, d2, _⟩ := cell3v ((hb.block _ (block_lt (unhide HA))).trans (unhide HA))
        simp only [set6, List.setIfInBounds_toArray, List.set_cons_zero, List.set_cons_succ] at hK ⊢
        unfold wpOp
        simp only [List.getElem?_toArray, List.getElem?_cons_zero, Region.wanted, if_true]
        refine .inl ?_
        unfold Oper.wp execOp
        go_simp
        exact hK
      case H1 =>
        intro x1 x2 x3 x4 x5 wz K hb hK
        simp only [set6, List.setIfInBounds_toArray, List.set_cons_zero, List.set_cons_succ] at hK ⊢
        unfold wpOp
        simp only [List.getElem?_toArray, List.getElem?_cons_zero, List.getElem?_cons_succ, Region.wanted, if_true]
        refine .inl ?_
        unfold Oper.wp execOp
        go_simp
        refine (unhide HOA _ hb).mono ?_
        rintro e w' ⟨v', rfl, ⟨kk, rfl, ho⟩, hb'⟩
        obtain ⟨ka, kc, rfl, _⟩ := ownsRow_slice ho
        exact hK _ _ hb' ⟨x, ka, kc, rfl, rfl, ownsRow_less ho hb.size⟩ (fun k hk => (ho.lt k hk).1)
      case H2 =>
        intro x0 x1 x2 x3 x4 x5 wz K hb hK
        obtain ⟨d0, d1, d2, _⟩ := cell3v ((hb.block _ (block_lt (unhide HB))).trans (unhide HB))
        simp only [set6, List.setIfInBounds_toArray, List.set_cons_zero, List.set_cons_succ] at hK ⊢
        unfold wpOp
        simp only [List.getElem?_toArray, List.getElem?_cons_zero, List.getElem?_cons_succ, Region.wanted, if_true]
        refine .inl ?_
        unfold Oper.wp execOp
        go_simp
        exact hK
      case H3 =>
        intro x0 x1 x3 x4 x5 wz K hb hK
        simp only [set6, List.setIfInBounds_toArray, List.set_cons_zero, List.set_cons_succ] at hK ⊢
        unfold wpOp
        simp only [List.getElem?_toArray, List.getElem?_cons_zero, List.getElem?_cons_succ, Region.wanted, if_true]
        refine .inl ?_
        unfold Oper.wp execOp
        go_simp
        refine (unhide HOB _ hb).mono ?_
        rintro e w' ⟨v', rfl, ⟨kk, rfl, ho⟩, hb'⟩
        obtain ⟨ka, kc, rfl, _⟩ := ownsRow_slice ho
        exact hK _ _ hb' ⟨x, ka, kc, rfl, rfl, ownsRow_less ho hb.size⟩ (fun k hk => (ho.lt k hk).1)
      case H4 =>
        intro x0 x1 x2 x3 x4 x5 wz K
        refine ⟨[.int .i64 0, .int .i64 0, .slice none 0 0], rfl, fun hK => ?_⟩
        unfold ptr at hK
        simp only [set6, List.setIfInBounds_toArray, List.set_cons_zero, List.set_cons_succ] at hK ⊢
        unfold wpOp
        simp only [List.getElem?_toArray, List.getElem?_cons_zero, List.getElem?_cons_succ, Region.wanted, if_true]
        refine .inl ?_
        unfold Oper.wp execOp
        go_simp
        exact hK
      case H5 =>
        intro x0 x1 x2 x3 x4 x5 wz K
        refine ⟨[.int .i64 0, .int .i64 0, .slice none 0 0], rfl, fun hK => ?_⟩
        unfold ptr at hK
        simp only [set6, List.setIfInBounds_toArray, List.set_cons_zero, List.set_cons_succ] at hK ⊢
        unfold wpOp
        simp only [List.getElem?_toArray, List.getElem?_cons_zero, List.getElem?_cons_succ, Region.wanted, if_true]
        refine .inl ?_
        unfold Oper.wp execOp
        go_simp
        exact hK
      case H6 =>
        intro x0 x1 x2 x3 x5 wz K q ys hF hy hq hK
        obtain ⟨zq, zqa, zqc, hz, hzv, ho⟩ := hF
        have hz2 := (show _ = _ from hz).symm
        subst hz2
        subst hzv
        match ys, hy with
        | [y1, y2, y3], _ =>
          obtain ⟨d0, d1, d2, fz⟩ := cell3v hq
          simp only [putL, Res.state, stCells] at hK
          unfold ptr at *
          simp only [set6, List.setIfInBounds_toArray, List.set_cons_zero, List.set_cons_succ] at hK ⊢
          unfold wpOp
          simp only [List.getElem?_toArray, List.getElem?_cons_zero, List.getElem?_cons_succ, Region.wanted, if_true]
          refine .inl ?_
          unfold Oper.wp execOp
          go_simp
          exact hK
      case H7 =>
        intro x0 x1 x2 x3 x4 wz K q ys hF hy hq hK
        obtain ⟨zq, zqa, zqc, hz, hzv, ho⟩ := hF
        have hz2 := (show _ = _ from hz).symm
        subst hz2
        subst hzv
        match ys, hy with
        | [y1, y2, y3], _ =>
          obtain ⟨d0, d1, d2, fz⟩ := cell3v hq
          simp only [putL, Res.state, stCells] at hK
          unfold ptr at *
          simp only [set6, List.setIfInBounds_toArray, List.set_cons_zero, List.set_cons_succ] at hK ⊢
          unfold wpOp
          simp only [List.getElem?_toArray, List.getElem?_cons_zero, List.getElem?_cons_succ, Region.wanted, if_true]
          refine .inl ?_
          unfold Oper.wp execOp
          go_simp
          exact hK
      case hend =>
        intro w7 u1 u3 rA rB hb7 _ _ _ hF1 hF3 hA7 hB7 _ _ _ _
        obtain ⟨z1, aa, ac, hz1, rfl, hoa⟩ := hF1
        obtain ⟨z2, ba, bc, hz2, rfl, hob⟩ := hF3
        have hz1' := (show z1 = x from hz1).symm
        subst hz1'
        have hz2' := (show z2 = x from hz2).symm
        subst hz2'
        unfold ptr
        simp only [Res.state, stCells] at hA7 hB7
        simp only [set6, List.setIfInBounds_toArray, List.set_cons_zero, List.set_cons_succ]
        obtain ⟨xc0, xc1, xc2⟩ := Gr.cell3 ((hb7.block _ (block_lt (unhide HA))).trans (unhide HA))
        obtain ⟨yc0, yc1, yc2⟩ := Gr.cell3 ((hb7.block _ (block_lt (unhide HB))).trans (unhide HB))
        obtain ⟨ac0, ac1, ac2⟩ := Gr.cell3 hA7
        obtain ⟨bc0, bc1, bc2⟩ := Gr.cell3 hB7
        have HL7 : Hid (Below w.heap.size w w7) := (unhide HL6).trans (hb7.mono (unhide HL6).size)
        have hsa : StAt w7 (.agg #[.int .i64 x.kind, .int .i64 x.n, .slice aa x.rows.length ac]) x := ⟨_, rfl, Row2.of_own hoa⟩
        have hsb : StAt w7 (.agg #[.int .i64 x.kind, .int .i64 x.n, .slice ba x.rows.length bc]) x := ⟨_, rfl, Row2.of_own hob⟩
        have hsx := (unhide HXA).later hb7
        have hsy := (unhide HYA).later hb7
        obtain ⟨R, hR⟩ : ∃ R, x.alike x = R := ⟨_, rfl⟩
        have hmx := unhide HMX
        have hmy := unhide HMY
        have HAW : Hid (∀ wz, Gr w7 wz → Calls Tryd.prog 11 #[] wz fun e w' => e = .returned (.bool true) ∧ Below wz.heap.size wz w') := fun wz hf => vawake_any ((unhide HWD).later ((unhide HL7).trans (hf.low.mono (unhide HL7).size)))
        have HSM : Hid (∀ wz, Gr w7 wz → Calls Tryd.prog 18 #[.agg #[.int .i64 x.kind, .int .i64 x.n, .slice aa x.rows.length ac], .agg #[.int .i64 x.kind, .int .i64 x.n, .slice ba x.rows.length bc]] wz fun e w' => e = .returned (.bool R) ∧ Below wz.heap.size wz w') := fun wz hf => by rw [← hR]; exact vsame_any (hsa.later hf.low) (hsb.later hf.low)
        have HLK : Hid (∀ wz, Gr w7 wz → Calls Tryd.prog 21 #[.agg #[.int .i64 x.kind, .int .i64 x.n, .slice xa x.rows.length xac], .agg #[.int .i64 x.kind, .int .i64 x.n, .slice xa x.rows.length xac]] wz fun e w' => e = .returned (.bool R) ∧ Below wz.heap.size wz w') := fun wz hf => by rw [← hR]; exact like_any (hsx.later hf.low) (hsy.later hf.low)
        obtain ⟨p, hp⟩ : ∃ p, x.text = p := ⟨_, rfl⟩
        obtain ⟨q, hq⟩ : ∃ q, x.text = q := ⟨_, rfl⟩
        have HTX : Hid (∀ wz, Gr w7 wz → Calls Tryd.prog 16 #[.agg #[.int .i64 x.kind, .int .i64 x.n, .slice aa x.rows.length ac]] wz fun e w' => e = .returned (.string (S p)) ∧ Below wz.heap.size wz w') := fun wz hf => by rw [← hp]; exact text_may (hsa.later hf.low) hmx
        have HTY : Hid (∀ wz, Gr w7 wz → Calls Tryd.prog 16 #[.agg #[.int .i64 x.kind, .int .i64 x.n, .slice ba x.rows.length bc]] wz fun e w' => e = .returned (.string (S q)) ∧ Below wz.heap.size wz w') := fun wz hf => by rw [← hq]; exact text_may (hsb.later hf.low) hmy
        have hE : ((S p).toList == (S q).toList) = R := by
          have := S_eq p q
          rw [this, ← hp, ← hq, text_alike hmx hmy, hR]
        have hRR : (R == R) = true := by cases R <;> rfl
        have hst := Gr.start w7
        have hstd := hst.drew
        clear hsa hsb hsx hsy hR hmx hmy hp hq hoa hob hA7 hB7 hb7 HXA HYA HMX HMY HWD HA HB HOA HOB
        go_wp2_with fail
        go_region_held3 (fun w' => Gr w7 w') (with_reducible (first | exact hstd | exact hst | (refine Gr.below ?_ (by assumption) <;> assumption)))
          (first | (go_at_call 11; refine (unhide HAW _ (by assumption)).mono ?_; rintro e wa ⟨rfl, hba⟩) | (go_at_call 18; refine (unhide HSM _ (by assumption)).mono ?_; rintro e wb ⟨rfl, hbb⟩) | (go_at_call 16; first | (have hq := HT2; clear hq; refine (unhide HTY _ (by assumption)).mono ?_; rintro e we ⟨rfl, hbe⟩) | (refine (unhide HTX _ (by assumption)).mono ?_; rintro e wd ⟨rfl, hbd⟩; have HT2 := hide hbd)) | (go_at_call 21; refine (unhide HLK _ (by assumption)).mono ?_; rintro e wf ⟨rfl, hbf⟩) | fail)
        have hfin : Gr w7 wf := by assumption
        have HL8 := hide ((unhide HL7).trans (hfin.low.mono (unhide HL7).size))
        clear hfin hbf
        go_wp2_with fail
        go_ret
        exact ⟨rfl, unhide HL8⟩
theorem valueSame_walk {H : Type} {enc : TypeId × Value → H} {base b0 : Nat} {spare : Nat → Bool} {held : Bool} {r : Reach} {va vb : Value} {d1 d2 : DataW H} {p1 p2 : List MemPlace} (w : World)
    (hva : Value.okWide Tryd.prog w r b0 24 va) (hda : DataW.Trod enc Tryd.prog w base spare held 24 va d1 p1) (hvb : Value.okWide Tryd.prog w r b0 24 vb) (hdb : DataW.Trod enc Tryd.prog w base spare held 24 vb d2 p2)
    (k1 : ByteArray) (w1 : k1.size ≤ maxLen) (k2 : ByteArray) (w2 : k2.size ≤ maxLen) (nb : Bool) (hw : WD w) :
    Calls Tryd.prog 7 #[va, vb, .agg #[.string k1, .string k2], .bool nb] w fun e w' => e = .returned (.bool true) ∧ Below w.heap.size w w' := by
  obtain ⟨s, hs, _, hsn, hsz⟩ := open_state hva hda
  obtain ⟨t, ht, _, htn, htz⟩ := open_state hvb hdb
  cases nb
  · exact vsame_far hs ht hsn htn hsz htz k1 k2 w1 hw
  · exact vsame_near hs ht hsn htn hsz htz k1 k2 w1 hw
end Go.Proofs.YthchnfgokkcepaaDoor
