/- The walk of MethodCalls. -/
import Derived.Test.YtfehpjmjchdkgaaDoorMResW
import Derived.Test.YtfehpjmjchdkgaaDoorMTidy
import Derived.Test.YtfehpjmjchdkgaaDoorMRefCheck
import Derived.Sort.AtCall
namespace Go.Proofs.YtfehpjmjchdkgaaDoor
open Go.RowKit
set_option linter.unusedVariables false
set_option maxRecDepth 100000

theorem mc_text_len {c : MC} (h : c.check = 0) (hc : I64 c.op) (hn : I64 c.n) : c.text.length ≤ 1099511627776 := by
  have h1 := MC.may_len ⟨h, hn⟩
  have h2 := Codec.enc_short (max c.op 0).toNat (by have := hc.2; omega)
  have h3 := Codec.enc_short c.a.length (by omega)
  have h5 := Codec.enc_short c.b.length (by omega)
  have h4 := Codec.enc_short (Codec.fold c.n) (Codec.fold_lt c.n hn.1 hn.2)
  simp only [MC.text, Codec.encS, List.length_append]
  omega
/- Two stores into a box, in either order. -/
theorem set12 {w W : World} {q : Nat} {a b c d : Value} {t : TypeId} (hq : W.heap[q]? = some (.cells #[a, b, c, d] t (0, 0))) (hl : Below q w W) (x y : ByteArray) :
    ((((W.drew.setCell ⟨q, 1, none⟩ (.string x)).setCell ⟨q, 2, none⟩ (.string y)).heap[q]? = some (.cells #[a, .string x, .string y, d] t (0, 0))) ∧ Below q w ((W.drew.setCell ⟨q, 1, none⟩ (.string x)).setCell ⟨q, 2, none⟩ (.string y))) ∧
    ((((W.drew.setCell ⟨q, 2, none⟩ (.string y)).setCell ⟨q, 1, none⟩ (.string x)).heap[q]? = some (.cells #[a, .string x, .string y, d] t (0, 0))) ∧ Below q w ((W.drew.setCell ⟨q, 2, none⟩ (.string y)).setCell ⟨q, 1, none⟩ (.string x))) := by
  have hq' : W.drew.heap[q]? = some (.cells #[a, b, c, d] t (0, 0)) := hq
  refine ⟨⟨?_, (hl.drew.setCell (Nat.le_refl _) _).setCell (Nat.le_refl _) _⟩, ⟨?_, (hl.drew.setCell (Nat.le_refl _) _).setCell (Nat.le_refl _) _⟩⟩
  · have h1 := heap_setCell_same _ q 1 _ _ (.string x) hq'
    have h2 := heap_setCell_same _ q 2 _ _ (.string y) h1
    simpa [Array.setIfInBounds] using h2
  · have h1 := heap_setCell_same _ q 2 _ _ (.string y) hq'
    have h2 := heap_setCell_same _ q 1 _ _ (.string x) h1
    simpa [Array.setIfInBounds] using h2

set_option maxHeartbeats 12800000 in
theorem methodCalls_no (a : Int) (wa : (Lit.int .i64 a).wf = true) (s : ByteArray) (ws : s.size ≤ maxLen) (t : ByteArray) (wt : t.size ≤ maxLen) (n : Int) (wn : (Lit.int .i64 n).wf = true) (w : World) (hw : MD w) :
    Calls Tryd.prog 3 #[.agg #[.int .i64 a, .string s, .string t, .int .i64 n], .bool false] w fun e w' => e = .returned (.bool true) ∧ Below w.heap.size w w' := by
  have ha : I64 a := bounds_i64 wa
  have hn : I64 n := bounds_i64 wn
  have hp := hw.pos
  have HP := hide hp
  have HCA := hide (fun (wy : World) => cut_any s 28 wy ws)
  have HCB := hide (fun (wy : World) => cut_any t 28 wy wt)
  have e28 : ((28 : Nat) : Int) = 28 := rfl
  rw [e28] at HCA HCB
  obtain ⟨x, hx⟩ : ∃ x, s.data.toList.take 28 = x := ⟨_, rfl⟩
  have hxl : x.length ≤ 28 := by rw [← hx]; simp; omega
  rw [hx] at HCA
  obtain ⟨y, hy⟩ : ∃ y, t.data.toList.take 28 = y := ⟨_, rfl⟩
  have hyl : y.length ≤ 28 := by rw [← hy]; simp; omega
  rw [hy] at HCB
  have HAW := hide (fun (w1 : World) (hb : Below w.heap.size w w1) => mawake_any (hw.later hb))
  have HMD := hide (fun (w1 : World) (hb : Below w.heap.size w w1) => hw.later hb)
  obtain ⟨W0, hW0⟩ : ∃ W0, w.alloc (.cells #[.int .i64 a, .string s, .string t, .int .i64 n] 24) = W0 := ⟨_, rfl⟩
  have hx0 : W0.heap[w.heap.size]? = some (.cells #[.int .i64 a, .string s, .string t, .int .i64 n] 24 (0, 0)) := by rw [← hW0]; exact heap_alloc_new w _
  have hl0 : Below w.heap.size w W0 := by rw [← hW0]; exact under_box _
  have HS12 := hide (set12 hx0 hl0 (S x) (S y))
  obtain ⟨b0, b1, b2, b3⟩ := heap_cells4 hx0
  have bf := fun j => block_frozen hx0 j
  have HW0 := hide hW0
  clear hx hy hW0 hx0 hl0 e28 wa wn ws wt hp
  go_enter Tryd.func3, Tryd.ntmps3
  go_upto_region 1 with fail
  rw [unhide HW0]
  clear HW0
  go_cut [] (fun wx => wx.heap[w.heap.size]? = some (.cells #[.int .i64 a, .string (S x), .string (S y), .int .i64 n] 24 (0, 0)) ∧ Below w.heap.size w wx)
  case first =>
    go_region_with (first
      | (go_at_call_has 6 (Value.string s); refine (unhide HCA _).mono ?_; rintro e w2 ⟨rfl, hw2⟩; subst hw2)
      | (go_at_call 6; refine (unhide HCB _).mono ?_; rintro e w2 ⟨rfl, hw2⟩; subst hw2)
      | fail)
    all_goals go_wp2_with fail
    all_goals go_meet
    all_goals (first | exact (unhide HS12).1 | exact (unhide HS12).2)
  case rest =>
  obtain ⟨hWq, hWl⟩ := hcut
  clear b0 b1 b2 b3 bf HS12 HCA HCB
  obtain ⟨W, hWW⟩ : ∃ W, wc = W := ⟨_, rfl⟩
  subst hWW
  obtain ⟨V, hV⟩ : ∃ V : MC, V = ⟨a, x, y, n⟩ := ⟨_, rfl⟩
  have hvl : V.a.length ≤ maxLen ∧ V.b.length ≤ maxLen := by rw [hV]; unfold maxLen; dsimp only; omega
  have hVo : I64 V.op := by rw [hV]; exact ha
  have hVn : I64 V.n := by rw [hV]; exact hn
  have hpair : a = V.op ∧ x = V.a ∧ y = V.b ∧ n = V.n := by rw [hV]; exact ⟨rfl, rfl, rfl, rfl⟩
  obtain ⟨g1, g2, g3, g4⟩ := hpair
  rw [g1, g2, g3, g4] at hWq
  clear hV g1 g2 g3 g4 ha hn hxl hyl
  have HCK := hide (fun (w1 : World) (hb : Below w.heap.size w w1) => mcheck_any (hw.later hb) V hvl.1 hvl.2)
  have HRK := hide (fun (w1 : World) => rcheck12_any (w := w1) V hvl.1 hvl.2)
  have HTO := hide (fun (w1 : World) => mtold_any (w := w1) V)
  have HPU0 : Hid (V.check = 0 → ∀ (w1 : World) (q : Nat), OutAt w1 q [] → Calls Tryd.prog 13 #[mcV V, .pointer (some ⟨q, 0, none⟩)] w1 fun e w' => e = .returned (.tuple #[]) ∧ OutAt w' q V.text ∧ Step q w1 w') := fun h w1 q ho => by
    have hl := MC.may_len ⟨h, hVn⟩
    have := mput_any V ho (by simp) hVo hVn (by omega) (by omega)
    rwa [List.nil_append] at this
  have HTX0 : Hid (V.check = 0 → ∀ (w1 : World), Calls Tryd.prog 17 #[mcV V] w1 fun e w' => e = .returned (.string (S V.text)) ∧ Below w1.heap.size w1 w') := fun h w1 => by
    have hl := MC.may_len ⟨h, hVn⟩
    exact rtext12_any V hVo hVn (by omega) (by omega)
  have HRE0 : Hid (V.check = 0 → ∀ (w1 : World) (q : Nat), MD w1 → InAt w1 q (V.text, 0) → q ≠ 0 → q < w1.heap.size → Calls Tryd.prog 16 #[.pointer (some ⟨q, 0, none⟩)] w1 fun e w' => e = .returned (mcV V) ∧ InAt w' q ([], 0) ∧ But q w1.heap.size w1 w') := fun h w1 q h1 h2 h3 h4 => by
    have := mread_any h1 h2 h3 h4
    have hb := rc_back h hVn
    rwa [hb.1, hb.2] at this
  have HEN := hide (fun (w1 : World) (q : Nat) (h1 : InAt w1 q ([], 0)) => end_any q ([], 0) w1 h1)
  simp only [end_empty] at HEN
  have HBL0 : Hid (V.check = 0 → V.text.length ≤ 1099511627776) := fun h => mc_text_len h hVo hVn
  obtain ⟨vo, va, vb, vn⟩ := V
  have HVA : Hid (mcV ⟨vo, va, vb, vn⟩ = .agg #[.int .i64 vo, .string (S va), .string (S vb), .int .i64 vn]) := rfl
  dsimp only at hWq hvl hVo hVn
  rw [unhide HVA] at HCK HRK HPU0 HTX0 HRE0 HTO
  generalize MC.check ⟨vo, va, vb, vn⟩ = ck at *
  generalize MC.text ⟨vo, va, vb, vn⟩ = B0 at *
  have hee : (ck == ck) = true := by simp
  have hne : (ck != ck) = false := by simp
  have p0 : ∀ w1, Bm wc w1 → w1.cell? ⟨w.heap.size, 0, none⟩ = some (.int .i64 vo) := fun w1 h => (h.cells4 hWq).1
  have p1 : ∀ w1, Bm wc w1 → w1.cell? ⟨w.heap.size, 1, none⟩ = some (.string (S va)) := fun w1 h => (h.cells4 hWq).2.1
  have p2 : ∀ w1, Bm wc w1 → w1.cell? ⟨w.heap.size, 2, none⟩ = some (.string (S vb)) := fun w1 h => (h.cells4 hWq).2.2.1
  have p3 : ∀ w1, Bm wc w1 → w1.cell? ⟨w.heap.size, 3, none⟩ = some (.int .i64 vn) := fun w1 h => (h.cells4 hWq).2.2.2
  have hst : Bm wc wc.drew := (Below.refl _ _).drew
  have HLOW : Hid (∀ w1, Bm wc w1 → Below w.heap.size w w1) := fun w1 h => hWl.trans (h.low.mono hWl.size)
  have HWQ := hide hWq
  clear hWq hWl hvl hVo hVn hw
  go_wp2_with fail
  refine wp_region_held_drew (S := fun w' => Bm wc w') (by kernel_rfl) ?_ (fun hHeld => ?_)
  · exact hst
  refine wpAnyH_ready (rs := [0]) (by kernel_rfl) (by simp) ?_
  refine AllReadyH.cons rfl (fun K hK => ?_) AllReadyH.nil
  go_simp
  (go_at_call 9; refine (unhide HAW _ (unhide HLOW _ (by assumption))).mono ?_; rintro e wa ⟨rfl, hba⟩)
  refine hK.out _ _ ?_ (fun hHeld => ?_)
  · exact Bm.below (by assumption) hba
  clear hK K
  try simp only [Act.put, List.setIfInBounds_toArray, List.set_cons_zero, List.set_cons_succ]
  refine wpAnyH_take (i := 1) (oi := { dst := some 21, op := _, type := _, pos := _, after := _, guard := _ }) (v := ?_) rfl (by kernel_rfl) (by kernel_rfl) (by kernel_rfl) (fun _ _ _ h => h) (Or.inl ⟨by kernel_rfl, ?_⟩) (by assumption) ?_
  rotate_left
  · intro w hSw; (try dsimp only at hSw); go_simp; try (with_reducible rfl)
  try simp only [Act.put, List.setIfInBounds_toArray, List.set_cons_zero, List.set_cons_succ]
  refine wpAnyH_take (i := 2) (oi := { dst := some 22, op := _, type := _, pos := _, after := _, guard := _ }) (v := ?_) rfl (by kernel_rfl) (by kernel_rfl) (by kernel_rfl) (fun _ _ _ h => h) (Or.inl ⟨by kernel_rfl, ?_⟩) (by assumption) ?_
  rotate_left
  · intro w hSw; (try dsimp only at hSw); go_simp; try (with_reducible rfl)
  try simp only [Act.put, List.setIfInBounds_toArray, List.set_cons_zero, List.set_cons_succ]
  refine wpAnyH_take (i := 3) (oi := { dst := some 23, op := _, type := _, pos := _, after := _, guard := _ }) (v := ?_) rfl (by kernel_rfl) (by kernel_rfl) (by kernel_rfl) (fun _ _ _ h => h) (Or.inl ⟨by kernel_rfl, ?_⟩) (by assumption) ?_
  rotate_left
  · intro w hSw; (try dsimp only at hSw); go_simp; try (with_reducible rfl)
  try simp only [Act.put, List.setIfInBounds_toArray, List.set_cons_zero, List.set_cons_succ]
  refine wpAnyH_take (i := 5) (oi := { dst := some 25, op := _, type := _, pos := _, after := _, guard := _ }) (v := ?_) rfl (by kernel_rfl) (by kernel_rfl) (by kernel_rfl) (fun _ _ _ h => h) (Or.inl ⟨by kernel_rfl, ?_⟩) (by assumption) ?_
  rotate_left
  · intro w hSw; (try dsimp only at hSw); go_simp; try (with_reducible rfl)
  try simp only [Act.put, List.setIfInBounds_toArray, List.set_cons_zero, List.set_cons_succ]
  refine wpAnyH_ready (rs := [4]) (by kernel_rfl) (by simp) ?_
  refine AllReadyH.cons rfl (fun K hK => ?_) AllReadyH.nil
  go_simp
  (go_at_call 10; refine (unhide HCK _ (unhide HLOW _ (by assumption))).mono ?_; rintro e wb ⟨rfl, hbb⟩)
  refine hK.out _ _ ?_ (fun hHeld => ?_)
  · exact Bm.below (by assumption) hbb
  clear hK K
  try simp only [Act.put, List.setIfInBounds_toArray, List.set_cons_zero, List.set_cons_succ]
  refine wpAnyH_ready (rs := [6]) (by kernel_rfl) (by simp) ?_
  refine AllReadyH.cons rfl (fun K hK => ?_) AllReadyH.nil
  go_simp
  (go_at_call 12; refine (unhide HTO _).mono ?_; rintro e wt ⟨rfl, hbt⟩)
  refine hK.out _ _ ?_ (fun hHeld => ?_)
  · exact Bm.below (by assumption) hbt
  clear hK K
  try simp only [Act.put, List.setIfInBounds_toArray, List.set_cons_zero, List.set_cons_succ]
  refine wpAnyH_ready (rs := [7]) (by kernel_rfl) (by simp) ?_
  refine AllReadyH.cons rfl (fun K hK => ?_) AllReadyH.nil
  go_simp
  (go_at_call 11; refine (unhide HRK _).mono ?_; rintro e wd ⟨rfl, hbd⟩)
  refine hK.out _ _ ?_ (fun hHeld => ?_)
  · exact Bm.below (by assumption) hbd
  clear hK K
  try simp only [Act.put, List.setIfInBounds_toArray, List.set_cons_zero, List.set_cons_succ]
  refine wpAnyH_take (i := 8) (oi := { dst := some 28, op := _, type := _, pos := _, after := _, guard := _ }) (v := ?_) rfl (by kernel_rfl) (by kernel_rfl) (by kernel_rfl) (fun _ _ _ h => h) (Or.inl ⟨by kernel_rfl, ?_⟩) (by assumption) ?_
  rotate_left
  · intro w hSw; (try dsimp only at hSw); go_simp; try (with_reducible rfl)
  try simp only [Act.put, List.setIfInBounds_toArray, List.set_cons_zero, List.set_cons_succ]
  refine wpAnyH_take (i := 9) (oi := { dst := some 29, op := _, type := _, pos := _, after := _, guard := _ }) (v := ?_) rfl (by kernel_rfl) (by kernel_rfl) (by kernel_rfl) (fun _ _ _ h => h) (Or.inl ⟨by kernel_rfl, ?_⟩) (by assumption) ?_
  rotate_left
  · intro w hSw; (try dsimp only at hSw); go_simp; try (with_reducible rfl)
  try simp only [Act.put, List.setIfInBounds_toArray, List.set_cons_zero, List.set_cons_succ]
  refine wpAnyH_take (i := 10) (oi := { dst := some 30, op := _, type := _, pos := _, after := _, guard := _ }) (v := ?_) rfl (by kernel_rfl) (by kernel_rfl) (by kernel_rfl) (fun _ _ _ h => h) (Or.inl ⟨by kernel_rfl, ?_⟩) (by assumption) ?_
  rotate_left
  · intro w hSw; (try dsimp only at hSw); go_simp; try (with_reducible rfl)
  try simp only [Act.put, List.setIfInBounds_toArray, List.set_cons_zero, List.set_cons_succ]
  refine wpAnyH_take (i := 11) (oi := { dst := some 31, op := _, type := _, pos := _, after := _, guard := _ }) (v := ?_) rfl (by kernel_rfl) (by kernel_rfl) (by kernel_rfl) (fun _ _ _ h => h) (Or.inl ⟨by kernel_rfl, ?_⟩) (by assumption) ?_
  rotate_left
  · intro w hSw; (try dsimp only at hSw); go_simp; try (with_reducible rfl)
  try simp only [Act.put, List.setIfInBounds_toArray, List.set_cons_zero, List.set_cons_succ]
  refine wpAnyH_take (i := 12) (oi := { dst := some 32, op := _, type := _, pos := _, after := _, guard := _ }) (v := ?_) rfl (by kernel_rfl) (by kernel_rfl) (by kernel_rfl) (fun _ _ _ h => h) (Or.inl ⟨by kernel_rfl, ?_⟩) (by assumption) ?_
  rotate_left
  · intro w hSw; (try dsimp only at hSw); go_simp; try (with_reducible rfl)
  try simp only [Act.put, List.setIfInBounds_toArray, List.set_cons_zero, List.set_cons_succ]
  refine wpAnyH_take (i := 13) (oi := { dst := some 33, op := _, type := _, pos := _, after := _, guard := _ }) (v := undef) rfl (by kernel_rfl) (by kernel_rfl) (by kernel_rfl) (fun _ _ _ h => h) (Or.inr ⟨by kernel_rfl, rfl⟩) (by assumption) ?_
  try simp only [Act.put, List.setIfInBounds_toArray, List.set_cons_zero, List.set_cons_succ]
  refine wpAnyH_take (i := 14) (oi := { dst := some 34, op := _, type := _, pos := _, after := _, guard := _ }) (v := undef) rfl (by kernel_rfl) (by kernel_rfl) (by kernel_rfl) (fun _ _ _ h => h) (Or.inr ⟨by kernel_rfl, rfl⟩) (by assumption) ?_
  try simp only [Act.put, List.setIfInBounds_toArray, List.set_cons_zero, List.set_cons_succ]
  refine wpAnyH_take (i := 15) (oi := { dst := some 35, op := _, type := _, pos := _, after := _, guard := _ }) (v := undef) rfl (by kernel_rfl) (by kernel_rfl) (by kernel_rfl) (fun _ _ _ h => h) (Or.inr ⟨by kernel_rfl, rfl⟩) (by assumption) ?_
  try simp only [Act.put, List.setIfInBounds_toArray, List.set_cons_zero, List.set_cons_succ]
  refine wpAnyH_take (i := 16) (oi := { dst := some 36, op := _, type := _, pos := _, after := _, guard := _ }) (v := ?_) rfl (by kernel_rfl) (by kernel_rfl) (by kernel_rfl) (fun _ _ _ h => h) (Or.inl ⟨by kernel_rfl, ?_⟩) (by assumption) ?_
  rotate_left
  · intro w hSw; (try dsimp only at hSw); go_simp; try (with_reducible rfl)
  try simp only [Act.put, List.setIfInBounds_toArray, List.set_cons_zero, List.set_cons_succ]
  refine wpAnyH_take (i := 17) (oi := { dst := some 37, op := _, type := _, pos := _, after := _, guard := _ }) (v := ?_) rfl (by kernel_rfl) (by kernel_rfl) (by kernel_rfl) (fun _ _ _ h => h) (Or.inl ⟨by kernel_rfl, ?_⟩) (by assumption) ?_
  rotate_left
  · intro w hSw; (try dsimp only at hSw); go_simp; try (with_reducible rfl)
  try simp only [Act.put, List.setIfInBounds_toArray, List.set_cons_zero, List.set_cons_succ]
  refine wpAnyH_done (by kernel_rfl) ?_ _
  have hbm : Bm wc wd := by assumption
  have HBM := hide hbm
  have a0 := p0 _ hbm
  have a1 := p1 _ hbm
  have a2 := p2 _ hbm
  have a3 := p3 _ hbm
  clear hst hbm p0 p1 p2 p3
  by_cases hck : ck = 0
  · subst hck
    have HPU := hide (unhide HPU0 rfl)
    have HTX := hide (unhide HTX0 rfl)
    have HRE := hide (unhide HRE0 rfl)
    have HBL := hide (unhide HBL0 rfl)
    clear HPU0 HTX0 HRE0 HBL0 hee hne
    obtain ⟨B, hB⟩ : ∃ B, B0 = B := ⟨_, rfl⟩
    rw [hB] at HPU HTX HRE HBL
    clear hB
    have hss : ((S B).toList == (S B).toList) = true := by simp
    go_wp2_with fail
    refine (unhide HCK _ (unhide HLOW _ (unhide HBM))).mono ?_
    rintro e we ⟨rfl, hbe⟩
    have HB5 := hide ((unhide HBM).below hbe)
    clear hbe a0 a1 a2 a3 HCK HRK
    have hq5 := ((unhide HB5).low.block _ (block_lt (unhide HWQ))).trans (unhide HWQ)
    obtain ⟨a0, a1, a2, a3⟩ := heap_cells4 hq5
    have HQ5 := hide hq5
    have hlt5 := block_lt hq5
    have HOA := hide (OutAt.new we)
    have HPU1 := hide (unhide HPU _ _ (unhide HOA))
    clear hq5 HPU
    go_wp2_with fail
    refine (unhide HPU1).mono ?_
    rintro e w7 ⟨rfl, ho7, hs7⟩
    have hb57 : Below we.heap.size we w7 := (under_box _).trans (hs7.below (unhide HOA) (Nat.le_refl _))
    have HB7 := hide ((unhide HB5).below hb57)
    have HQ7 := hide ((hb57.block _ (block_lt (unhide HQ5))).trans (unhide HQ5))
    have HO7 := hide ho7
    have HT7 := hide (text_any _ _ w7 ho7)
    have HRD := hide (read_any B w7 (unhide HBL))
    clear hb57 hs7 ho7 HQ5 HOA HPU1 a0 a1 a2 a3 hlt5
    go_wp2_with fail
    refine (unhide HT7).mono ?_
    rintro e wt ⟨rfl, hwt⟩
    subst hwt
    go_wp2_with fail
    refine (unhide HRD).mono ?_
    rintro e w8 ⟨rfl, hi8, hb8, hz8⟩
    obtain ⟨q, hq⟩ : ∃ q, wt.heap.size = q := ⟨_, rfl⟩
    have HB8 := hide ((unhide HB7).below hb8)
    have HQL : Hid (q < w8.heap.size ∧ q ≠ 0) := ⟨by omega, by have h1 := (unhide HLOW _ (unhide HB7)).size; have h2 := unhide HP; omega⟩
    rw [hq] at hi8
    have HRE8 := hide (unhide HRE w8 q (unhide HMD _ (unhide HLOW _ (unhide HB8))) hi8 (unhide HQL).2 (unhide HQL).1)
    have HB78 : Hid (Below wt.heap.size wt w8) := hb8
    rw [hq]
    have HQQ := hide hq
    clear hi8 hb8 hz8 HRE HRD HT7 hq
    go_wp2_with fail
    refine (unhide HRE8).mono ?_
    rintro e w9 ⟨rfl, hi9, hb9⟩
    obtain ⟨X, hX⟩ : ∃ X : Obj, X = .cells #[.int .i64 vo, .string (S va), .string (S vb), .int .i64 vn] 24 (0, 0) := ⟨_, rfl⟩
    obtain ⟨W2, hW2⟩ : ∃ W2, w9.alloc X = W2 := ⟨_, rfl⟩
    have hX2 : W2.heap[w9.heap.size]? = some X := by rw [← hW2]; exact heap_alloc_new w9 X
    rw [hX] at hX2
    have hi2 : InAt W2 q ([], 0) := by rw [← hW2]; exact hi9.later (under_box X)
    have hqn : w9.heap.size ≠ q := by have := hi9.lt; omega
    have HB72 : Hid (Below wt.heap.size wt W2) := ((unhide HB78).trans (hb9.below (by have := unhide HQQ; omega) (unhide HB78).size)).trans (by rw [← hW2]; exact (under_box X).mono (by have h1 := (unhide HB78).size; have h2 := hb9.size; omega))
    have HALL : Hid (∀ w1, Mn W2 q ([], 0) w1 → Below wt.heap.size wt w1) := fun w1 h => (unhide HB72).trans (h.but.below (by have := unhide HQQ; omega) (unhide HB72).size)
    have HC7 : Hid (∀ w1, Mn W2 q ([], 0) w1 → w1.heap[w.heap.size]? = some (.cells #[.int .i64 vo, .string (S va), .string (S vb), .int .i64 vn] 24 (0, 0))) := fun w1 h => ((unhide HALL _ h).block _ (block_lt (unhide HQ7))).trans (unhide HQ7)
    have q0 : ∀ w1, Mn W2 q ([], 0) w1 → w1.cell? ⟨w.heap.size, 0, none⟩ = some (.int .i64 vo) := fun w1 h => (heap_cells4 (unhide HC7 _ h)).1
    have q1 : ∀ w1, Mn W2 q ([], 0) w1 → w1.cell? ⟨w.heap.size, 1, none⟩ = some (.string (S va)) := fun w1 h => (heap_cells4 (unhide HC7 _ h)).2.1
    have q2 : ∀ w1, Mn W2 q ([], 0) w1 → w1.cell? ⟨w.heap.size, 2, none⟩ = some (.string (S vb)) := fun w1 h => (heap_cells4 (unhide HC7 _ h)).2.2.1
    have q3 : ∀ w1, Mn W2 q ([], 0) w1 → w1.cell? ⟨w.heap.size, 3, none⟩ = some (.int .i64 vn) := fun w1 h => (heap_cells4 (unhide HC7 _ h)).2.2.2
    have x0 : ∀ w1, Mn W2 q ([], 0) w1 → w1.cell? ⟨w9.heap.size, 0, none⟩ = some (.int .i64 vo) := fun w1 h => (heap_cells4 (h.heap hX2 hqn)).1
    have x1 : ∀ w1, Mn W2 q ([], 0) w1 → w1.cell? ⟨w9.heap.size, 1, none⟩ = some (.string (S va)) := fun w1 h => (heap_cells4 (h.heap hX2 hqn)).2.1
    have x2 : ∀ w1, Mn W2 q ([], 0) w1 → w1.cell? ⟨w9.heap.size, 2, none⟩ = some (.string (S vb)) := fun w1 h => (heap_cells4 (h.heap hX2 hqn)).2.2.1
    have x3 : ∀ w1, Mn W2 q ([], 0) w1 → w1.cell? ⟨w9.heap.size, 3, none⟩ = some (.int .i64 vn) := fun w1 h => (heap_cells4 (h.heap hX2 hqn)).2.2.2
    have HTT : Hid (∀ w1, Mn W2 q ([], 0) w1 → Calls Tryd.prog 15 #[.pointer (some ⟨we.heap.size, 0, none⟩)] w1 fun e w' => e = .returned (.string (S B)) ∧ w' = w1) := fun w1 h => text_any _ _ w1 ((unhide HO7).later (unhide HALL _ h)).1
    have HEE : Hid (∀ w1, Mn W2 q ([], 0) w1 → Calls Tryd.prog 18 #[.pointer (some ⟨q, 0, none⟩)] w1 fun e w' => e = .returned (.int .i64 0) ∧ InAt w' q ([], 0) ∧ But q w1.heap.size w1 w') := fun w1 h => unhide HEN w1 q h.inn
    have hst2 : Mn W2 q ([], 0) W2.drew := Mn.start hi2
    have HFIN0 : Hid (∀ w1, Mn W2 q ([], 0) w1 → Below w.heap.size w w1) := fun w1 h => (unhide HLOW _ (unhide HB7)).trans ((unhide HALL _ h).mono (unhide HLOW _ (unhide HB7)).size)
    have HW2 := hide hW2
    have HX := hide hX
    clear hX hW2 hX2 hi2 hqn HB72 HALL HRE8 HB78 hi9 hb9 HB8 HB7 HQ7 HO7 HEN HQL HBM HB5 HWQ HP HAW HC7
    go_wp2_with fail
    rw [← unhide HX, unhide HW2]
    clear HX HW2
    go_region_held3 (fun w' => Mn W2 q ([], 0) w') (with_reducible (first | exact hst2 | (refine Mn.below ?_ (by assumption) <;> assumption) | (refine Mn.step ?_ (by assumption) (by assumption) <;> assumption) | assumption))
      (first
        | (go_at_call 15; refine (unhide HTT _ (by assumption)).mono ?_; rintro e wx ⟨rfl, hwx⟩; subst hwx)
        | (go_at_call 12; refine (unhide HTO _).mono ?_; rintro e wv ⟨rfl, hbv⟩)
        | (go_at_call 17; refine (unhide HTX _).mono ?_; rintro e wy ⟨rfl, hby⟩)
        | (go_at_call 18; refine (unhide HEE _ (by assumption)).mono ?_; rintro e wz ⟨rfl, hiz, hbz⟩)
        | fail)
    all_goals
      have HFIN := hide (unhide HFIN0 _ (by assumption))
      go_wp2_with fail
      go_ret
      exact ⟨rfl, unhide HFIN⟩
  · have ec : (ck != 0) = true := by rw [bne_iff_ne]; exact hck
    clear hck HPU0 HTX0 HRE0 HBL0
    go_wp2_with fail
    refine (unhide HCK _ (unhide HLOW _ (unhide HBM))).mono ?_
    rintro e we ⟨rfl, hbe⟩
    have HB5 := hide (unhide HLOW _ ((unhide HBM).below hbe))
    clear hbe
    go_wp2_with fail
    go_ret
    exact ⟨rfl, unhide HB5⟩

set_option maxHeartbeats 12800000 in
theorem methodCalls_yes (a : Int) (wa : (Lit.int .i64 a).wf = true) (s : ByteArray) (ws : s.size ≤ maxLen) (t : ByteArray) (wt : t.size ≤ maxLen) (n : Int) (wn : (Lit.int .i64 n).wf = true) (w : World) (hw : MD w) :
    Calls Tryd.prog 3 #[.agg #[.int .i64 a, .string s, .string t, .int .i64 n], .bool true] w fun e w' => e = .returned (.bool true) ∧ Below w.heap.size w w' := by
  have ha : I64 a := bounds_i64 wa
  have hn : I64 n := bounds_i64 wn
  have hp := hw.pos
  have HP := hide hp
  have HCA := hide (fun (wy : World) => cut_any s 28 wy ws)
  have HCB := hide (fun (wy : World) => cut_any t 28 wy wt)
  have e28 : ((28 : Nat) : Int) = 28 := rfl
  rw [e28] at HCA HCB
  obtain ⟨x, hx⟩ : ∃ x, s.data.toList.take 28 = x := ⟨_, rfl⟩
  have hxl : x.length ≤ 28 := by rw [← hx]; simp; omega
  rw [hx] at HCA
  obtain ⟨y, hy⟩ : ∃ y, t.data.toList.take 28 = y := ⟨_, rfl⟩
  have hyl : y.length ≤ 28 := by rw [← hy]; simp; omega
  rw [hy] at HCB
  have HAW := hide (fun (w1 : World) (hb : Below w.heap.size w w1) => mawake_any (hw.later hb))
  have HMD := hide (fun (w1 : World) (hb : Below w.heap.size w w1) => hw.later hb)
  obtain ⟨W0, hW0⟩ : ∃ W0, w.alloc (.cells #[.int .i64 a, .string s, .string t, .int .i64 n] 24) = W0 := ⟨_, rfl⟩
  have hx0 : W0.heap[w.heap.size]? = some (.cells #[.int .i64 a, .string s, .string t, .int .i64 n] 24 (0, 0)) := by rw [← hW0]; exact heap_alloc_new w _
  have hl0 : Below w.heap.size w W0 := by rw [← hW0]; exact under_box _
  have HS12 := hide (set12 hx0 hl0 (S x) (S y))
  obtain ⟨b0, b1, b2, b3⟩ := heap_cells4 hx0
  have bf := fun j => block_frozen hx0 j
  have HW0 := hide hW0
  have HTI := hide (fun (w1 : World) => mtidy_any (w := w1) a (S x) (S y) n ha hn (by rw [S_size]; unfold maxLen; omega) (by rw [S_size]; unfold maxLen; omega))
  have HOW := hide (fun (w1 : World) (V : MC) => mown_any (w := w1) V)
  clear hx hy hW0 hx0 hl0 e28 wa wn ws wt hp
  go_enter Tryd.func3, Tryd.ntmps3
  go_upto_region 1 with fail
  rw [unhide HW0]
  clear HW0
  go_cut [] (fun wx => wx.heap[w.heap.size]? = some (.cells #[.int .i64 a, .string (S x), .string (S y), .int .i64 n] 24 (0, 0)) ∧ Below w.heap.size w wx)
  case first =>
    go_region_with (first
      | (go_at_call_has 6 (Value.string s); refine (unhide HCA _).mono ?_; rintro e w2 ⟨rfl, hw2⟩; subst hw2)
      | (go_at_call 6; refine (unhide HCB _).mono ?_; rintro e w2 ⟨rfl, hw2⟩; subst hw2)
      | fail)
    all_goals go_wp2_with fail
    all_goals go_meet
    all_goals (first | exact (unhide HS12).1 | exact (unhide HS12).2)
  case rest =>
  obtain ⟨hWq0, hWl0⟩ := hcut
  clear b0 b1 b2 b3 bf HS12 HCA HCB
  obtain ⟨b0, b1, b2, b3⟩ := heap_cells4 hWq0
  have HQ0 := hide hWq0
  have HL0 := hide hWl0
  clear hWq0 hWl0
  go_wp2_with fail
  refine (unhide HTI _).mono ?_
  rintro e w3 ⟨V, rfl, hmay, hb3⟩
  have HOW1 := hide (unhide HOW w3 V)
  have HM := hide hmay
  have HB3 := hide hb3
  clear hmay hb3 b0 b1 b2 b3 HTI HOW
  obtain ⟨vo, va, vb, vn⟩ := V
  unfold mcV at HOW1
  dsimp only at HOW1
  go_wp2_with fail
  refine (unhide HOW1).mono ?_
  rintro e w4 ⟨rfl, hb4⟩
  have hq4 := (hb4.block _ (by have h1 := block_lt (unhide HQ0); have h2 := (unhide HB3).size; omega)).trans (((unhide HB3).block _ (block_lt (unhide HQ0))).trans (unhide HQ0))
  obtain ⟨b0, b1, b2, b3⟩ := heap_cells4 hq4
  have bf := fun j => block_frozen hq4 j
  obtain ⟨W, hW⟩ : ∃ W, put4 w4 w.heap.size (.int .i64 vo) (.string (S va)) (.string (S vb)) (.int .i64 vn) = W := ⟨_, rfl⟩
  have hWq : W.heap[w.heap.size]? = some (.cells #[.int .i64 vo, .string (S va), .string (S vb), .int .i64 vn] 24 (0, 0)) := by rw [← hW]; exact put4_heap hq4 _ _ _ _
  have hl4 : Below w.heap.size w w4 := ((unhide HL0).trans ((unhide HB3).mono (unhide HL0).size)).trans (hb4.mono (by have h1 := (unhide HL0).size; have h2 := (unhide HB3).size; omega))
  have hWl : Below w.heap.size w W := by rw [← hW]; exact ⟨hl4.os, hl4.tape, hl4.output, by rw [put4_size]; exact hl4.size, fun k hk => (put4_other w4 _ _ _ _ (by omega)).trans (hl4.block k hk)⟩
  have hmay := unhide HM
  have hvl : va.length ≤ maxLen ∧ vb.length ≤ maxLen := by
    have := MC.may_len hmay
    dsimp only at this
    unfold maxLen; omega
  have hVo : I64 vo := by
    have := MC.may_op hmay
    unfold okOp at this
    dsimp only at this
    unfold I64; omega
  have hVn : I64 vn := hmay.2
  have hc0 : MC.check ⟨vo, va, vb, vn⟩ = 0 := hmay.1
  unfold put4 at hW
  have HW := hide hW
  clear hW hl4 hq4 hb4 HOW1 HM HB3 HL0 HQ0 hmay
  have HCK := hide (fun (w1 : World) (hb : Below w.heap.size w w1) => mcheck_any (hw.later hb) ⟨vo, va, vb, vn⟩ hvl.1 hvl.2)
  have HRK := hide (fun (w1 : World) => rcheck12_any (w := w1) ⟨vo, va, vb, vn⟩ hvl.1 hvl.2)
  have HTO := hide (fun (w1 : World) => mtold_any (w := w1) ⟨vo, va, vb, vn⟩)
  have HPU0 : Hid (MC.check ⟨vo, va, vb, vn⟩ = 0 → ∀ (w1 : World) (q : Nat), OutAt w1 q [] → Calls Tryd.prog 13 #[mcV ⟨vo, va, vb, vn⟩, .pointer (some ⟨q, 0, none⟩)] w1 fun e w' => e = .returned (.tuple #[]) ∧ OutAt w' q (MC.text ⟨vo, va, vb, vn⟩) ∧ Step q w1 w') := fun h w1 q ho => by
    have hl := MC.may_len ⟨h, hVn⟩
    have := mput_any ⟨vo, va, vb, vn⟩ ho (by simp) hVo hVn (by omega) (by omega)
    rwa [List.nil_append] at this
  have HTX0 : Hid (MC.check ⟨vo, va, vb, vn⟩ = 0 → ∀ (w1 : World), Calls Tryd.prog 17 #[mcV ⟨vo, va, vb, vn⟩] w1 fun e w' => e = .returned (.string (S (MC.text ⟨vo, va, vb, vn⟩))) ∧ Below w1.heap.size w1 w') := fun h w1 => by
    have hl := MC.may_len ⟨h, hVn⟩
    exact rtext12_any ⟨vo, va, vb, vn⟩ hVo hVn (by omega) (by omega)
  have HRE0 : Hid (MC.check ⟨vo, va, vb, vn⟩ = 0 → ∀ (w1 : World) (q : Nat), MD w1 → InAt w1 q (MC.text ⟨vo, va, vb, vn⟩, 0) → q ≠ 0 → q < w1.heap.size → Calls Tryd.prog 16 #[.pointer (some ⟨q, 0, none⟩)] w1 fun e w' => e = .returned (mcV ⟨vo, va, vb, vn⟩) ∧ InAt w' q ([], 0) ∧ But q w1.heap.size w1 w') := fun h w1 q h1 h2 h3 h4 => by
    have := mread_any h1 h2 h3 h4
    have hb := rc_back h hVn
    rwa [hb.1, hb.2] at this
  have HEN := hide (fun (w1 : World) (q : Nat) (h1 : InAt w1 q ([], 0)) => end_any q ([], 0) w1 h1)
  simp only [end_empty] at HEN
  have HBL0 : Hid (MC.check ⟨vo, va, vb, vn⟩ = 0 → (MC.text ⟨vo, va, vb, vn⟩).length ≤ 1099511627776) := fun h => mc_text_len h hVo hVn
  have HVA : Hid (mcV ⟨vo, va, vb, vn⟩ = .agg #[.int .i64 vo, .string (S va), .string (S vb), .int .i64 vn]) := rfl
  rw [unhide HVA] at HCK HRK HPU0 HTX0 HRE0 HTO
  generalize MC.check ⟨vo, va, vb, vn⟩ = ck at *
  generalize MC.text ⟨vo, va, vb, vn⟩ = B0 at *
  have hee : (ck == ck) = true := by simp
  have hne : (ck != ck) = false := by simp
  have p0 : ∀ w1, Bm W w1 → w1.cell? ⟨w.heap.size, 0, none⟩ = some (.int .i64 vo) := fun w1 h => (h.cells4 hWq).1
  have p1 : ∀ w1, Bm W w1 → w1.cell? ⟨w.heap.size, 1, none⟩ = some (.string (S va)) := fun w1 h => (h.cells4 hWq).2.1
  have p2 : ∀ w1, Bm W w1 → w1.cell? ⟨w.heap.size, 2, none⟩ = some (.string (S vb)) := fun w1 h => (h.cells4 hWq).2.2.1
  have p3 : ∀ w1, Bm W w1 → w1.cell? ⟨w.heap.size, 3, none⟩ = some (.int .i64 vn) := fun w1 h => (h.cells4 hWq).2.2.2
  have hst : Bm W W.drew := (Below.refl _ _).drew
  have HLOW : Hid (∀ w1, Bm W w1 → Below w.heap.size w w1) := fun w1 h => hWl.trans (h.low.mono hWl.size)
  have HWQ := hide hWq
  clear hWq hWl hvl hVo hVn hw ha hn hxl hyl
  subst hc0
  go_wp2_with fail
  rw [unhide HW]
  clear HW b0 b1 b2 b3 bf
  go_region_held3 (fun w' => Bm W w') (with_reducible (first | exact hst | (refine Bm.below ?_ (by assumption) <;> assumption)))
    (first
      | (go_at_call 9; refine (unhide HAW _ (unhide HLOW _ (by assumption))).mono ?_; rintro e wa ⟨rfl, hba⟩)
      | (go_at_call 10; refine (unhide HCK _ (unhide HLOW _ (by assumption))).mono ?_; rintro e wb ⟨rfl, hbb⟩)
      | (go_at_call 12; refine (unhide HTO _).mono ?_; rintro e wt ⟨rfl, hbt⟩)
      | (go_at_call 11; refine (unhide HRK _).mono ?_; rintro e wd ⟨rfl, hbd⟩)
      | fail)
  all_goals
    have hbm : Bm W wb := by assumption
    have HBM := hide hbm
    have a0 := p0 _ hbm
    have a1 := p1 _ hbm
    have a2 := p2 _ hbm
    have a3 := p3 _ hbm
    clear hst hbm p0 p1 p2 p3
    have HPU := hide (unhide HPU0 (by first | rfl | trivial))
    have HTX := hide (unhide HTX0 (by first | rfl | trivial))
    have HRE := hide (unhide HRE0 (by first | rfl | trivial))
    have HBL := hide (unhide HBL0 (by first | rfl | trivial))
    clear HPU0 HTX0 HRE0 HBL0 hee hne
    obtain ⟨B, hB⟩ : ∃ B, B0 = B := ⟨_, rfl⟩
    rw [hB] at HPU HTX HRE HBL
    clear hB
    have hss : ((S B).toList == (S B).toList) = true := by simp
    go_wp2_with fail
    refine (unhide HCK _ (unhide HLOW _ (unhide HBM))).mono ?_
    rintro e we ⟨rfl, hbe⟩
    have HB5 := hide ((unhide HBM).below hbe)
    clear hbe a0 a1 a2 a3 HCK HRK
    have hq5 := ((unhide HB5).low.block _ (block_lt (unhide HWQ))).trans (unhide HWQ)
    obtain ⟨a0, a1, a2, a3⟩ := heap_cells4 hq5
    have HQ5 := hide hq5
    have hlt5 := block_lt hq5
    have HOA := hide (OutAt.new we)
    have HPU1 := hide (unhide HPU _ _ (unhide HOA))
    clear hq5 HPU
    go_wp2_with fail
    refine (unhide HPU1).mono ?_
    rintro e w7 ⟨rfl, ho7, hs7⟩
    have hb57 : Below we.heap.size we w7 := (under_box _).trans (hs7.below (unhide HOA) (Nat.le_refl _))
    have HB7 := hide ((unhide HB5).below hb57)
    have HQ7 := hide ((hb57.block _ (block_lt (unhide HQ5))).trans (unhide HQ5))
    have HO7 := hide ho7
    have HT7 := hide (text_any _ _ w7 ho7)
    have HRD := hide (read_any B w7 (unhide HBL))
    clear hb57 hs7 ho7 HQ5 HOA HPU1 a0 a1 a2 a3 hlt5
    go_wp2_with fail
    refine (unhide HT7).mono ?_
    rintro e wt ⟨rfl, hwt⟩
    subst hwt
    go_wp2_with fail
    refine (unhide HRD).mono ?_
    rintro e w8 ⟨rfl, hi8, hb8, hz8⟩
    obtain ⟨q, hq⟩ : ∃ q, wt.heap.size = q := ⟨_, rfl⟩
    have HB8 := hide ((unhide HB7).below hb8)
    have HQL : Hid (q < w8.heap.size ∧ q ≠ 0) := ⟨by omega, by have h1 := (unhide HLOW _ (unhide HB7)).size; have h2 := unhide HP; omega⟩
    rw [hq] at hi8
    have HRE8 := hide (unhide HRE w8 q (unhide HMD _ (unhide HLOW _ (unhide HB8))) hi8 (unhide HQL).2 (unhide HQL).1)
    have HB78 : Hid (Below wt.heap.size wt w8) := hb8
    rw [hq]
    have HQQ := hide hq
    clear hi8 hb8 hz8 HRE HRD HT7 hq
    go_wp2_with fail
    refine (unhide HRE8).mono ?_
    rintro e w9 ⟨rfl, hi9, hb9⟩
    obtain ⟨X, hX⟩ : ∃ X : Obj, X = .cells #[.int .i64 vo, .string (S va), .string (S vb), .int .i64 vn] 24 (0, 0) := ⟨_, rfl⟩
    obtain ⟨W2, hW2⟩ : ∃ W2, w9.alloc X = W2 := ⟨_, rfl⟩
    have hX2 : W2.heap[w9.heap.size]? = some X := by rw [← hW2]; exact heap_alloc_new w9 X
    rw [hX] at hX2
    have hi2 : InAt W2 q ([], 0) := by rw [← hW2]; exact hi9.later (under_box X)
    have hqn : w9.heap.size ≠ q := by have := hi9.lt; omega
    have HB72 : Hid (Below wt.heap.size wt W2) := ((unhide HB78).trans (hb9.below (by have := unhide HQQ; omega) (unhide HB78).size)).trans (by rw [← hW2]; exact (under_box X).mono (by have h1 := (unhide HB78).size; have h2 := hb9.size; omega))
    have HALL : Hid (∀ w1, Mn W2 q ([], 0) w1 → Below wt.heap.size wt w1) := fun w1 h => (unhide HB72).trans (h.but.below (by have := unhide HQQ; omega) (unhide HB72).size)
    have HC7 : Hid (∀ w1, Mn W2 q ([], 0) w1 → w1.heap[w.heap.size]? = some (.cells #[.int .i64 vo, .string (S va), .string (S vb), .int .i64 vn] 24 (0, 0))) := fun w1 h => ((unhide HALL _ h).block _ (block_lt (unhide HQ7))).trans (unhide HQ7)
    have q0 : ∀ w1, Mn W2 q ([], 0) w1 → w1.cell? ⟨w.heap.size, 0, none⟩ = some (.int .i64 vo) := fun w1 h => (heap_cells4 (unhide HC7 _ h)).1
    have q1 : ∀ w1, Mn W2 q ([], 0) w1 → w1.cell? ⟨w.heap.size, 1, none⟩ = some (.string (S va)) := fun w1 h => (heap_cells4 (unhide HC7 _ h)).2.1
    have q2 : ∀ w1, Mn W2 q ([], 0) w1 → w1.cell? ⟨w.heap.size, 2, none⟩ = some (.string (S vb)) := fun w1 h => (heap_cells4 (unhide HC7 _ h)).2.2.1
    have q3 : ∀ w1, Mn W2 q ([], 0) w1 → w1.cell? ⟨w.heap.size, 3, none⟩ = some (.int .i64 vn) := fun w1 h => (heap_cells4 (unhide HC7 _ h)).2.2.2
    have x0 : ∀ w1, Mn W2 q ([], 0) w1 → w1.cell? ⟨w9.heap.size, 0, none⟩ = some (.int .i64 vo) := fun w1 h => (heap_cells4 (h.heap hX2 hqn)).1
    have x1 : ∀ w1, Mn W2 q ([], 0) w1 → w1.cell? ⟨w9.heap.size, 1, none⟩ = some (.string (S va)) := fun w1 h => (heap_cells4 (h.heap hX2 hqn)).2.1
    have x2 : ∀ w1, Mn W2 q ([], 0) w1 → w1.cell? ⟨w9.heap.size, 2, none⟩ = some (.string (S vb)) := fun w1 h => (heap_cells4 (h.heap hX2 hqn)).2.2.1
    have x3 : ∀ w1, Mn W2 q ([], 0) w1 → w1.cell? ⟨w9.heap.size, 3, none⟩ = some (.int .i64 vn) := fun w1 h => (heap_cells4 (h.heap hX2 hqn)).2.2.2
    have HTT : Hid (∀ w1, Mn W2 q ([], 0) w1 → Calls Tryd.prog 15 #[.pointer (some ⟨we.heap.size, 0, none⟩)] w1 fun e w' => e = .returned (.string (S B)) ∧ w' = w1) := fun w1 h => text_any _ _ w1 ((unhide HO7).later (unhide HALL _ h)).1
    have HEE : Hid (∀ w1, Mn W2 q ([], 0) w1 → Calls Tryd.prog 18 #[.pointer (some ⟨q, 0, none⟩)] w1 fun e w' => e = .returned (.int .i64 0) ∧ InAt w' q ([], 0) ∧ But q w1.heap.size w1 w') := fun w1 h => unhide HEN w1 q h.inn
    have hst2 : Mn W2 q ([], 0) W2.drew := Mn.start hi2
    have HFIN0 : Hid (∀ w1, Mn W2 q ([], 0) w1 → Below w.heap.size w w1) := fun w1 h => (unhide HLOW _ (unhide HB7)).trans ((unhide HALL _ h).mono (unhide HLOW _ (unhide HB7)).size)
    have HW2 := hide hW2
    have HX := hide hX
    clear hX hW2 hX2 hi2 hqn HB72 HALL HRE8 HB78 hi9 hb9 HB8 HB7 HQ7 HO7 HEN HQL HBM HB5 HWQ HP HAW HC7
    go_wp2_with fail
    rw [← unhide HX, unhide HW2]
    clear HX HW2
    go_region_held3 (fun w' => Mn W2 q ([], 0) w') (with_reducible (first | exact hst2 | (refine Mn.below ?_ (by assumption) <;> assumption) | (refine Mn.step ?_ (by assumption) (by assumption) <;> assumption) | assumption))
      (first
        | (go_at_call 15; refine (unhide HTT _ (by assumption)).mono ?_; rintro e wx ⟨rfl, hwx⟩; subst hwx)
        | (go_at_call 12; refine (unhide HTO _).mono ?_; rintro e wv ⟨rfl, hbv⟩)
        | (go_at_call 17; refine (unhide HTX _).mono ?_; rintro e wy ⟨rfl, hby⟩)
        | (go_at_call 18; refine (unhide HEE _ (by assumption)).mono ?_; rintro e wz ⟨rfl, hiz, hbz⟩)
        | fail)
    all_goals
      have HFIN := hide (unhide HFIN0 _ (by assumption))
      go_wp2_with fail
      go_ret
      exact ⟨rfl, unhide HFIN⟩

theorem methodCalls_walk (a : Int) (wa : (Lit.int .i64 a).wf = true) (s : ByteArray) (ws : s.size ≤ maxLen) (t : ByteArray) (wt : t.size ≤ maxLen) (n : Int) (wn : (Lit.int .i64 n).wf = true) (b : Bool) (w : World) (hw : MD w) :
    Calls Tryd.prog 3 #[.agg #[.int .i64 a, .string s, .string t, .int .i64 n], .bool b] w fun e w' => e = .returned (.bool true) ∧ Below w.heap.size w w' := by
  cases b
  · exact methodCalls_no a wa s ws t wt n wn w hw
  · exact methodCalls_yes a wa s ws t wt n wn w hw
end Go.Proofs.YtfehpjmjchdkgaaDoor
