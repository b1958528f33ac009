/- The contract of upsets: what the table says of two steps of one type. -/
import Derived.Test.YteaiidcconggcaaDoorQSmall
import Derived.Test.YteaiidcconggcaaDoorBundleT12
import Derived.Test.YteaiidcconggcaaDoorBundleA11
namespace Go.Proofs.YteaiidcconggcaaDoor
open Go.RowKit
set_option linter.unusedVariables false
set_option maxRecDepth 100000

theorem two_heap (w : World) (A B : Obj) : ((w.alloc A).alloc B).heap[w.heap.size]? = some A ∧ ((w.alloc A).alloc B).heap[w.heap.size + 1]? = some B := by
  refine ⟨by rw [Below.heap_alloc _ _ _ (by simp)]; exact heap_alloc_new w A, ?_⟩
  have := heap_alloc_new (w.alloc A) B
  rwa [World.size_alloc] at this
theorem S_ne (p q : List UInt8) : ((S p).toList != (S q).toList) = decide (p ≠ q) := by
  have := S_eq p q
  unfold bne
  rw [this]
  by_cases h : p = q <;> simp [h]
/- The two steps' boxes, behind a call. -/
theorem boxes_on {w w1 : World} {A B : Obj} (hb : Below ((w.alloc A).alloc B).heap.size ((w.alloc A).alloc B) w1) : w1.heap[w.heap.size]? = some A ∧ w1.heap[w.heap.size + 1]? = some B ∧ Below w.heap.size w w1 :=
  ⟨(hb.block _ (by simp; omega)).trans (two_heap w A B).1, (hb.block _ (by simp)).trans (two_heap w A B).2, (under_two w A B).trans (hb.mono (under_two w A B).size)⟩
set_option maxHeartbeats 25600000 in
theorem upsets_any {w : World} (x y : Stp) (hop : okOp x.1.op) : Calls Tryd.prog 29 #[stV x, stV y] w fun e w' => e = .returned (.bool (upsM x y)) ∧ Below w.heap.size w w' := by
  have HCH := hide (fun wz : World => mchanges_any (w := wz) x.1 x.2)
  have HTX := hide (fun wz : World => textBy_any (w := wz) y)
  have HRF := hide (fun wz : World => refused_any (w := wz) y)
  have HSP := hide (fun wz : World => spends_any (w := wz) x y)
  have HWX := hide (fun wz : World => wasThere_any (w := wz) x)
  have HWY := hide (fun wz : World => wasThere_any (w := wz) y)
  have HF := hide (fun (wz w' : World) (h1 : Below w.heap.size w wz) (h2 : Below wz.heap.size wz w') => h1.trans (h2.mono h1.size))
  unfold upsM
  generalize textM y = TY at *
  generalize refM y = R at *
  generalize spendM x y = SP at *
  generalize wasM x = WX at *
  generalize wasM y = WY at *
  obtain ⟨X, hX⟩ : ∃ X, mchanges x.1.op x.1.n x.2.code = X := ⟨_, rfl⟩
  rw [hX] at HCH ⊢
  obtain ⟨⟨op, a, b, n⟩, ⟨c, t, m⟩⟩ := x
  obtain ⟨⟨op', a', b', n'⟩, ⟨c', t', m'⟩⟩ := y
  unfold stV mcV mrV at *
  dsimp only at *
  have HB := hide (fun o o' : Obj => under_two w o o')
  cases X
  · rw [if_pos rfl]
    clear HTX HRF HSP HWX HWY hX hop
    go_enter Tryd.func29, Tryd.ntmps29
    go_wp2_with fail
    refine (unhide HCH _).mono ?_
    rintro e w1 ⟨rfl, hb1⟩
    have HE := hide (unhide HF _ _ (unhide HB _ _) hb1)
    clear hb1
    go_wp2_with fail
    go_ret
    exact ⟨rfl, unhide HE⟩
  rw [if_neg (by simp)]
  have hne : ∀ o : Int, mchanges o n c = false → op ≠ o := fun o h e => by rw [← e, hX] at h; cases h
  have hcase : op = 2 ∨ op = 3 ∨ op = 5 ∨ op = 6 ∨ (op = 8 ∨ op = 9 ∨ op = 11 ∨ op = 12) ∨ op = 14 ∨ op = 16 ∨ op = 15 ∨ op = 17 := by
    have h1 := hne 1 rfl
    have h4 := hne 4 rfl
    have h7 := hne 7 rfl
    have h10 := hne 10 rfl
    have h13 := hne 13 rfl
    unfold okOp at hop
    omega
  clear hne hX hop
  rcases hcase with rfl | rfl | rfl | rfl | h8 | rfl | rfl | h15
  · rw [if_pos rfl]
    obtain ⟨E, hE⟩ : ∃ E, decide (TY = a) = E := ⟨_, rfl⟩
    have eE : ((S TY).toList == (S a).toList) = E := by rw [S_eq]; exact hE
    rw [show decide (TY ≠ a) = !E by rw [← hE]; by_cases h : TY = a <;> simp [h]]
    clear hE HRF HSP HWX HWY
    go_enter Tryd.func29, Tryd.ntmps29
    go_wp2_with fail
    refine (unhide HCH _).mono ?_
    rintro e w1 ⟨rfl, hb1⟩
    obtain ⟨HXB, HYB, hl1⟩ := boxes_on hb1
    have HLW := hide hl1
    obtain ⟨p0, p1, p2, p3, p4, p5, p6⟩ := cells7 HXB
    clear hb1 hl1 HB HCH
    go_upto_region 6 with fail
    clear p0 p1 p2 p3 p4 p5 p6
    refine regN [.val 30 (Res.plain (.agg #[.int .i64 op', .string (S a'), .string (S b'), .int .i64 n', .int .i64 c', .string (S t'), .int .i64 m']) []), .val 31 (Res.plain (.string (S TY)) []), .val 32 (Res.plain (.pointer (some ⟨w.heap.size, 0, none⟩)) []), .val 33 (Res.plain (.pointer (some ⟨w.heap.size, 1, none⟩)) []), .val 34 (Res.plain (.string (S a)) []), .val 35 (Res.plain (.bool (!E)) []), .val 4 (Res.plain (.bool (!E)) [])] (fun i => if i = 1 then [0] else if i = 3 then [2] else if i = 4 then [3] else if i = 5 then [1, 4] else if i = 6 then [5] else []) ?_ ?_ ?_ ?_ ?_ ?_ ?_ (fun i hi => ?_) ?_
    · kernel_rfl
    · rfl
    · kernel_rfl
    · kernel_rfl
    · kernel_rfl
    · kernel_rfl
    · kernel_rfl
    · have hc : i = 0 ∨ i = 1 ∨ i = 2 ∨ i = 3 ∨ i = 4 ∨ i = 5 ∨ i = 6 := by have : i < 7 := hi; omega
      clear hi
      rcases hc with rfl | rfl | rfl | rfl | rfl | rfl | rfl
      · with_reducible refine DoesN.plain (s := 30) (v := .agg #[.int .i64 op', .string (S a'), .string (S b'), .int .i64 n', .int .i64 c', .string (S t'), .int .i64 m']) ?_ ?_
        · rfl
        intro f wz K hb hd hK
        obtain ⟨p0, p1, p2, p3, p4, p5, p6⟩ := cells7 ((hb.block _ (block_lt HYB)).trans HYB)
        simp only [setN, upd, Nat.reduceAdd, Nat.reduceEqDiff, reduceIte, List.setIfInBounds_toArray, List.set_cons_zero, List.set_cons_succ] at hK ⊢
        refine wpOp_do rfl (by kernel_rfl) ?_
        unfold Oper.wp execOp
        go_simp
        exact hK _ (Below.refl _ _)
      · with_reducible refine DoesN.plain (s := 31) (v := .string (S TY)) ?_ ?_
        · rfl
        intro f wz K hb hd hK
        have e0 : f 0 = .agg #[.int .i64 op', .string (S a'), .string (S b'), .int .i64 n', .int .i64 c', .string (S t'), .int .i64 m'] := plainAt (s := 30) (cs := []) (hd 0 (by decide)) rfl
        simp only [setN, upd, Nat.reduceAdd, Nat.reduceEqDiff, reduceIte, List.setIfInBounds_toArray, List.set_cons_zero, List.set_cons_succ] at hK ⊢
        simp only [e0] at hK ⊢
        refine wpOp_do rfl (by kernel_rfl) ?_
        unfold Oper.wp execOp
        go_simp
        refine (unhide HTX _).mono ?_
        rintro e w' ⟨rfl, hb'⟩
        exact hK _ hb'
      · with_reducible refine DoesN.plain (s := 32) (v := .pointer (some ⟨w.heap.size, 0, none⟩)) ?_ ?_
        · rfl
        intro f wz K hb hd hK
        simp only [setN, upd, Nat.reduceAdd, Nat.reduceEqDiff, reduceIte, List.setIfInBounds_toArray, List.set_cons_zero, List.set_cons_succ] at hK ⊢
        refine wpOp_do rfl (by kernel_rfl) ?_
        unfold Oper.wp execOp
        go_simp
        exact hK _ (Below.refl _ _)
      · with_reducible refine DoesN.plain (s := 33) (v := .pointer (some ⟨w.heap.size, 1, none⟩)) ?_ ?_
        · rfl
        intro f wz K hb hd hK
        have e2 : f 2 = .pointer (some ⟨w.heap.size, 0, none⟩) := plainAt (s := 32) (cs := []) (hd 2 (by decide)) rfl
        simp only [setN, upd, Nat.reduceAdd, Nat.reduceEqDiff, reduceIte, List.setIfInBounds_toArray, List.set_cons_zero, List.set_cons_succ] at hK ⊢
        simp only [e2] at hK ⊢
        refine wpOp_do rfl (by kernel_rfl) ?_
        unfold Oper.wp execOp
        go_simp
        exact hK _ (Below.refl _ _)
      · with_reducible refine DoesN.plain (s := 34) (v := .string (S a)) ?_ ?_
        · rfl
        intro f wz K hb hd hK
        have e3 : f 3 = .pointer (some ⟨w.heap.size, 1, none⟩) := plainAt (s := 33) (cs := []) (hd 3 (by decide)) rfl
        obtain ⟨p0, p1, p2, p3, p4, p5, p6⟩ := cells7 ((hb.block _ (block_lt HXB)).trans HXB)
        simp only [setN, upd, Nat.reduceAdd, Nat.reduceEqDiff, reduceIte, List.setIfInBounds_toArray, List.set_cons_zero, List.set_cons_succ] at hK ⊢
        simp only [e3] at hK ⊢
        refine wpOp_do rfl (by kernel_rfl) ?_
        unfold Oper.wp execOp
        go_simp
        exact hK _ (Below.refl _ _)
      · with_reducible refine DoesN.plain (s := 35) (v := .bool (!E)) ?_ ?_
        · rfl
        intro f wz K hb hd hK
        have e1 : f 1 = .string (S TY) := plainAt (s := 31) (cs := []) (hd 1 (by decide)) rfl
        have e4 : f 4 = .string (S a) := plainAt (s := 34) (cs := []) (hd 4 (by decide)) rfl
        simp only [setN, upd, Nat.reduceAdd, Nat.reduceEqDiff, reduceIte, List.setIfInBounds_toArray, List.set_cons_zero, List.set_cons_succ] at hK ⊢
        simp only [e1, e4] at hK ⊢
        refine wpOp_do rfl (by kernel_rfl) ?_
        unfold Oper.wp execOp
        go_simp
        exact hK _ (Below.refl _ _)
      · with_reducible refine DoesN.plain (s := 4) (v := .bool (!E)) ?_ ?_
        · rfl
        intro f wz K hb hd hK
        have e5 : f 5 = .bool (!E) := plainAt (s := 35) (cs := []) (hd 5 (by decide)) rfl
        simp only [setN, upd, Nat.reduceAdd, Nat.reduceEqDiff, reduceIte, List.setIfInBounds_toArray, List.set_cons_zero, List.set_cons_succ] at hK ⊢
        simp only [e5] at hK ⊢
        refine wpOp_do rfl (by kernel_rfl) ?_
        unfold Oper.wp execOp
        go_simp
        exact hK _ (Below.refl _ _)
    · intro f wE hbE hv hp hne ho
      have h0 : f 0 = .agg #[.int .i64 op', .string (S a'), .string (S b'), .int .i64 n', .int .i64 c', .string (S t'), .int .i64 m'] := plainAt (s := 30) (cs := []) (hv 0) rfl
      have h1 : f 1 = .string (S TY) := plainAt (s := 31) (cs := []) (hv 1) rfl
      have h2 : f 2 = .pointer (some ⟨w.heap.size, 0, none⟩) := plainAt (s := 32) (cs := []) (hv 2) rfl
      have h3 : f 3 = .pointer (some ⟨w.heap.size, 1, none⟩) := plainAt (s := 33) (cs := []) (hv 3) rfl
      have h4 : f 4 = .string (S a) := plainAt (s := 34) (cs := []) (hv 4) rfl
      have h5 : f 5 = .bool (!E) := plainAt (s := 35) (cs := []) (hv 5) rfl
      have h6 : f 6 = .bool (!E) := plainAt (s := 4) (cs := []) (hv 6) rfl
      simp only [setN, Nat.reduceAdd, List.setIfInBounds_toArray, List.set_cons_zero, List.set_cons_succ]
      simp only [h0, h1, h2, h3, h4, h5, h6]
      clear h0 h1 h2 h3 h4 h5 h6
      have HE := hide (unhide HF _ _ (unhide HLW) hbE)
      clear hbE hv hp hne ho
      go_wp2_with fail
      go_ret
      exact ⟨rfl, unhide HE⟩
  · rw [if_neg (by decide), if_pos rfl]
    clear HTX HRF HSP HWX HWY
    go_enter Tryd.func29, Tryd.ntmps29
    go_wp2_with fail
    refine (unhide HCH _).mono ?_
    rintro e w1 ⟨rfl, hb1⟩
    obtain ⟨HXB, HYB, hl1⟩ := boxes_on hb1
    obtain ⟨p0, p1, p2, p3, p4, p5, p6⟩ := cells7 HXB
    obtain ⟨q0, q1, q2, q3, q4, q5, q6⟩ := cells7 HYB
    have HLW := hide hl1
    clear hb1 hl1 HB HCH HXB HYB
    go_wp2_with fail
    go_ret
    exact ⟨rfl, unhide HLW⟩
  · rw [if_neg (by decide), if_neg (by decide), if_pos rfl]
    clear HTX HSP HWX HWY
    by_cases h7 : op' = 7
    · subst h7
      go_enter Tryd.func29, Tryd.ntmps29
      go_wp2_with fail
      refine (unhide HCH _).mono ?_
      rintro e w1 ⟨rfl, hb1⟩
      obtain ⟨HXB, HYB, hl1⟩ := boxes_on hb1
      obtain ⟨p0, p1, p2, p3, p4, p5, p6⟩ := cells7 HXB
      obtain ⟨q0, q1, q2, q3, q4, q5, q6⟩ := cells7 HYB
      have HLW := hide hl1
      clear hb1 hl1 HB HCH HXB HYB
      go_wp2_with fail
      go_ret
      exact ⟨rfl, unhide HLW⟩
    by_cases h6 : op' = 6
    · subst h6
      go_enter Tryd.func29, Tryd.ntmps29
      go_wp2_with fail
      refine (unhide HCH _).mono ?_
      rintro e w1 ⟨rfl, hb1⟩
      obtain ⟨HXB, HYB, hl1⟩ := boxes_on hb1
      obtain ⟨p0, p1, p2, p3, p4, p5, p6⟩ := cells7 HXB
      obtain ⟨q0, q1, q2, q3, q4, q5, q6⟩ := cells7 HYB
      have HLW := hide hl1
      clear hb1 hl1 HB HCH HXB HYB
      go_wp2_with fail
      refine (unhide HRF _).mono ?_
      rintro e w2 ⟨rfl, hb2⟩
      have HE := hide (unhide HF _ _ (unhide HLW) hb2)
      clear hb2
      go_wp2_with fail
      go_ret
      exact ⟨by simp, unhide HE⟩
    · have e7 : (op' == 7) = false := by rw [beq_eq_false_iff_ne]; exact h7
      have e6 : (op' == 6) = false := by rw [beq_eq_false_iff_ne]; exact h6
      rw [decide_eq_false h7, decide_eq_false h6]
      go_enter Tryd.func29, Tryd.ntmps29
      go_wp2_with fail
      refine (unhide HCH _).mono ?_
      rintro e w1 ⟨rfl, hb1⟩
      obtain ⟨HXB, HYB, hl1⟩ := boxes_on hb1
      obtain ⟨p0, p1, p2, p3, p4, p5, p6⟩ := cells7 HXB
      obtain ⟨q0, q1, q2, q3, q4, q5, q6⟩ := cells7 HYB
      have HLW := hide hl1
      clear hb1 hl1 HB HCH HXB HYB
      go_wp2_with fail
      go_ret
      exact ⟨rfl, unhide HLW⟩
  · rw [if_neg (by decide), if_neg (by decide), if_neg (by decide), if_pos rfl]
    clear HTX HRF HWX HWY
    go_enter Tryd.func29, Tryd.ntmps29
    go_wp2_with fail
    refine (unhide HCH _).mono ?_
    rintro e w1 ⟨rfl, hb1⟩
    obtain ⟨HXB, HYB, hl1⟩ := boxes_on hb1
    obtain ⟨p0, p1, p2, p3, p4, p5, p6⟩ := cells7 HXB
    obtain ⟨q0, q1, q2, q3, q4, q5, q6⟩ := cells7 HYB
    have HLW := hide hl1
    clear hb1 hl1 HB HCH HXB HYB
    go_wp2_with fail
    refine (unhide HSP _).mono ?_
    rintro e w2 ⟨rfl, hb2⟩
    have HE := hide (unhide HF _ _ (unhide HLW) hb2)
    clear hb2
    go_wp2_with fail
    go_ret
    exact ⟨rfl, unhide HE⟩
  · rw [if_neg (by omega), if_neg (by omega), if_neg (by omega), if_neg (by omega), if_pos h8]
    clear HTX HRF HSP
    have hE := S_eq a' a
    by_cases hab : a' = a
    · rw [decide_eq_true hab] at hE ⊢
      rw [Bool.true_and]
      clear hab
      rcases h8 with rfl | rfl | rfl | rfl
      · go_enter Tryd.func29, Tryd.ntmps29
        go_wp2_with fail
        refine (unhide HCH _).mono ?_
        rintro e w1 ⟨rfl, hb1⟩
        obtain ⟨HXB, HYB, hl1⟩ := boxes_on hb1
        obtain ⟨p0, p1, p2, p3, p4, p5, p6⟩ := cells7 HXB
        obtain ⟨q0, q1, q2, q3, q4, q5, q6⟩ := cells7 HYB
        have HLW := hide hl1
        clear hb1 hl1 HB HCH
        go_upto_region 17 with fail
        clear p0 p1 p2 p3 p4 p5 p6 q0 q1 q2 q3 q4 q5 q6
        refine regN [.val 68 (Res.plain (.pointer (some ⟨w.heap.size + 1, 0, none⟩)) []), .val 69 (Res.plain (.pointer (some ⟨w.heap.size + 1, 1, none⟩)) []), .val 70 (Res.plain (.string (S a')) []), .val 71 (Res.plain (.pointer (some ⟨w.heap.size, 0, none⟩)) []), .val 72 (Res.plain (.pointer (some ⟨w.heap.size, 1, none⟩)) []), .val 73 (Res.plain (.string (S a)) []), .val 74 (Res.plain (.bool true) []), .val 75 (Res.plain (.bool true) []), .val 76 (Res.plain (.agg #[.int .i64 op', .string (S a'), .string (S b'), .int .i64 n', .int .i64 c', .string (S t'), .int .i64 m']) []), .val 77 (Res.plain (.bool WY) []), .val 78 (Res.plain (.agg #[.int .i64 8, .string (S a), .string (S b), .int .i64 n, .int .i64 c, .string (S t), .int .i64 m]) []), .val 79 (Res.plain (.bool WX) []), .val 80 (Res.plain (.bool (WY == WX)) []), .val 81 (Res.plain (.bool (WY == WX)) []), .val 4 (Res.plain (.bool (WY == WX)) [])] (fun i => if i = 1 then [0] else if i = 2 then [1] else if i = 4 then [3] else if i = 5 then [4] else if i = 6 then [2, 5] else if i = 7 then [6] else if i = 8 then [7] else if i = 9 then [7, 8] else if i = 10 then [7] else if i = 11 then [7, 10] else if i = 12 then [7, 9, 11] else if i = 13 then [7, 12] else if i = 14 then [13] else []) ?_ ?_ ?_ ?_ ?_ ?_ ?_ (fun i hi => ?_) ?_
        · kernel_rfl
        · rfl
        · kernel_rfl
        · kernel_rfl
        · kernel_rfl
        · kernel_rfl
        · kernel_rfl
        · have hc : i = 0 ∨ i = 1 ∨ i = 2 ∨ i = 3 ∨ i = 4 ∨ i = 5 ∨ i = 6 ∨ i = 7 ∨ i = 8 ∨ i = 9 ∨ i = 10 ∨ i = 11 ∨ i = 12 ∨ i = 13 ∨ i = 14 := by have : i < 15 := hi; omega
          clear hi
          rcases hc with rfl | rfl | rfl | rfl | rfl | rfl | rfl | rfl | rfl | rfl | rfl | rfl | rfl | rfl | rfl
          · with_reducible refine DoesN.plain (s := 68) (v := .pointer (some ⟨w.heap.size + 1, 0, none⟩)) ?_ ?_
            · rfl
            intro f wz K hb hd hK
            simp only [setN, upd, Nat.reduceAdd, Nat.reduceEqDiff, reduceIte, List.setIfInBounds_toArray, List.set_cons_zero, List.set_cons_succ] at hK ⊢
            refine wpOp_do rfl (by kernel_rfl) ?_
            unfold Oper.wp execOp
            go_simp
            exact hK _ (Below.refl _ _)
          · with_reducible refine DoesN.plain (s := 69) (v := .pointer (some ⟨w.heap.size + 1, 1, none⟩)) ?_ ?_
            · rfl
            intro f wz K hb hd hK
            have e0 : f 0 = .pointer (some ⟨w.heap.size + 1, 0, none⟩) := plainAt (s := 68) (cs := []) (hd 0 (by decide)) rfl
            simp only [setN, upd, Nat.reduceAdd, Nat.reduceEqDiff, reduceIte, List.setIfInBounds_toArray, List.set_cons_zero, List.set_cons_succ] at hK ⊢
            simp only [e0] at hK ⊢
            refine wpOp_do rfl (by kernel_rfl) ?_
            unfold Oper.wp execOp
            go_simp
            exact hK _ (Below.refl _ _)
          · with_reducible refine DoesN.plain (s := 70) (v := .string (S a')) ?_ ?_
            · rfl
            intro f wz K hb hd hK
            have e1 : f 1 = .pointer (some ⟨w.heap.size + 1, 1, none⟩) := plainAt (s := 69) (cs := []) (hd 1 (by decide)) rfl
            obtain ⟨p0, p1, p2, p3, p4, p5, p6⟩ := cells7 ((hb.block _ (block_lt HYB)).trans HYB)
            simp only [setN, upd, Nat.reduceAdd, Nat.reduceEqDiff, reduceIte, List.setIfInBounds_toArray, List.set_cons_zero, List.set_cons_succ] at hK ⊢
            simp only [e1] at hK ⊢
            refine wpOp_do rfl (by kernel_rfl) ?_
            unfold Oper.wp execOp
            go_simp
            exact hK _ (Below.refl _ _)
          · with_reducible refine DoesN.plain (s := 71) (v := .pointer (some ⟨w.heap.size, 0, none⟩)) ?_ ?_
            · rfl
            intro f wz K hb hd hK
            simp only [setN, upd, Nat.reduceAdd, Nat.reduceEqDiff, reduceIte, List.setIfInBounds_toArray, List.set_cons_zero, List.set_cons_succ] at hK ⊢
            refine wpOp_do rfl (by kernel_rfl) ?_
            unfold Oper.wp execOp
            go_simp
            exact hK _ (Below.refl _ _)
          · with_reducible refine DoesN.plain (s := 72) (v := .pointer (some ⟨w.heap.size, 1, none⟩)) ?_ ?_
            · rfl
            intro f wz K hb hd hK
            have e3 : f 3 = .pointer (some ⟨w.heap.size, 0, none⟩) := plainAt (s := 71) (cs := []) (hd 3 (by decide)) rfl
            simp only [setN, upd, Nat.reduceAdd, Nat.reduceEqDiff, reduceIte, List.setIfInBounds_toArray, List.set_cons_zero, List.set_cons_succ] at hK ⊢
            simp only [e3] at hK ⊢
            refine wpOp_do rfl (by kernel_rfl) ?_
            unfold Oper.wp execOp
            go_simp
            exact hK _ (Below.refl _ _)
          · with_reducible refine DoesN.plain (s := 73) (v := .string (S a)) ?_ ?_
            · rfl
            intro f wz K hb hd hK
            have e4 : f 4 = .pointer (some ⟨w.heap.size, 1, none⟩) := plainAt (s := 72) (cs := []) (hd 4 (by decide)) rfl
            obtain ⟨p0, p1, p2, p3, p4, p5, p6⟩ := cells7 ((hb.block _ (block_lt HXB)).trans HXB)
            simp only [setN, upd, Nat.reduceAdd, Nat.reduceEqDiff, reduceIte, List.setIfInBounds_toArray, List.set_cons_zero, List.set_cons_succ] at hK ⊢
            simp only [e4] at hK ⊢
            refine wpOp_do rfl (by kernel_rfl) ?_
            unfold Oper.wp execOp
            go_simp
            exact hK _ (Below.refl _ _)
          · with_reducible refine DoesN.plain (s := 74) (v := .bool true) ?_ ?_
            · rfl
            intro f wz K hb hd hK
            have e2 : f 2 = .string (S a') := plainAt (s := 70) (cs := []) (hd 2 (by decide)) rfl
            have e5 : f 5 = .string (S a) := plainAt (s := 73) (cs := []) (hd 5 (by decide)) rfl
            simp only [setN, upd, Nat.reduceAdd, Nat.reduceEqDiff, reduceIte, List.setIfInBounds_toArray, List.set_cons_zero, List.set_cons_succ] at hK ⊢
            simp only [e2, e5] at hK ⊢
            refine wpOp_do rfl (by kernel_rfl) ?_
            unfold Oper.wp execOp
            go_simp
            exact hK _ (Below.refl _ _)
          · with_reducible refine DoesN.plain (s := 75) (v := .bool true) ?_ ?_
            · rfl
            intro f wz K hb hd hK
            have e6 : f 6 = .bool true := plainAt (s := 74) (cs := []) (hd 6 (by decide)) rfl
            simp only [setN, upd, Nat.reduceAdd, Nat.reduceEqDiff, reduceIte, List.setIfInBounds_toArray, List.set_cons_zero, List.set_cons_succ] at hK ⊢
            simp only [e6] at hK ⊢
            refine wpOp_do rfl (by kernel_rfl) ?_
            unfold Oper.wp execOp
            go_simp
            exact hK _ (Below.refl _ _)
          · with_reducible refine DoesN.plain (s := 76) (v := .agg #[.int .i64 op', .string (S a'), .string (S b'), .int .i64 n', .int .i64 c', .string (S t'), .int .i64 m']) ?_ ?_
            · rfl
            intro f wz K hb hd hK
            have e7 : f 7 = .bool true := plainAt (s := 75) (cs := []) (hd 7 (by decide)) rfl
            obtain ⟨p0, p1, p2, p3, p4, p5, p6⟩ := cells7 ((hb.block _ (block_lt HYB)).trans HYB)
            simp only [setN, upd, Nat.reduceAdd, Nat.reduceEqDiff, reduceIte, List.setIfInBounds_toArray, List.set_cons_zero, List.set_cons_succ] at hK ⊢
            simp only [e7] at hK ⊢
            refine wpOp_do rfl (by kernel_rfl) ?_
            unfold Oper.wp execOp
            go_simp
            exact hK _ (Below.refl _ _)
          · with_reducible refine DoesN.plain (s := 77) (v := .bool WY) ?_ ?_
            · rfl
            intro f wz K hb hd hK
            have e7 : f 7 = .bool true := plainAt (s := 75) (cs := []) (hd 7 (by decide)) rfl
            have e8 : f 8 = .agg #[.int .i64 op', .string (S a'), .string (S b'), .int .i64 n', .int .i64 c', .string (S t'), .int .i64 m'] := plainAt (s := 76) (cs := []) (hd 8 (by decide)) rfl
            simp only [setN, upd, Nat.reduceAdd, Nat.reduceEqDiff, reduceIte, List.setIfInBounds_toArray, List.set_cons_zero, List.set_cons_succ] at hK ⊢
            simp only [e7, e8] at hK ⊢
            refine wpOp_do rfl (by kernel_rfl) ?_
            unfold Oper.wp execOp
            go_simp
            refine (unhide HWY _).mono ?_
            rintro e w' ⟨rfl, hb'⟩
            exact hK _ hb'
          · with_reducible refine DoesN.plain (s := 78) (v := .agg #[.int .i64 8, .string (S a), .string (S b), .int .i64 n, .int .i64 c, .string (S t), .int .i64 m]) ?_ ?_
            · rfl
            intro f wz K hb hd hK
            have e7 : f 7 = .bool true := plainAt (s := 75) (cs := []) (hd 7 (by decide)) rfl
            obtain ⟨p0, p1, p2, p3, p4, p5, p6⟩ := cells7 ((hb.block _ (block_lt HXB)).trans HXB)
            simp only [setN, upd, Nat.reduceAdd, Nat.reduceEqDiff, reduceIte, List.setIfInBounds_toArray, List.set_cons_zero, List.set_cons_succ] at hK ⊢
            simp only [e7] at hK ⊢
            refine wpOp_do rfl (by kernel_rfl) ?_
            unfold Oper.wp execOp
            go_simp
            exact hK _ (Below.refl _ _)
          · with_reducible refine DoesN.plain (s := 79) (v := .bool WX) ?_ ?_
            · rfl
            intro f wz K hb hd hK
            have e7 : f 7 = .bool true := plainAt (s := 75) (cs := []) (hd 7 (by decide)) rfl
            have e10 : f 10 = .agg #[.int .i64 8, .string (S a), .string (S b), .int .i64 n, .int .i64 c, .string (S t), .int .i64 m] := plainAt (s := 78) (cs := []) (hd 10 (by decide)) rfl
            simp only [setN, upd, Nat.reduceAdd, Nat.reduceEqDiff, reduceIte, List.setIfInBounds_toArray, List.set_cons_zero, List.set_cons_succ] at hK ⊢
            simp only [e7, e10] at hK ⊢
            refine wpOp_do rfl (by kernel_rfl) ?_
            unfold Oper.wp execOp
            go_simp
            refine (unhide HWX _).mono ?_
            rintro e w' ⟨rfl, hb'⟩
            exact hK _ hb'
          · with_reducible refine DoesN.plain (s := 80) (v := .bool (WY == WX)) ?_ ?_
            · rfl
            intro f wz K hb hd hK
            have e7 : f 7 = .bool true := plainAt (s := 75) (cs := []) (hd 7 (by decide)) rfl
            have e9 : f 9 = .bool WY := plainAt (s := 77) (cs := []) (hd 9 (by decide)) rfl
            have e11 : f 11 = .bool WX := plainAt (s := 79) (cs := []) (hd 11 (by decide)) rfl
            simp only [setN, upd, Nat.reduceAdd, Nat.reduceEqDiff, reduceIte, List.setIfInBounds_toArray, List.set_cons_zero, List.set_cons_succ] at hK ⊢
            simp only [e7, e9, e11] at hK ⊢
            refine wpOp_do rfl (by kernel_rfl) ?_
            unfold Oper.wp execOp
            go_simp
            exact hK _ (Below.refl _ _)
          · with_reducible refine DoesN.plain (s := 81) (v := .bool (WY == WX)) ?_ ?_
            · rfl
            intro f wz K hb hd hK
            have e7 : f 7 = .bool true := plainAt (s := 75) (cs := []) (hd 7 (by decide)) rfl
            have e12 : f 12 = .bool (WY == WX) := plainAt (s := 80) (cs := []) (hd 12 (by decide)) rfl
            simp only [setN, upd, Nat.reduceAdd, Nat.reduceEqDiff, reduceIte, List.setIfInBounds_toArray, List.set_cons_zero, List.set_cons_succ] at hK ⊢
            simp only [e7, e12] at hK ⊢
            refine wpOp_do rfl (by kernel_rfl) ?_
            unfold Oper.wp execOp
            go_simp
            exact hK _ (Below.refl _ _)
          · with_reducible refine DoesN.plain (s := 4) (v := .bool (WY == WX)) ?_ ?_
            · rfl
            intro f wz K hb hd hK
            have e13 : f 13 = .bool (WY == WX) := plainAt (s := 81) (cs := []) (hd 13 (by decide)) rfl
            simp only [setN, upd, Nat.reduceAdd, Nat.reduceEqDiff, reduceIte, List.setIfInBounds_toArray, List.set_cons_zero, List.set_cons_succ] at hK ⊢
            simp only [e13] at hK ⊢
            refine wpOp_do rfl (by kernel_rfl) ?_
            unfold Oper.wp execOp
            go_simp
            exact hK _ (Below.refl _ _)
        · intro f wE hbE hv hp hne ho
          have h0 : f 0 = .pointer (some ⟨w.heap.size + 1, 0, none⟩) := plainAt (s := 68) (cs := []) (hv 0) rfl
          have h1 : f 1 = .pointer (some ⟨w.heap.size + 1, 1, none⟩) := plainAt (s := 69) (cs := []) (hv 1) rfl
          have h2 : f 2 = .string (S a') := plainAt (s := 70) (cs := []) (hv 2) rfl
          have h3 : f 3 = .pointer (some ⟨w.heap.size, 0, none⟩) := plainAt (s := 71) (cs := []) (hv 3) rfl
          have h4 : f 4 = .pointer (some ⟨w.heap.size, 1, none⟩) := plainAt (s := 72) (cs := []) (hv 4) rfl
          have h5 : f 5 = .string (S a) := plainAt (s := 73) (cs := []) (hv 5) rfl
          have h6 : f 6 = .bool true := plainAt (s := 74) (cs := []) (hv 6) rfl
          have h7 : f 7 = .bool true := plainAt (s := 75) (cs := []) (hv 7) rfl
          have h8 : f 8 = .agg #[.int .i64 op', .string (S a'), .string (S b'), .int .i64 n', .int .i64 c', .string (S t'), .int .i64 m'] := plainAt (s := 76) (cs := []) (hv 8) rfl
          have h9 : f 9 = .bool WY := plainAt (s := 77) (cs := []) (hv 9) rfl
          have h10 : f 10 = .agg #[.int .i64 8, .string (S a), .string (S b), .int .i64 n, .int .i64 c, .string (S t), .int .i64 m] := plainAt (s := 78) (cs := []) (hv 10) rfl
          have h11 : f 11 = .bool WX := plainAt (s := 79) (cs := []) (hv 11) rfl
          have h12 : f 12 = .bool (WY == WX) := plainAt (s := 80) (cs := []) (hv 12) rfl
          have h13 : f 13 = .bool (WY == WX) := plainAt (s := 81) (cs := []) (hv 13) rfl
          have h14 : f 14 = .bool (WY == WX) := plainAt (s := 4) (cs := []) (hv 14) rfl
          simp only [setN, Nat.reduceAdd, List.setIfInBounds_toArray, List.set_cons_zero, List.set_cons_succ]
          simp only [h0, h1, h2, h3, h4, h5, h6, h7, h8, h9, h10, h11, h12, h13, h14]
          clear h0 h1 h2 h3 h4 h5 h6 h7 h8 h9 h10 h11 h12 h13 h14
          have HE := hide (unhide HF _ _ (unhide HLW) hbE)
          clear hbE hv hp hne ho
          go_wp2_with fail
          go_ret
          exact ⟨rfl, unhide HE⟩
      · go_enter Tryd.func29, Tryd.ntmps29
        go_wp2_with fail
        refine (unhide HCH _).mono ?_
        rintro e w1 ⟨rfl, hb1⟩
        obtain ⟨HXB, HYB, hl1⟩ := boxes_on hb1
        obtain ⟨p0, p1, p2, p3, p4, p5, p6⟩ := cells7 HXB
        obtain ⟨q0, q1, q2, q3, q4, q5, q6⟩ := cells7 HYB
        have HLW := hide hl1
        clear hb1 hl1 HB HCH
        go_upto_region 17 with fail
        clear p0 p1 p2 p3 p4 p5 p6 q0 q1 q2 q3 q4 q5 q6
        refine regN [.val 68 (Res.plain (.pointer (some ⟨w.heap.size + 1, 0, none⟩)) []), .val 69 (Res.plain (.pointer (some ⟨w.heap.size + 1, 1, none⟩)) []), .val 70 (Res.plain (.string (S a')) []), .val 71 (Res.plain (.pointer (some ⟨w.heap.size, 0, none⟩)) []), .val 72 (Res.plain (.pointer (some ⟨w.heap.size, 1, none⟩)) []), .val 73 (Res.plain (.string (S a)) []), .val 74 (Res.plain (.bool true) []), .val 75 (Res.plain (.bool true) []), .val 76 (Res.plain (.agg #[.int .i64 op', .string (S a'), .string (S b'), .int .i64 n', .int .i64 c', .string (S t'), .int .i64 m']) []), .val 77 (Res.plain (.bool WY) []), .val 78 (Res.plain (.agg #[.int .i64 9, .string (S a), .string (S b), .int .i64 n, .int .i64 c, .string (S t), .int .i64 m]) []), .val 79 (Res.plain (.bool WX) []), .val 80 (Res.plain (.bool (WY == WX)) []), .val 81 (Res.plain (.bool (WY == WX)) []), .val 4 (Res.plain (.bool (WY == WX)) [])] (fun i => if i = 1 then [0] else if i = 2 then [1] else if i = 4 then [3] else if i = 5 then [4] else if i = 6 then [2, 5] else if i = 7 then [6] else if i = 8 then [7] else if i = 9 then [7, 8] else if i = 10 then [7] else if i = 11 then [7, 10] else if i = 12 then [7, 9, 11] else if i = 13 then [7, 12] else if i = 14 then [13] else []) ?_ ?_ ?_ ?_ ?_ ?_ ?_ (fun i hi => ?_) ?_
        · kernel_rfl
        · rfl
        · kernel_rfl
        · kernel_rfl
        · kernel_rfl
        · kernel_rfl
        · kernel_rfl
        · have hc : i = 0 ∨ i = 1 ∨ i = 2 ∨ i = 3 ∨ i = 4 ∨ i = 5 ∨ i = 6 ∨ i = 7 ∨ i = 8 ∨ i = 9 ∨ i = 10 ∨ i = 11 ∨ i = 12 ∨ i = 13 ∨ i = 14 := by have : i < 15 := hi; omega
          clear hi
          rcases hc with rfl | rfl | rfl | rfl | rfl | rfl | rfl | rfl | rfl | rfl | rfl | rfl | rfl | rfl | rfl
          · with_reducible refine DoesN.plain (s := 68) (v := .pointer (some ⟨w.heap.size + 1, 0, none⟩)) ?_ ?_
            · rfl
            intro f wz K hb hd hK
            simp only [setN, upd, Nat.reduceAdd, Nat.reduceEqDiff, reduceIte, List.setIfInBounds_toArray, List.set_cons_zero, List.set_cons_succ] at hK ⊢
            refine wpOp_do rfl (by kernel_rfl) ?_
            unfold Oper.wp execOp
            go_simp
            exact hK _ (Below.refl _ _)
          · with_reducible refine DoesN.plain (s := 69) (v := .pointer (some ⟨w.heap.size + 1, 1, none⟩)) ?_ ?_
            · rfl
            intro f wz K hb hd hK
            have e0 : f 0 = .pointer (some ⟨w.heap.size + 1, 0, none⟩) := plainAt (s := 68) (cs := []) (hd 0 (by decide)) rfl
            simp only [setN, upd, Nat.reduceAdd, Nat.reduceEqDiff, reduceIte, List.setIfInBounds_toArray, List.set_cons_zero, List.set_cons_succ] at hK ⊢
            simp only [e0] at hK ⊢
            refine wpOp_do rfl (by kernel_rfl) ?_
            unfold Oper.wp execOp
            go_simp
            exact hK _ (Below.refl _ _)
          · with_reducible refine DoesN.plain (s := 70) (v := .string (S a')) ?_ ?_
            · rfl
            intro f wz K hb hd hK
            have e1 : f 1 = .pointer (some ⟨w.heap.size + 1, 1, none⟩) := plainAt (s := 69) (cs := []) (hd 1 (by decide)) rfl
            obtain ⟨p0, p1, p2, p3, p4, p5, p6⟩ := cells7 ((hb.block _ (block_lt HYB)).trans HYB)
            simp only [setN, upd, Nat.reduceAdd, Nat.reduceEqDiff, reduceIte, List.setIfInBounds_toArray, List.set_cons_zero, List.set_cons_succ] at hK ⊢
            simp only [e1] at hK ⊢
            refine wpOp_do rfl (by kernel_rfl) ?_
            unfold Oper.wp execOp
            go_simp
            exact hK _ (Below.refl _ _)
          · with_reducible refine DoesN.plain (s := 71) (v := .pointer (some ⟨w.heap.size, 0, none⟩)) ?_ ?_
            · rfl
            intro f wz K hb hd hK
            simp only [setN, upd, Nat.reduceAdd, Nat.reduceEqDiff, reduceIte, List.setIfInBounds_toArray, List.set_cons_zero, List.set_cons_succ] at hK ⊢
            refine wpOp_do rfl (by kernel_rfl) ?_
            unfold Oper.wp execOp
            go_simp
            exact hK _ (Below.refl _ _)
          · with_reducible refine DoesN.plain (s := 72) (v := .pointer (some ⟨w.heap.size, 1, none⟩)) ?_ ?_
            · rfl
            intro f wz K hb hd hK
            have e3 : f 3 = .pointer (some ⟨w.heap.size, 0, none⟩) := plainAt (s := 71) (cs := []) (hd 3 (by decide)) rfl
            simp only [setN, upd, Nat.reduceAdd, Nat.reduceEqDiff, reduceIte, List.setIfInBounds_toArray, List.set_cons_zero, List.set_cons_succ] at hK ⊢
            simp only [e3] at hK ⊢
            refine wpOp_do rfl (by kernel_rfl) ?_
            unfold Oper.wp execOp
            go_simp
            exact hK _ (Below.refl _ _)
          · with_reducible refine DoesN.plain (s := 73) (v := .string (S a)) ?_ ?_
            · rfl
            intro f wz K hb hd hK
            have e4 : f 4 = .pointer (some ⟨w.heap.size, 1, none⟩) := plainAt (s := 72) (cs := []) (hd 4 (by decide)) rfl
            obtain ⟨p0, p1, p2, p3, p4, p5, p6⟩ := cells7 ((hb.block _ (block_lt HXB)).trans HXB)
            simp only [setN, upd, Nat.reduceAdd, Nat.reduceEqDiff, reduceIte, List.setIfInBounds_toArray, List.set_cons_zero, List.set_cons_succ] at hK ⊢
            simp only [e4] at hK ⊢
            refine wpOp_do rfl (by kernel_rfl) ?_
            unfold Oper.wp execOp
            go_simp
            exact hK _ (Below.refl _ _)
          · with_reducible refine DoesN.plain (s := 74) (v := .bool true) ?_ ?_
            · rfl
            intro f wz K hb hd hK
            have e2 : f 2 = .string (S a') := plainAt (s := 70) (cs := []) (hd 2 (by decide)) rfl
            have e5 : f 5 = .string (S a) := plainAt (s := 73) (cs := []) (hd 5 (by decide)) rfl
            simp only [setN, upd, Nat.reduceAdd, Nat.reduceEqDiff, reduceIte, List.setIfInBounds_toArray, List.set_cons_zero, List.set_cons_succ] at hK ⊢
            simp only [e2, e5] at hK ⊢
            refine wpOp_do rfl (by kernel_rfl) ?_
            unfold Oper.wp execOp
            go_simp
            exact hK _ (Below.refl _ _)
          · with_reducible refine DoesN.plain (s := 75) (v := .bool true) ?_ ?_
            · rfl
            intro f wz K hb hd hK
            have e6 : f 6 = .bool true := plainAt (s := 74) (cs := []) (hd 6 (by decide)) rfl
            simp only [setN, upd, Nat.reduceAdd, Nat.reduceEqDiff, reduceIte, List.setIfInBounds_toArray, List.set_cons_zero, List.set_cons_succ] at hK ⊢
            simp only [e6] at hK ⊢
            refine wpOp_do rfl (by kernel_rfl) ?_
            unfold Oper.wp execOp
            go_simp
            exact hK _ (Below.refl _ _)
          · with_reducible refine DoesN.plain (s := 76) (v := .agg #[.int .i64 op', .string (S a'), .string (S b'), .int .i64 n', .int .i64 c', .string (S t'), .int .i64 m']) ?_ ?_
            · rfl
            intro f wz K hb hd hK
            have e7 : f 7 = .bool true := plainAt (s := 75) (cs := []) (hd 7 (by decide)) rfl
            obtain ⟨p0, p1, p2, p3, p4, p5, p6⟩ := cells7 ((hb.block _ (block_lt HYB)).trans HYB)
            simp only [setN, upd, Nat.reduceAdd, Nat.reduceEqDiff, reduceIte, List.setIfInBounds_toArray, List.set_cons_zero, List.set_cons_succ] at hK ⊢
            simp only [e7] at hK ⊢
            refine wpOp_do rfl (by kernel_rfl) ?_
            unfold Oper.wp execOp
            go_simp
            exact hK _ (Below.refl _ _)
          · with_reducible refine DoesN.plain (s := 77) (v := .bool WY) ?_ ?_
            · rfl
            intro f wz K hb hd hK
            have e7 : f 7 = .bool true := plainAt (s := 75) (cs := []) (hd 7 (by decide)) rfl
            have e8 : f 8 = .agg #[.int .i64 op', .string (S a'), .string (S b'), .int .i64 n', .int .i64 c', .string (S t'), .int .i64 m'] := plainAt (s := 76) (cs := []) (hd 8 (by decide)) rfl
            simp only [setN, upd, Nat.reduceAdd, Nat.reduceEqDiff, reduceIte, List.setIfInBounds_toArray, List.set_cons_zero, List.set_cons_succ] at hK ⊢
            simp only [e7, e8] at hK ⊢
            refine wpOp_do rfl (by kernel_rfl) ?_
            unfold Oper.wp execOp
            go_simp
            refine (unhide HWY _).mono ?_
            rintro e w' ⟨rfl, hb'⟩
            exact hK _ hb'
          · with_reducible refine DoesN.plain (s := 78) (v := .agg #[.int .i64 9, .string (S a), .string (S b), .int .i64 n, .int .i64 c, .string (S t), .int .i64 m]) ?_ ?_
            · rfl
            intro f wz K hb hd hK
            have e7 : f 7 = .bool true := plainAt (s := 75) (cs := []) (hd 7 (by decide)) rfl
            obtain ⟨p0, p1, p2, p3, p4, p5, p6⟩ := cells7 ((hb.block _ (block_lt HXB)).trans HXB)
            simp only [setN, upd, Nat.reduceAdd, Nat.reduceEqDiff, reduceIte, List.setIfInBounds_toArray, List.set_cons_zero, List.set_cons_succ] at hK ⊢
            simp only [e7] at hK ⊢
            refine wpOp_do rfl (by kernel_rfl) ?_
            unfold Oper.wp execOp
            go_simp
            exact hK _ (Below.refl _ _)
          · with_reducible refine DoesN.plain (s := 79) (v := .bool WX) ?_ ?_
            · rfl
            intro f wz K hb hd hK
            have e7 : f 7 = .bool true := plainAt (s := 75) (cs := []) (hd 7 (by decide)) rfl
            have e10 : f 10 = .agg #[.int .i64 9, .string (S a), .string (S b), .int .i64 n, .int .i64 c, .string (S t), .int .i64 m] := plainAt (s := 78) (cs := []) (hd 10 (by decide)) rfl
            simp only [setN, upd, Nat.reduceAdd, Nat.reduceEqDiff, reduceIte, List.setIfInBounds_toArray, List.set_cons_zero, List.set_cons_succ] at hK ⊢
            simp only [e7, e10] at hK ⊢
            refine wpOp_do rfl (by kernel_rfl) ?_
            unfold Oper.wp execOp
            go_simp
            refine (unhide HWX _).mono ?_
            rintro e w' ⟨rfl, hb'⟩
            exact hK _ hb'
          · with_reducible refine DoesN.plain (s := 80) (v := .bool (WY == WX)) ?_ ?_
            · rfl
            intro f wz K hb hd hK
            have e7 : f 7 = .bool true := plainAt (s := 75) (cs := []) (hd 7 (by decide)) rfl
            have e9 : f 9 = .bool WY := plainAt (s := 77) (cs := []) (hd 9 (by decide)) rfl
            have e11 : f 11 = .bool WX := plainAt (s := 79) (cs := []) (hd 11 (by decide)) rfl
            simp only [setN, upd, Nat.reduceAdd, Nat.reduceEqDiff, reduceIte, List.setIfInBounds_toArray, List.set_cons_zero, List.set_cons_succ] at hK ⊢
            simp only [e7, e9, e11] at hK ⊢
            refine wpOp_do rfl (by kernel_rfl) ?_
            unfold Oper.wp execOp
            go_simp
            exact hK _ (Below.refl _ _)
          · with_reducible refine DoesN.plain (s := 81) (v := .bool (WY == WX)) ?_ ?_
            · rfl
            intro f wz K hb hd hK
            have e7 : f 7 = .bool true := plainAt (s := 75) (cs := []) (hd 7 (by decide)) rfl
            have e12 : f 12 = .bool (WY == WX) := plainAt (s := 80) (cs := []) (hd 12 (by decide)) rfl
            simp only [setN, upd, Nat.reduceAdd, Nat.reduceEqDiff, reduceIte, List.setIfInBounds_toArray, List.set_cons_zero, List.set_cons_succ] at hK ⊢
            simp only [e7, e12] at hK ⊢
            refine wpOp_do rfl (by kernel_rfl) ?_
            unfold Oper.wp execOp
            go_simp
            exact hK _ (Below.refl _ _)
          · with_reducible refine DoesN.plain (s := 4) (v := .bool (WY == WX)) ?_ ?_
            · rfl
            intro f wz K hb hd hK
            have e13 : f 13 = .bool (WY == WX) := plainAt (s := 81) (cs := []) (hd 13 (by decide)) rfl
            simp only [setN, upd, Nat.reduceAdd, Nat.reduceEqDiff, reduceIte, List.setIfInBounds_toArray, List.set_cons_zero, List.set_cons_succ] at hK ⊢
            simp only [e13] at hK ⊢
            refine wpOp_do rfl (by kernel_rfl) ?_
            unfold Oper.wp execOp
            go_simp
            exact hK _ (Below.refl _ _)
        · intro f wE hbE hv hp hne ho
          have h0 : f 0 = .pointer (some ⟨w.heap.size + 1, 0, none⟩) := plainAt (s := 68) (cs := []) (hv 0) rfl
          have h1 : f 1 = .pointer (some ⟨w.heap.size + 1, 1, none⟩) := plainAt (s := 69) (cs := []) (hv 1) rfl
          have h2 : f 2 = .string (S a') := plainAt (s := 70) (cs := []) (hv 2) rfl
          have h3 : f 3 = .pointer (some ⟨w.heap.size, 0, none⟩) := plainAt (s := 71) (cs := []) (hv 3) rfl
          have h4 : f 4 = .pointer (some ⟨w.heap.size, 1, none⟩) := plainAt (s := 72) (cs := []) (hv 4) rfl
          have h5 : f 5 = .string (S a) := plainAt (s := 73) (cs := []) (hv 5) rfl
          have h6 : f 6 = .bool true := plainAt (s := 74) (cs := []) (hv 6) rfl
          have h7 : f 7 = .bool true := plainAt (s := 75) (cs := []) (hv 7) rfl
          have h8 : f 8 = .agg #[.int .i64 op', .string (S a'), .string (S b'), .int .i64 n', .int .i64 c', .string (S t'), .int .i64 m'] := plainAt (s := 76) (cs := []) (hv 8) rfl
          have h9 : f 9 = .bool WY := plainAt (s := 77) (cs := []) (hv 9) rfl
          have h10 : f 10 = .agg #[.int .i64 9, .string (S a), .string (S b), .int .i64 n, .int .i64 c, .string (S t), .int .i64 m] := plainAt (s := 78) (cs := []) (hv 10) rfl
          have h11 : f 11 = .bool WX := plainAt (s := 79) (cs := []) (hv 11) rfl
          have h12 : f 12 = .bool (WY == WX) := plainAt (s := 80) (cs := []) (hv 12) rfl
          have h13 : f 13 = .bool (WY == WX) := plainAt (s := 81) (cs := []) (hv 13) rfl
          have h14 : f 14 = .bool (WY == WX) := plainAt (s := 4) (cs := []) (hv 14) rfl
          simp only [setN, Nat.reduceAdd, List.setIfInBounds_toArray, List.set_cons_zero, List.set_cons_succ]
          simp only [h0, h1, h2, h3, h4, h5, h6, h7, h8, h9, h10, h11, h12, h13, h14]
          clear h0 h1 h2 h3 h4 h5 h6 h7 h8 h9 h10 h11 h12 h13 h14
          have HE := hide (unhide HF _ _ (unhide HLW) hbE)
          clear hbE hv hp hne ho
          go_wp2_with fail
          go_ret
          exact ⟨rfl, unhide HE⟩
      · go_enter Tryd.func29, Tryd.ntmps29
        go_wp2_with fail
        refine (unhide HCH _).mono ?_
        rintro e w1 ⟨rfl, hb1⟩
        obtain ⟨HXB, HYB, hl1⟩ := boxes_on hb1
        obtain ⟨p0, p1, p2, p3, p4, p5, p6⟩ := cells7 HXB
        obtain ⟨q0, q1, q2, q3, q4, q5, q6⟩ := cells7 HYB
        have HLW := hide hl1
        clear hb1 hl1 HB HCH
        go_upto_region 17 with fail
        clear p0 p1 p2 p3 p4 p5 p6 q0 q1 q2 q3 q4 q5 q6
        refine regN [.val 68 (Res.plain (.pointer (some ⟨w.heap.size + 1, 0, none⟩)) []), .val 69 (Res.plain (.pointer (some ⟨w.heap.size + 1, 1, none⟩)) []), .val 70 (Res.plain (.string (S a')) []), .val 71 (Res.plain (.pointer (some ⟨w.heap.size, 0, none⟩)) []), .val 72 (Res.plain (.pointer (some ⟨w.heap.size, 1, none⟩)) []), .val 73 (Res.plain (.string (S a)) []), .val 74 (Res.plain (.bool true) []), .val 75 (Res.plain (.bool true) []), .val 76 (Res.plain (.agg #[.int .i64 op', .string (S a'), .string (S b'), .int .i64 n', .int .i64 c', .string (S t'), .int .i64 m']) []), .val 77 (Res.plain (.bool WY) []), .val 78 (Res.plain (.agg #[.int .i64 11, .string (S a), .string (S b), .int .i64 n, .int .i64 c, .string (S t), .int .i64 m]) []), .val 79 (Res.plain (.bool WX) []), .val 80 (Res.plain (.bool (WY == WX)) []), .val 81 (Res.plain (.bool (WY == WX)) []), .val 4 (Res.plain (.bool (WY == WX)) [])] (fun i => if i = 1 then [0] else if i = 2 then [1] else if i = 4 then [3] else if i = 5 then [4] else if i = 6 then [2, 5] else if i = 7 then [6] else if i = 8 then [7] else if i = 9 then [7, 8] else if i = 10 then [7] else if i = 11 then [7, 10] else if i = 12 then [7, 9, 11] else if i = 13 then [7, 12] else if i = 14 then [13] else []) ?_ ?_ ?_ ?_ ?_ ?_ ?_ (fun i hi => ?_) ?_
        · kernel_rfl
        · rfl
        · kernel_rfl
        · kernel_rfl
        · kernel_rfl
        · kernel_rfl
        · kernel_rfl
        · have hc : i = 0 ∨ i = 1 ∨ i = 2 ∨ i = 3 ∨ i = 4 ∨ i = 5 ∨ i = 6 ∨ i = 7 ∨ i = 8 ∨ i = 9 ∨ i = 10 ∨ i = 11 ∨ i = 12 ∨ i = 13 ∨ i = 14 := by have : i < 15 := hi; omega
          clear hi
          rcases hc with rfl | rfl | rfl | rfl | rfl | rfl | rfl | rfl | rfl | rfl | rfl | rfl | rfl | rfl | rfl
          · with_reducible refine DoesN.plain (s := 68) (v := .pointer (some ⟨w.heap.size + 1, 0, none⟩)) ?_ ?_
            · rfl
            intro f wz K hb hd hK
            simp only [setN, upd, Nat.reduceAdd, Nat.reduceEqDiff, reduceIte, List.setIfInBounds_toArray, List.set_cons_zero, List.set_cons_succ] at hK ⊢
            refine wpOp_do rfl (by kernel_rfl) ?_
            unfold Oper.wp execOp
            go_simp
            exact hK _ (Below.refl _ _)
          · with_reducible refine DoesN.plain (s := 69) (v := .pointer (some ⟨w.heap.size + 1, 1, none⟩)) ?_ ?_
            · rfl
            intro f wz K hb hd hK
            have e0 : f 0 = .pointer (some ⟨w.heap.size + 1, 0, none⟩) := plainAt (s := 68) (cs := []) (hd 0 (by decide)) rfl
            simp only [setN, upd, Nat.reduceAdd, Nat.reduceEqDiff, reduceIte, List.setIfInBounds_toArray, List.set_cons_zero, List.set_cons_succ] at hK ⊢
            simp only [e0] at hK ⊢
            refine wpOp_do rfl (by kernel_rfl) ?_
            unfold Oper.wp execOp
            go_simp
            exact hK _ (Below.refl _ _)
          · with_reducible refine DoesN.plain (s := 70) (v := .string (S a')) ?_ ?_
            · rfl
            intro f wz K hb hd hK
            have e1 : f 1 = .pointer (some ⟨w.heap.size + 1, 1, none⟩) := plainAt (s := 69) (cs := []) (hd 1 (by decide)) rfl
            obtain ⟨p0, p1, p2, p3, p4, p5, p6⟩ := cells7 ((hb.block _ (block_lt HYB)).trans HYB)
            simp only [setN, upd, Nat.reduceAdd, Nat.reduceEqDiff, reduceIte, List.setIfInBounds_toArray, List.set_cons_zero, List.set_cons_succ] at hK ⊢
            simp only [e1] at hK ⊢
            refine wpOp_do rfl (by kernel_rfl) ?_
            unfold Oper.wp execOp
            go_simp
            exact hK _ (Below.refl _ _)
          · with_reducible refine DoesN.plain (s := 71) (v := .pointer (some ⟨w.heap.size, 0, none⟩)) ?_ ?_
            · rfl
            intro f wz K hb hd hK
            simp only [setN, upd, Nat.reduceAdd, Nat.reduceEqDiff, reduceIte, List.setIfInBounds_toArray, List.set_cons_zero, List.set_cons_succ] at hK ⊢
            refine wpOp_do rfl (by kernel_rfl) ?_
            unfold Oper.wp execOp
            go_simp
            exact hK _ (Below.refl _ _)
          · with_reducible refine DoesN.plain (s := 72) (v := .pointer (some ⟨w.heap.size, 1, none⟩)) ?_ ?_
            · rfl
            intro f wz K hb hd hK
            have e3 : f 3 = .pointer (some ⟨w.heap.size, 0, none⟩) := plainAt (s := 71) (cs := []) (hd 3 (by decide)) rfl
            simp only [setN, upd, Nat.reduceAdd, Nat.reduceEqDiff, reduceIte, List.setIfInBounds_toArray, List.set_cons_zero, List.set_cons_succ] at hK ⊢
            simp only [e3] at hK ⊢
            refine wpOp_do rfl (by kernel_rfl) ?_
            unfold Oper.wp execOp
            go_simp
            exact hK _ (Below.refl _ _)
          · with_reducible refine DoesN.plain (s := 73) (v := .string (S a)) ?_ ?_
            · rfl
            intro f wz K hb hd hK
            have e4 : f 4 = .pointer (some ⟨w.heap.size, 1, none⟩) := plainAt (s := 72) (cs := []) (hd 4 (by decide)) rfl
            obtain ⟨p0, p1, p2, p3, p4, p5, p6⟩ := cells7 ((hb.block _ (block_lt HXB)).trans HXB)
            simp only [setN, upd, Nat.reduceAdd, Nat.reduceEqDiff, reduceIte, List.setIfInBounds_toArray, List.set_cons_zero, List.set_cons_succ] at hK ⊢
            simp only [e4] at hK ⊢
            refine wpOp_do rfl (by kernel_rfl) ?_
            unfold Oper.wp execOp
            go_simp
            exact hK _ (Below.refl _ _)
          · with_reducible refine DoesN.plain (s := 74) (v := .bool true) ?_ ?_
            · rfl
            intro f wz K hb hd hK
            have e2 : f 2 = .string (S a') := plainAt (s := 70) (cs := []) (hd 2 (by decide)) rfl
            have e5 : f 5 = .string (S a) := plainAt (s := 73) (cs := []) (hd 5 (by decide)) rfl
            simp only [setN, upd, Nat.reduceAdd, Nat.reduceEqDiff, reduceIte, List.setIfInBounds_toArray, List.set_cons_zero, List.set_cons_succ] at hK ⊢
            simp only [e2, e5] at hK ⊢
            refine wpOp_do rfl (by kernel_rfl) ?_
            unfold Oper.wp execOp
            go_simp
            exact hK _ (Below.refl _ _)
          · with_reducible refine DoesN.plain (s := 75) (v := .bool true) ?_ ?_
            · rfl
            intro f wz K hb hd hK
            have e6 : f 6 = .bool true := plainAt (s := 74) (cs := []) (hd 6 (by decide)) rfl
            simp only [setN, upd, Nat.reduceAdd, Nat.reduceEqDiff, reduceIte, List.setIfInBounds_toArray, List.set_cons_zero, List.set_cons_succ] at hK ⊢
            simp only [e6] at hK ⊢
            refine wpOp_do rfl (by kernel_rfl) ?_
            unfold Oper.wp execOp
            go_simp
            exact hK _ (Below.refl _ _)
          · with_reducible refine DoesN.plain (s := 76) (v := .agg #[.int .i64 op', .string (S a'), .string (S b'), .int .i64 n', .int .i64 c', .string (S t'), .int .i64 m']) ?_ ?_
            · rfl
            intro f wz K hb hd hK
            have e7 : f 7 = .bool true := plainAt (s := 75) (cs := []) (hd 7 (by decide)) rfl
            obtain ⟨p0, p1, p2, p3, p4, p5, p6⟩ := cells7 ((hb.block _ (block_lt HYB)).trans HYB)
            simp only [setN, upd, Nat.reduceAdd, Nat.reduceEqDiff, reduceIte, List.setIfInBounds_toArray, List.set_cons_zero, List.set_cons_succ] at hK ⊢
            simp only [e7] at hK ⊢
            refine wpOp_do rfl (by kernel_rfl) ?_
            unfold Oper.wp execOp
            go_simp
            exact hK _ (Below.refl _ _)
          · with_reducible refine DoesN.plain (s := 77) (v := .bool WY) ?_ ?_
            · rfl
            intro f wz K hb hd hK
            have e7 : f 7 = .bool true := plainAt (s := 75) (cs := []) (hd 7 (by decide)) rfl
            have e8 : f 8 = .agg #[.int .i64 op', .string (S a'), .string (S b'), .int .i64 n', .int .i64 c', .string (S t'), .int .i64 m'] := plainAt (s := 76) (cs := []) (hd 8 (by decide)) rfl
            simp only [setN, upd, Nat.reduceAdd, Nat.reduceEqDiff, reduceIte, List.setIfInBounds_toArray, List.set_cons_zero, List.set_cons_succ] at hK ⊢
            simp only [e7, e8] at hK ⊢
            refine wpOp_do rfl (by kernel_rfl) ?_
            unfold Oper.wp execOp
            go_simp
            refine (unhide HWY _).mono ?_
            rintro e w' ⟨rfl, hb'⟩
            exact hK _ hb'
          · with_reducible refine DoesN.plain (s := 78) (v := .agg #[.int .i64 11, .string (S a), .string (S b), .int .i64 n, .int .i64 c, .string (S t), .int .i64 m]) ?_ ?_
            · rfl
            intro f wz K hb hd hK
            have e7 : f 7 = .bool true := plainAt (s := 75) (cs := []) (hd 7 (by decide)) rfl
            obtain ⟨p0, p1, p2, p3, p4, p5, p6⟩ := cells7 ((hb.block _ (block_lt HXB)).trans HXB)
            simp only [setN, upd, Nat.reduceAdd, Nat.reduceEqDiff, reduceIte, List.setIfInBounds_toArray, List.set_cons_zero, List.set_cons_succ] at hK ⊢
            simp only [e7] at hK ⊢
            refine wpOp_do rfl (by kernel_rfl) ?_
            unfold Oper.wp execOp
            go_simp
            exact hK _ (Below.refl _ _)
          · with_reducible refine DoesN.plain (s := 79) (v := .bool WX) ?_ ?_
            · rfl
            intro f wz K hb hd hK
            have e7 : f 7 = .bool true := plainAt (s := 75) (cs := []) (hd 7 (by decide)) rfl
            have e10 : f 10 = .agg #[.int .i64 11, .string (S a), .string (S b), .int .i64 n, .int .i64 c, .string (S t), .int .i64 m] := plainAt (s := 78) (cs := []) (hd 10 (by decide)) rfl
            simp only [setN, upd, Nat.reduceAdd, Nat.reduceEqDiff, reduceIte, List.setIfInBounds_toArray, List.set_cons_zero, List.set_cons_succ] at hK ⊢
            simp only [e7, e10] at hK ⊢
            refine wpOp_do rfl (by kernel_rfl) ?_
            unfold Oper.wp execOp
            go_simp
            refine (unhide HWX _).mono ?_
            rintro e w' ⟨rfl, hb'⟩
            exact hK _ hb'
          · with_reducible refine DoesN.plain (s := 80) (v := .bool (WY == WX)) ?_ ?_
            · rfl
            intro f wz K hb hd hK
            have e7 : f 7 = .bool true := plainAt (s := 75) (cs := []) (hd 7 (by decide)) rfl
            have e9 : f 9 = .bool WY := plainAt (s := 77) (cs := []) (hd 9 (by decide)) rfl
            have e11 : f 11 = .bool WX := plainAt (s := 79) (cs := []) (hd 11 (by decide)) rfl
            simp only [setN, upd, Nat.reduceAdd, Nat.reduceEqDiff, reduceIte, List.setIfInBounds_toArray, List.set_cons_zero, List.set_cons_succ] at hK ⊢
            simp only [e7, e9, e11] at hK ⊢
            refine wpOp_do rfl (by kernel_rfl) ?_
            unfold Oper.wp execOp
            go_simp
            exact hK _ (Below.refl _ _)
          · with_reducible refine DoesN.plain (s := 81) (v := .bool (WY == WX)) ?_ ?_
            · rfl
            intro f wz K hb hd hK
            have e7 : f 7 = .bool true := plainAt (s := 75) (cs := []) (hd 7 (by decide)) rfl
            have e12 : f 12 = .bool (WY == WX) := plainAt (s := 80) (cs := []) (hd 12 (by decide)) rfl
            simp only [setN, upd, Nat.reduceAdd, Nat.reduceEqDiff, reduceIte, List.setIfInBounds_toArray, List.set_cons_zero, List.set_cons_succ] at hK ⊢
            simp only [e7, e12] at hK ⊢
            refine wpOp_do rfl (by kernel_rfl) ?_
            unfold Oper.wp execOp
            go_simp
            exact hK _ (Below.refl _ _)
          · with_reducible refine DoesN.plain (s := 4) (v := .bool (WY == WX)) ?_ ?_
            · rfl
            intro f wz K hb hd hK
            have e13 : f 13 = .bool (WY == WX) := plainAt (s := 81) (cs := []) (hd 13 (by decide)) rfl
            simp only [setN, upd, Nat.reduceAdd, Nat.reduceEqDiff, reduceIte, List.setIfInBounds_toArray, List.set_cons_zero, List.set_cons_succ] at hK ⊢
            simp only [e13] at hK ⊢
            refine wpOp_do rfl (by kernel_rfl) ?_
            unfold Oper.wp execOp
            go_simp
            exact hK _ (Below.refl _ _)
        · intro f wE hbE hv hp hne ho
          have h0 : f 0 = .pointer (some ⟨w.heap.size + 1, 0, none⟩) := plainAt (s := 68) (cs := []) (hv 0) rfl
          have h1 : f 1 = .pointer (some ⟨w.heap.size + 1, 1, none⟩) := plainAt (s := 69) (cs := []) (hv 1) rfl
          have h2 : f 2 = .string (S a') := plainAt (s := 70) (cs := []) (hv 2) rfl
          have h3 : f 3 = .pointer (some ⟨w.heap.size, 0, none⟩) := plainAt (s := 71) (cs := []) (hv 3) rfl
          have h4 : f 4 = .pointer (some ⟨w.heap.size, 1, none⟩) := plainAt (s := 72) (cs := []) (hv 4) rfl
          have h5 : f 5 = .string (S a) := plainAt (s := 73) (cs := []) (hv 5) rfl
          have h6 : f 6 = .bool true := plainAt (s := 74) (cs := []) (hv 6) rfl
          have h7 : f 7 = .bool true := plainAt (s := 75) (cs := []) (hv 7) rfl
          have h8 : f 8 = .agg #[.int .i64 op', .string (S a'), .string (S b'), .int .i64 n', .int .i64 c', .string (S t'), .int .i64 m'] := plainAt (s := 76) (cs := []) (hv 8) rfl
          have h9 : f 9 = .bool WY := plainAt (s := 77) (cs := []) (hv 9) rfl
          have h10 : f 10 = .agg #[.int .i64 11, .string (S a), .string (S b), .int .i64 n, .int .i64 c, .string (S t), .int .i64 m] := plainAt (s := 78) (cs := []) (hv 10) rfl
          have h11 : f 11 = .bool WX := plainAt (s := 79) (cs := []) (hv 11) rfl
          have h12 : f 12 = .bool (WY == WX) := plainAt (s := 80) (cs := []) (hv 12) rfl
          have h13 : f 13 = .bool (WY == WX) := plainAt (s := 81) (cs := []) (hv 13) rfl
          have h14 : f 14 = .bool (WY == WX) := plainAt (s := 4) (cs := []) (hv 14) rfl
          simp only [setN, Nat.reduceAdd, List.setIfInBounds_toArray, List.set_cons_zero, List.set_cons_succ]
          simp only [h0, h1, h2, h3, h4, h5, h6, h7, h8, h9, h10, h11, h12, h13, h14]
          clear h0 h1 h2 h3 h4 h5 h6 h7 h8 h9 h10 h11 h12 h13 h14
          have HE := hide (unhide HF _ _ (unhide HLW) hbE)
          clear hbE hv hp hne ho
          go_wp2_with fail
          go_ret
          exact ⟨rfl, unhide HE⟩
      · go_enter Tryd.func29, Tryd.ntmps29
        go_wp2_with fail
        refine (unhide HCH _).mono ?_
        rintro e w1 ⟨rfl, hb1⟩
        obtain ⟨HXB, HYB, hl1⟩ := boxes_on hb1
        obtain ⟨p0, p1, p2, p3, p4, p5, p6⟩ := cells7 HXB
        obtain ⟨q0, q1, q2, q3, q4, q5, q6⟩ := cells7 HYB
        have HLW := hide hl1
        clear hb1 hl1 HB HCH
        go_upto_region 17 with fail
        clear p0 p1 p2 p3 p4 p5 p6 q0 q1 q2 q3 q4 q5 q6
        refine regN [.val 68 (Res.plain (.pointer (some ⟨w.heap.size + 1, 0, none⟩)) []), .val 69 (Res.plain (.pointer (some ⟨w.heap.size + 1, 1, none⟩)) []), .val 70 (Res.plain (.string (S a')) []), .val 71 (Res.plain (.pointer (some ⟨w.heap.size, 0, none⟩)) []), .val 72 (Res.plain (.pointer (some ⟨w.heap.size, 1, none⟩)) []), .val 73 (Res.plain (.string (S a)) []), .val 74 (Res.plain (.bool true) []), .val 75 (Res.plain (.bool true) []), .val 76 (Res.plain (.agg #[.int .i64 op', .string (S a'), .string (S b'), .int .i64 n', .int .i64 c', .string (S t'), .int .i64 m']) []), .val 77 (Res.plain (.bool WY) []), .val 78 (Res.plain (.agg #[.int .i64 12, .string (S a), .string (S b), .int .i64 n, .int .i64 c, .string (S t), .int .i64 m]) []), .val 79 (Res.plain (.bool WX) []), .val 80 (Res.plain (.bool (WY == WX)) []), .val 81 (Res.plain (.bool (WY == WX)) []), .val 4 (Res.plain (.bool (WY == WX)) [])] (fun i => if i = 1 then [0] else if i = 2 then [1] else if i = 4 then [3] else if i = 5 then [4] else if i = 6 then [2, 5] else if i = 7 then [6] else if i = 8 then [7] else if i = 9 then [7, 8] else if i = 10 then [7] else if i = 11 then [7, 10] else if i = 12 then [7, 9, 11] else if i = 13 then [7, 12] else if i = 14 then [13] else []) ?_ ?_ ?_ ?_ ?_ ?_ ?_ (fun i hi => ?_) ?_
        · kernel_rfl
        · rfl
        · kernel_rfl
        · kernel_rfl
        · kernel_rfl
        · kernel_rfl
        · kernel_rfl
        · have hc : i = 0 ∨ i = 1 ∨ i = 2 ∨ i = 3 ∨ i = 4 ∨ i = 5 ∨ i = 6 ∨ i = 7 ∨ i = 8 ∨ i = 9 ∨ i = 10 ∨ i = 11 ∨ i = 12 ∨ i = 13 ∨ i = 14 := by have : i < 15 := hi; omega
          clear hi
          rcases hc with rfl | rfl | rfl | rfl | rfl | rfl | rfl | rfl | rfl | rfl | rfl | rfl | rfl | rfl | rfl
          · with_reducible refine DoesN.plain (s := 68) (v := .pointer (some ⟨w.heap.size + 1, 0, none⟩)) ?_ ?_
            · rfl
            intro f wz K hb hd hK
            simp only [setN, upd, Nat.reduceAdd, Nat.reduceEqDiff, reduceIte, List.setIfInBounds_toArray, List.set_cons_zero, List.set_cons_succ] at hK ⊢
            refine wpOp_do rfl (by kernel_rfl) ?_
            unfold Oper.wp execOp
            go_simp
            exact hK _ (Below.refl _ _)
          · with_reducible refine DoesN.plain (s := 69) (v := .pointer (some ⟨w.heap.size + 1, 1, none⟩)) ?_ ?_
            · rfl
            intro f wz K hb hd hK
            have e0 : f 0 = .pointer (some ⟨w.heap.size + 1, 0, none⟩) := plainAt (s := 68) (cs := []) (hd 0 (by decide)) rfl
            simp only [setN, upd, Nat.reduceAdd, Nat.reduceEqDiff, reduceIte, List.setIfInBounds_toArray, List.set_cons_zero, List.set_cons_succ] at hK ⊢
            simp only [e0] at hK ⊢
            refine wpOp_do rfl (by kernel_rfl) ?_
            unfold Oper.wp execOp
            go_simp
            exact hK _ (Below.refl _ _)
          · with_reducible refine DoesN.plain (s := 70) (v := .string (S a')) ?_ ?_
            · rfl
            intro f wz K hb hd hK
            have e1 : f 1 = .pointer (some ⟨w.heap.size + 1, 1, none⟩) := plainAt (s := 69) (cs := []) (hd 1 (by decide)) rfl
            obtain ⟨p0, p1, p2, p3, p4, p5, p6⟩ := cells7 ((hb.block _ (block_lt HYB)).trans HYB)
            simp only [setN, upd, Nat.reduceAdd, Nat.reduceEqDiff, reduceIte, List.setIfInBounds_toArray, List.set_cons_zero, List.set_cons_succ] at hK ⊢
            simp only [e1] at hK ⊢
            refine wpOp_do rfl (by kernel_rfl) ?_
            unfold Oper.wp execOp
            go_simp
            exact hK _ (Below.refl _ _)
          · with_reducible refine DoesN.plain (s := 71) (v := .pointer (some ⟨w.heap.size, 0, none⟩)) ?_ ?_
            · rfl
            intro f wz K hb hd hK
            simp only [setN, upd, Nat.reduceAdd, Nat.reduceEqDiff, reduceIte, List.setIfInBounds_toArray, List.set_cons_zero, List.set_cons_succ] at hK ⊢
            refine wpOp_do rfl (by kernel_rfl) ?_
            unfold Oper.wp execOp
            go_simp
            exact hK _ (Below.refl _ _)
          · with_reducible refine DoesN.plain (s := 72) (v := .pointer (some ⟨w.heap.size, 1, none⟩)) ?_ ?_
            · rfl
            intro f wz K hb hd hK
            have e3 : f 3 = .pointer (some ⟨w.heap.size, 0, none⟩) := plainAt (s := 71) (cs := []) (hd 3 (by decide)) rfl
            simp only [setN, upd, Nat.reduceAdd, Nat.reduceEqDiff, reduceIte, List.setIfInBounds_toArray, List.set_cons_zero, List.set_cons_succ] at hK ⊢
            simp only [e3] at hK ⊢
            refine wpOp_do rfl (by kernel_rfl) ?_
            unfold Oper.wp execOp
            go_simp
            exact hK _ (Below.refl _ _)
          · with_reducible refine DoesN.plain (s := 73) (v := .string (S a)) ?_ ?_
            · rfl
            intro f wz K hb hd hK
            have e4 : f 4 = .pointer (some ⟨w.heap.size, 1, none⟩) := plainAt (s := 72) (cs := []) (hd 4 (by decide)) rfl
            obtain ⟨p0, p1, p2, p3, p4, p5, p6⟩ := cells7 ((hb.block _ (block_lt HXB)).trans HXB)
            simp only [setN, upd, Nat.reduceAdd, Nat.reduceEqDiff, reduceIte, List.setIfInBounds_toArray, List.set_cons_zero, List.set_cons_succ] at hK ⊢
            simp only [e4] at hK ⊢
            refine wpOp_do rfl (by kernel_rfl) ?_
            unfold Oper.wp execOp
            go_simp
            exact hK _ (Below.refl _ _)
          · with_reducible refine DoesN.plain (s := 74) (v := .bool true) ?_ ?_
            · rfl
            intro f wz K hb hd hK
            have e2 : f 2 = .string (S a') := plainAt (s := 70) (cs := []) (hd 2 (by decide)) rfl
            have e5 : f 5 = .string (S a) := plainAt (s := 73) (cs := []) (hd 5 (by decide)) rfl
            simp only [setN, upd, Nat.reduceAdd, Nat.reduceEqDiff, reduceIte, List.setIfInBounds_toArray, List.set_cons_zero, List.set_cons_succ] at hK ⊢
            simp only [e2, e5] at hK ⊢
            refine wpOp_do rfl (by kernel_rfl) ?_
            unfold Oper.wp execOp
            go_simp
            exact hK _ (Below.refl _ _)
          · with_reducible refine DoesN.plain (s := 75) (v := .bool true) ?_ ?_
            · rfl
            intro f wz K hb hd hK
            have e6 : f 6 = .bool true := plainAt (s := 74) (cs := []) (hd 6 (by decide)) rfl
            simp only [setN, upd, Nat.reduceAdd, Nat.reduceEqDiff, reduceIte, List.setIfInBounds_toArray, List.set_cons_zero, List.set_cons_succ] at hK ⊢
            simp only [e6] at hK ⊢
            refine wpOp_do rfl (by kernel_rfl) ?_
            unfold Oper.wp execOp
            go_simp
            exact hK _ (Below.refl _ _)
          · with_reducible refine DoesN.plain (s := 76) (v := .agg #[.int .i64 op', .string (S a'), .string (S b'), .int .i64 n', .int .i64 c', .string (S t'), .int .i64 m']) ?_ ?_
            · rfl
            intro f wz K hb hd hK
            have e7 : f 7 = .bool true := plainAt (s := 75) (cs := []) (hd 7 (by decide)) rfl
            obtain ⟨p0, p1, p2, p3, p4, p5, p6⟩ := cells7 ((hb.block _ (block_lt HYB)).trans HYB)
            simp only [setN, upd, Nat.reduceAdd, Nat.reduceEqDiff, reduceIte, List.setIfInBounds_toArray, List.set_cons_zero, List.set_cons_succ] at hK ⊢
            simp only [e7] at hK ⊢
            refine wpOp_do rfl (by kernel_rfl) ?_
            unfold Oper.wp execOp
            go_simp
            exact hK _ (Below.refl _ _)
          · with_reducible refine DoesN.plain (s := 77) (v := .bool WY) ?_ ?_
            · rfl
            intro f wz K hb hd hK
            have e7 : f 7 = .bool true := plainAt (s := 75) (cs := []) (hd 7 (by decide)) rfl
            have e8 : f 8 = .agg #[.int .i64 op', .string (S a'), .string (S b'), .int .i64 n', .int .i64 c', .string (S t'), .int .i64 m'] := plainAt (s := 76) (cs := []) (hd 8 (by decide)) rfl
            simp only [setN, upd, Nat.reduceAdd, Nat.reduceEqDiff, reduceIte, List.setIfInBounds_toArray, List.set_cons_zero, List.set_cons_succ] at hK ⊢
            simp only [e7, e8] at hK ⊢
            refine wpOp_do rfl (by kernel_rfl) ?_
            unfold Oper.wp execOp
            go_simp
            refine (unhide HWY _).mono ?_
            rintro e w' ⟨rfl, hb'⟩
            exact hK _ hb'
          · with_reducible refine DoesN.plain (s := 78) (v := .agg #[.int .i64 12, .string (S a), .string (S b), .int .i64 n, .int .i64 c, .string (S t), .int .i64 m]) ?_ ?_
            · rfl
            intro f wz K hb hd hK
            have e7 : f 7 = .bool true := plainAt (s := 75) (cs := []) (hd 7 (by decide)) rfl
            obtain ⟨p0, p1, p2, p3, p4, p5, p6⟩ := cells7 ((hb.block _ (block_lt HXB)).trans HXB)
            simp only [setN, upd, Nat.reduceAdd, Nat.reduceEqDiff, reduceIte, List.setIfInBounds_toArray, List.set_cons_zero, List.set_cons_succ] at hK ⊢
            simp only [e7] at hK ⊢
            refine wpOp_do rfl (by kernel_rfl) ?_
            unfold Oper.wp execOp
            go_simp
            exact hK _ (Below.refl _ _)
          · with_reducible refine DoesN.plain (s := 79) (v := .bool WX) ?_ ?_
            · rfl
            intro f wz K hb hd hK
            have e7 : f 7 = .bool true := plainAt (s := 75) (cs := []) (hd 7 (by decide)) rfl
            have e10 : f 10 = .agg #[.int .i64 12, .string (S a), .string (S b), .int .i64 n, .int .i64 c, .string (S t), .int .i64 m] := plainAt (s := 78) (cs := []) (hd 10 (by decide)) rfl
            simp only [setN, upd, Nat.reduceAdd, Nat.reduceEqDiff, reduceIte, List.setIfInBounds_toArray, List.set_cons_zero, List.set_cons_succ] at hK ⊢
            simp only [e7, e10] at hK ⊢
            refine wpOp_do rfl (by kernel_rfl) ?_
            unfold Oper.wp execOp
            go_simp
            refine (unhide HWX _).mono ?_
            rintro e w' ⟨rfl, hb'⟩
            exact hK _ hb'
          · with_reducible refine DoesN.plain (s := 80) (v := .bool (WY == WX)) ?_ ?_
            · rfl
            intro f wz K hb hd hK
            have e7 : f 7 = .bool true := plainAt (s := 75) (cs := []) (hd 7 (by decide)) rfl
            have e9 : f 9 = .bool WY := plainAt (s := 77) (cs := []) (hd 9 (by decide)) rfl
            have e11 : f 11 = .bool WX := plainAt (s := 79) (cs := []) (hd 11 (by decide)) rfl
            simp only [setN, upd, Nat.reduceAdd, Nat.reduceEqDiff, reduceIte, List.setIfInBounds_toArray, List.set_cons_zero, List.set_cons_succ] at hK ⊢
            simp only [e7, e9, e11] at hK ⊢
            refine wpOp_do rfl (by kernel_rfl) ?_
            unfold Oper.wp execOp
            go_simp
            exact hK _ (Below.refl _ _)
          · with_reducible refine DoesN.plain (s := 81) (v := .bool (WY == WX)) ?_ ?_
            · rfl
            intro f wz K hb hd hK
            have e7 : f 7 = .bool true := plainAt (s := 75) (cs := []) (hd 7 (by decide)) rfl
            have e12 : f 12 = .bool (WY == WX) := plainAt (s := 80) (cs := []) (hd 12 (by decide)) rfl
            simp only [setN, upd, Nat.reduceAdd, Nat.reduceEqDiff, reduceIte, List.setIfInBounds_toArray, List.set_cons_zero, List.set_cons_succ] at hK ⊢
            simp only [e7, e12] at hK ⊢
            refine wpOp_do rfl (by kernel_rfl) ?_
            unfold Oper.wp execOp
            go_simp
            exact hK _ (Below.refl _ _)
          · with_reducible refine DoesN.plain (s := 4) (v := .bool (WY == WX)) ?_ ?_
            · rfl
            intro f wz K hb hd hK
            have e13 : f 13 = .bool (WY == WX) := plainAt (s := 81) (cs := []) (hd 13 (by decide)) rfl
            simp only [setN, upd, Nat.reduceAdd, Nat.reduceEqDiff, reduceIte, List.setIfInBounds_toArray, List.set_cons_zero, List.set_cons_succ] at hK ⊢
            simp only [e13] at hK ⊢
            refine wpOp_do rfl (by kernel_rfl) ?_
            unfold Oper.wp execOp
            go_simp
            exact hK _ (Below.refl _ _)
        · intro f wE hbE hv hp hne ho
          have h0 : f 0 = .pointer (some ⟨w.heap.size + 1, 0, none⟩) := plainAt (s := 68) (cs := []) (hv 0) rfl
          have h1 : f 1 = .pointer (some ⟨w.heap.size + 1, 1, none⟩) := plainAt (s := 69) (cs := []) (hv 1) rfl
          have h2 : f 2 = .string (S a') := plainAt (s := 70) (cs := []) (hv 2) rfl
          have h3 : f 3 = .pointer (some ⟨w.heap.size, 0, none⟩) := plainAt (s := 71) (cs := []) (hv 3) rfl
          have h4 : f 4 = .pointer (some ⟨w.heap.size, 1, none⟩) := plainAt (s := 72) (cs := []) (hv 4) rfl
          have h5 : f 5 = .string (S a) := plainAt (s := 73) (cs := []) (hv 5) rfl
          have h6 : f 6 = .bool true := plainAt (s := 74) (cs := []) (hv 6) rfl
          have h7 : f 7 = .bool true := plainAt (s := 75) (cs := []) (hv 7) rfl
          have h8 : f 8 = .agg #[.int .i64 op', .string (S a'), .string (S b'), .int .i64 n', .int .i64 c', .string (S t'), .int .i64 m'] := plainAt (s := 76) (cs := []) (hv 8) rfl
          have h9 : f 9 = .bool WY := plainAt (s := 77) (cs := []) (hv 9) rfl
          have h10 : f 10 = .agg #[.int .i64 12, .string (S a), .string (S b), .int .i64 n, .int .i64 c, .string (S t), .int .i64 m] := plainAt (s := 78) (cs := []) (hv 10) rfl
          have h11 : f 11 = .bool WX := plainAt (s := 79) (cs := []) (hv 11) rfl
          have h12 : f 12 = .bool (WY == WX) := plainAt (s := 80) (cs := []) (hv 12) rfl
          have h13 : f 13 = .bool (WY == WX) := plainAt (s := 81) (cs := []) (hv 13) rfl
          have h14 : f 14 = .bool (WY == WX) := plainAt (s := 4) (cs := []) (hv 14) rfl
          simp only [setN, Nat.reduceAdd, List.setIfInBounds_toArray, List.set_cons_zero, List.set_cons_succ]
          simp only [h0, h1, h2, h3, h4, h5, h6, h7, h8, h9, h10, h11, h12, h13, h14]
          clear h0 h1 h2 h3 h4 h5 h6 h7 h8 h9 h10 h11 h12 h13 h14
          have HE := hide (unhide HF _ _ (unhide HLW) hbE)
          clear hbE hv hp hne ho
          go_wp2_with fail
          go_ret
          exact ⟨rfl, unhide HE⟩
    · rw [decide_eq_false hab] at hE ⊢
      rw [Bool.false_and]
      clear hab
      rcases h8 with rfl | rfl | rfl | rfl
      · go_enter Tryd.func29, Tryd.ntmps29
        go_wp2_with fail
        refine (unhide HCH _).mono ?_
        rintro e w1 ⟨rfl, hb1⟩
        obtain ⟨HXB, HYB, hl1⟩ := boxes_on hb1
        obtain ⟨p0, p1, p2, p3, p4, p5, p6⟩ := cells7 HXB
        obtain ⟨q0, q1, q2, q3, q4, q5, q6⟩ := cells7 HYB
        have HLW := hide hl1
        clear hb1 hl1 HB HCH
        go_upto_region 17 with fail
        clear p0 p1 p2 p3 p4 p5 p6 q0 q1 q2 q3 q4 q5 q6
        refine regN [.val 68 (Res.plain (.pointer (some ⟨w.heap.size + 1, 0, none⟩)) []), .val 69 (Res.plain (.pointer (some ⟨w.heap.size + 1, 1, none⟩)) []), .val 70 (Res.plain (.string (S a')) []), .val 71 (Res.plain (.pointer (some ⟨w.heap.size, 0, none⟩)) []), .val 72 (Res.plain (.pointer (some ⟨w.heap.size, 1, none⟩)) []), .val 73 (Res.plain (.string (S a)) []), .val 74 (Res.plain (.bool false) []), .val 75 (Res.plain (.bool false) []), .val 76 (Res.plain (undef) []), .val 77 (Res.plain (undef) []), .val 78 (Res.plain (undef) []), .val 79 (Res.plain (undef) []), .val 80 (Res.plain (undef) []), .val 81 (Res.plain (.bool false) []), .val 4 (Res.plain (.bool false) [])] (fun i => if i = 1 then [0] else if i = 2 then [1] else if i = 4 then [3] else if i = 5 then [4] else if i = 6 then [2, 5] else if i = 7 then [6] else if i = 8 then [7] else if i = 9 then [7, 8] else if i = 10 then [7] else if i = 11 then [7, 10] else if i = 12 then [7, 9, 11] else if i = 13 then [7, 12] else if i = 14 then [13] else []) ?_ ?_ ?_ ?_ ?_ ?_ ?_ (fun i hi => ?_) ?_
        · kernel_rfl
        · rfl
        · kernel_rfl
        · kernel_rfl
        · kernel_rfl
        · kernel_rfl
        · kernel_rfl
        · have hc : i = 0 ∨ i = 1 ∨ i = 2 ∨ i = 3 ∨ i = 4 ∨ i = 5 ∨ i = 6 ∨ i = 7 ∨ i = 8 ∨ i = 9 ∨ i = 10 ∨ i = 11 ∨ i = 12 ∨ i = 13 ∨ i = 14 := by have : i < 15 := hi; omega
          clear hi
          rcases hc with rfl | rfl | rfl | rfl | rfl | rfl | rfl | rfl | rfl | rfl | rfl | rfl | rfl | rfl | rfl
          · with_reducible refine DoesN.plain (s := 68) (v := .pointer (some ⟨w.heap.size + 1, 0, none⟩)) ?_ ?_
            · rfl
            intro f wz K hb hd hK
            simp only [setN, upd, Nat.reduceAdd, Nat.reduceEqDiff, reduceIte, List.setIfInBounds_toArray, List.set_cons_zero, List.set_cons_succ] at hK ⊢
            refine wpOp_do rfl (by kernel_rfl) ?_
            unfold Oper.wp execOp
            go_simp
            exact hK _ (Below.refl _ _)
          · with_reducible refine DoesN.plain (s := 69) (v := .pointer (some ⟨w.heap.size + 1, 1, none⟩)) ?_ ?_
            · rfl
            intro f wz K hb hd hK
            have e0 : f 0 = .pointer (some ⟨w.heap.size + 1, 0, none⟩) := plainAt (s := 68) (cs := []) (hd 0 (by decide)) rfl
            simp only [setN, upd, Nat.reduceAdd, Nat.reduceEqDiff, reduceIte, List.setIfInBounds_toArray, List.set_cons_zero, List.set_cons_succ] at hK ⊢
            simp only [e0] at hK ⊢
            refine wpOp_do rfl (by kernel_rfl) ?_
            unfold Oper.wp execOp
            go_simp
            exact hK _ (Below.refl _ _)
          · with_reducible refine DoesN.plain (s := 70) (v := .string (S a')) ?_ ?_
            · rfl
            intro f wz K hb hd hK
            have e1 : f 1 = .pointer (some ⟨w.heap.size + 1, 1, none⟩) := plainAt (s := 69) (cs := []) (hd 1 (by decide)) rfl
            obtain ⟨p0, p1, p2, p3, p4, p5, p6⟩ := cells7 ((hb.block _ (block_lt HYB)).trans HYB)
            simp only [setN, upd, Nat.reduceAdd, Nat.reduceEqDiff, reduceIte, List.setIfInBounds_toArray, List.set_cons_zero, List.set_cons_succ] at hK ⊢
            simp only [e1] at hK ⊢
            refine wpOp_do rfl (by kernel_rfl) ?_
            unfold Oper.wp execOp
            go_simp
            exact hK _ (Below.refl _ _)
          · with_reducible refine DoesN.plain (s := 71) (v := .pointer (some ⟨w.heap.size, 0, none⟩)) ?_ ?_
            · rfl
            intro f wz K hb hd hK
            simp only [setN, upd, Nat.reduceAdd, Nat.reduceEqDiff, reduceIte, List.setIfInBounds_toArray, List.set_cons_zero, List.set_cons_succ] at hK ⊢
            refine wpOp_do rfl (by kernel_rfl) ?_
            unfold Oper.wp execOp
            go_simp
            exact hK _ (Below.refl _ _)
          · with_reducible refine DoesN.plain (s := 72) (v := .pointer (some ⟨w.heap.size, 1, none⟩)) ?_ ?_
            · rfl
            intro f wz K hb hd hK
            have e3 : f 3 = .pointer (some ⟨w.heap.size, 0, none⟩) := plainAt (s := 71) (cs := []) (hd 3 (by decide)) rfl
            simp only [setN, upd, Nat.reduceAdd, Nat.reduceEqDiff, reduceIte, List.setIfInBounds_toArray, List.set_cons_zero, List.set_cons_succ] at hK ⊢
            simp only [e3] at hK ⊢
            refine wpOp_do rfl (by kernel_rfl) ?_
            unfold Oper.wp execOp
            go_simp
            exact hK _ (Below.refl _ _)
          · with_reducible refine DoesN.plain (s := 73) (v := .string (S a)) ?_ ?_
            · rfl
            intro f wz K hb hd hK
            have e4 : f 4 = .pointer (some ⟨w.heap.size, 1, none⟩) := plainAt (s := 72) (cs := []) (hd 4 (by decide)) rfl
            obtain ⟨p0, p1, p2, p3, p4, p5, p6⟩ := cells7 ((hb.block _ (block_lt HXB)).trans HXB)
            simp only [setN, upd, Nat.reduceAdd, Nat.reduceEqDiff, reduceIte, List.setIfInBounds_toArray, List.set_cons_zero, List.set_cons_succ] at hK ⊢
            simp only [e4] at hK ⊢
            refine wpOp_do rfl (by kernel_rfl) ?_
            unfold Oper.wp execOp
            go_simp
            exact hK _ (Below.refl _ _)
          · with_reducible refine DoesN.plain (s := 74) (v := .bool false) ?_ ?_
            · rfl
            intro f wz K hb hd hK
            have e2 : f 2 = .string (S a') := plainAt (s := 70) (cs := []) (hd 2 (by decide)) rfl
            have e5 : f 5 = .string (S a) := plainAt (s := 73) (cs := []) (hd 5 (by decide)) rfl
            simp only [setN, upd, Nat.reduceAdd, Nat.reduceEqDiff, reduceIte, List.setIfInBounds_toArray, List.set_cons_zero, List.set_cons_succ] at hK ⊢
            simp only [e2, e5] at hK ⊢
            refine wpOp_do rfl (by kernel_rfl) ?_
            unfold Oper.wp execOp
            go_simp
            exact hK _ (Below.refl _ _)
          · with_reducible refine DoesN.plain (s := 75) (v := .bool false) ?_ ?_
            · rfl
            intro f wz K hb hd hK
            have e6 : f 6 = .bool false := plainAt (s := 74) (cs := []) (hd 6 (by decide)) rfl
            simp only [setN, upd, Nat.reduceAdd, Nat.reduceEqDiff, reduceIte, List.setIfInBounds_toArray, List.set_cons_zero, List.set_cons_succ] at hK ⊢
            simp only [e6] at hK ⊢
            refine wpOp_do rfl (by kernel_rfl) ?_
            unfold Oper.wp execOp
            go_simp
            exact hK _ (Below.refl _ _)
          · with_reducible refine DoesN.plain (s := 76) (v := undef) ?_ ?_
            · rfl
            intro f wz K hb hd hK
            have e7 : f 7 = .bool false := plainAt (s := 75) (cs := []) (hd 7 (by decide)) rfl
            simp only [setN, upd, Nat.reduceAdd, Nat.reduceEqDiff, reduceIte, List.setIfInBounds_toArray, List.set_cons_zero, List.set_cons_succ] at hK ⊢
            simp only [e7] at hK ⊢
            refine wpOp_skip rfl (by kernel_rfl) ?_
            go_simp
            exact hK _ (Below.refl _ _)
          · with_reducible refine DoesN.plain (s := 77) (v := undef) ?_ ?_
            · rfl
            intro f wz K hb hd hK
            have e7 : f 7 = .bool false := plainAt (s := 75) (cs := []) (hd 7 (by decide)) rfl
            have e8 : f 8 = undef := plainAt (s := 76) (cs := []) (hd 8 (by decide)) rfl
            simp only [setN, upd, Nat.reduceAdd, Nat.reduceEqDiff, reduceIte, List.setIfInBounds_toArray, List.set_cons_zero, List.set_cons_succ] at hK ⊢
            simp only [e7, e8] at hK ⊢
            refine wpOp_skip rfl (by kernel_rfl) ?_
            go_simp
            exact hK _ (Below.refl _ _)
          · with_reducible refine DoesN.plain (s := 78) (v := undef) ?_ ?_
            · rfl
            intro f wz K hb hd hK
            have e7 : f 7 = .bool false := plainAt (s := 75) (cs := []) (hd 7 (by decide)) rfl
            simp only [setN, upd, Nat.reduceAdd, Nat.reduceEqDiff, reduceIte, List.setIfInBounds_toArray, List.set_cons_zero, List.set_cons_succ] at hK ⊢
            simp only [e7] at hK ⊢
            refine wpOp_skip rfl (by kernel_rfl) ?_
            go_simp
            exact hK _ (Below.refl _ _)
          · with_reducible refine DoesN.plain (s := 79) (v := undef) ?_ ?_
            · rfl
            intro f wz K hb hd hK
            have e7 : f 7 = .bool false := plainAt (s := 75) (cs := []) (hd 7 (by decide)) rfl
            have e10 : f 10 = undef := plainAt (s := 78) (cs := []) (hd 10 (by decide)) rfl
            simp only [setN, upd, Nat.reduceAdd, Nat.reduceEqDiff, reduceIte, List.setIfInBounds_toArray, List.set_cons_zero, List.set_cons_succ] at hK ⊢
            simp only [e7, e10] at hK ⊢
            refine wpOp_skip rfl (by kernel_rfl) ?_
            go_simp
            exact hK _ (Below.refl _ _)
          · with_reducible refine DoesN.plain (s := 80) (v := undef) ?_ ?_
            · rfl
            intro f wz K hb hd hK
            have e7 : f 7 = .bool false := plainAt (s := 75) (cs := []) (hd 7 (by decide)) rfl
            have e9 : f 9 = undef := plainAt (s := 77) (cs := []) (hd 9 (by decide)) rfl
            have e11 : f 11 = undef := plainAt (s := 79) (cs := []) (hd 11 (by decide)) rfl
            simp only [setN, upd, Nat.reduceAdd, Nat.reduceEqDiff, reduceIte, List.setIfInBounds_toArray, List.set_cons_zero, List.set_cons_succ] at hK ⊢
            simp only [e7, e9, e11] at hK ⊢
            refine wpOp_skip rfl (by kernel_rfl) ?_
            go_simp
            exact hK _ (Below.refl _ _)
          · with_reducible refine DoesN.plain (s := 81) (v := .bool false) ?_ ?_
            · rfl
            intro f wz K hb hd hK
            have e7 : f 7 = .bool false := plainAt (s := 75) (cs := []) (hd 7 (by decide)) rfl
            have e12 : f 12 = undef := plainAt (s := 80) (cs := []) (hd 12 (by decide)) rfl
            simp only [setN, upd, Nat.reduceAdd, Nat.reduceEqDiff, reduceIte, List.setIfInBounds_toArray, List.set_cons_zero, List.set_cons_succ] at hK ⊢
            simp only [e7, e12] at hK ⊢
            refine wpOp_do rfl (by kernel_rfl) ?_
            unfold Oper.wp execOp
            go_simp
            exact hK _ (Below.refl _ _)
          · with_reducible refine DoesN.plain (s := 4) (v := .bool false) ?_ ?_
            · rfl
            intro f wz K hb hd hK
            have e13 : f 13 = .bool false := plainAt (s := 81) (cs := []) (hd 13 (by decide)) rfl
            simp only [setN, upd, Nat.reduceAdd, Nat.reduceEqDiff, reduceIte, List.setIfInBounds_toArray, List.set_cons_zero, List.set_cons_succ] at hK ⊢
            simp only [e13] at hK ⊢
            refine wpOp_do rfl (by kernel_rfl) ?_
            unfold Oper.wp execOp
            go_simp
            exact hK _ (Below.refl _ _)
        · intro f wE hbE hv hp hne ho
          have h0 : f 0 = .pointer (some ⟨w.heap.size + 1, 0, none⟩) := plainAt (s := 68) (cs := []) (hv 0) rfl
          have h1 : f 1 = .pointer (some ⟨w.heap.size + 1, 1, none⟩) := plainAt (s := 69) (cs := []) (hv 1) rfl
          have h2 : f 2 = .string (S a') := plainAt (s := 70) (cs := []) (hv 2) rfl
          have h3 : f 3 = .pointer (some ⟨w.heap.size, 0, none⟩) := plainAt (s := 71) (cs := []) (hv 3) rfl
          have h4 : f 4 = .pointer (some ⟨w.heap.size, 1, none⟩) := plainAt (s := 72) (cs := []) (hv 4) rfl
          have h5 : f 5 = .string (S a) := plainAt (s := 73) (cs := []) (hv 5) rfl
          have h6 : f 6 = .bool false := plainAt (s := 74) (cs := []) (hv 6) rfl
          have h7 : f 7 = .bool false := plainAt (s := 75) (cs := []) (hv 7) rfl
          have h8 : f 8 = undef := plainAt (s := 76) (cs := []) (hv 8) rfl
          have h9 : f 9 = undef := plainAt (s := 77) (cs := []) (hv 9) rfl
          have h10 : f 10 = undef := plainAt (s := 78) (cs := []) (hv 10) rfl
          have h11 : f 11 = undef := plainAt (s := 79) (cs := []) (hv 11) rfl
          have h12 : f 12 = undef := plainAt (s := 80) (cs := []) (hv 12) rfl
          have h13 : f 13 = .bool false := plainAt (s := 81) (cs := []) (hv 13) rfl
          have h14 : f 14 = .bool false := plainAt (s := 4) (cs := []) (hv 14) rfl
          simp only [setN, Nat.reduceAdd, List.setIfInBounds_toArray, List.set_cons_zero, List.set_cons_succ]
          simp only [h0, h1, h2, h3, h4, h5, h6, h7, h8, h9, h10, h11, h12, h13, h14]
          clear h0 h1 h2 h3 h4 h5 h6 h7 h8 h9 h10 h11 h12 h13 h14
          have HE := hide (unhide HF _ _ (unhide HLW) hbE)
          clear hbE hv hp hne ho
          go_wp2_with fail
          go_ret
          exact ⟨rfl, unhide HE⟩
      · go_enter Tryd.func29, Tryd.ntmps29
        go_wp2_with fail
        refine (unhide HCH _).mono ?_
        rintro e w1 ⟨rfl, hb1⟩
        obtain ⟨HXB, HYB, hl1⟩ := boxes_on hb1
        obtain ⟨p0, p1, p2, p3, p4, p5, p6⟩ := cells7 HXB
        obtain ⟨q0, q1, q2, q3, q4, q5, q6⟩ := cells7 HYB
        have HLW := hide hl1
        clear hb1 hl1 HB HCH
        go_upto_region 17 with fail
        clear p0 p1 p2 p3 p4 p5 p6 q0 q1 q2 q3 q4 q5 q6
        refine regN [.val 68 (Res.plain (.pointer (some ⟨w.heap.size + 1, 0, none⟩)) []), .val 69 (Res.plain (.pointer (some ⟨w.heap.size + 1, 1, none⟩)) []), .val 70 (Res.plain (.string (S a')) []), .val 71 (Res.plain (.pointer (some ⟨w.heap.size, 0, none⟩)) []), .val 72 (Res.plain (.pointer (some ⟨w.heap.size, 1, none⟩)) []), .val 73 (Res.plain (.string (S a)) []), .val 74 (Res.plain (.bool false) []), .val 75 (Res.plain (.bool false) []), .val 76 (Res.plain (undef) []), .val 77 (Res.plain (undef) []), .val 78 (Res.plain (undef) []), .val 79 (Res.plain (undef) []), .val 80 (Res.plain (undef) []), .val 81 (Res.plain (.bool false) []), .val 4 (Res.plain (.bool false) [])] (fun i => if i = 1 then [0] else if i = 2 then [1] else if i = 4 then [3] else if i = 5 then [4] else if i = 6 then [2, 5] else if i = 7 then [6] else if i = 8 then [7] else if i = 9 then [7, 8] else if i = 10 then [7] else if i = 11 then [7, 10] else if i = 12 then [7, 9, 11] else if i = 13 then [7, 12] else if i = 14 then [13] else []) ?_ ?_ ?_ ?_ ?_ ?_ ?_ (fun i hi => ?_) ?_
        · kernel_rfl
        · rfl
        · kernel_rfl
        · kernel_rfl
        · kernel_rfl
        · kernel_rfl
        · kernel_rfl
        · have hc : i = 0 ∨ i = 1 ∨ i = 2 ∨ i = 3 ∨ i = 4 ∨ i = 5 ∨ i = 6 ∨ i = 7 ∨ i = 8 ∨ i = 9 ∨ i = 10 ∨ i = 11 ∨ i = 12 ∨ i = 13 ∨ i = 14 := by have : i < 15 := hi; omega
          clear hi
          rcases hc with rfl | rfl | rfl | rfl | rfl | rfl | rfl | rfl | rfl | rfl | rfl | rfl | rfl | rfl | rfl
          · with_reducible refine DoesN.plain (s := 68) (v := .pointer (some ⟨w.heap.size + 1, 0, none⟩)) ?_ ?_
            · rfl
            intro f wz K hb hd hK
            simp only [setN, upd, Nat.reduceAdd, Nat.reduceEqDiff, reduceIte, List.setIfInBounds_toArray, List.set_cons_zero, List.set_cons_succ] at hK ⊢
            refine wpOp_do rfl (by kernel_rfl) ?_
            unfold Oper.wp execOp
            go_simp
            exact hK _ (Below.refl _ _)
          · with_reducible refine DoesN.plain (s := 69) (v := .pointer (some ⟨w.heap.size + 1, 1, none⟩)) ?_ ?_
            · rfl
            intro f wz K hb hd hK
            have e0 : f 0 = .pointer (some ⟨w.heap.size + 1, 0, none⟩) := plainAt (s := 68) (cs := []) (hd 0 (by decide)) rfl
            simp only [setN, upd, Nat.reduceAdd, Nat.reduceEqDiff, reduceIte, List.setIfInBounds_toArray, List.set_cons_zero, List.set_cons_succ] at hK ⊢
            simp only [e0] at hK ⊢
            refine wpOp_do rfl (by kernel_rfl) ?_
            unfold Oper.wp execOp
            go_simp
            exact hK _ (Below.refl _ _)
          · with_reducible refine DoesN.plain (s := 70) (v := .string (S a')) ?_ ?_
            · rfl
            intro f wz K hb hd hK
            have e1 : f 1 = .pointer (some ⟨w.heap.size + 1, 1, none⟩) := plainAt (s := 69) (cs := []) (hd 1 (by decide)) rfl
            obtain ⟨p0, p1, p2, p3, p4, p5, p6⟩ := cells7 ((hb.block _ (block_lt HYB)).trans HYB)
            simp only [setN, upd, Nat.reduceAdd, Nat.reduceEqDiff, reduceIte, List.setIfInBounds_toArray, List.set_cons_zero, List.set_cons_succ] at hK ⊢
            simp only [e1] at hK ⊢
            refine wpOp_do rfl (by kernel_rfl) ?_
            unfold Oper.wp execOp
            go_simp
            exact hK _ (Below.refl _ _)
          · with_reducible refine DoesN.plain (s := 71) (v := .pointer (some ⟨w.heap.size, 0, none⟩)) ?_ ?_
            · rfl
            intro f wz K hb hd hK
            simp only [setN, upd, Nat.reduceAdd, Nat.reduceEqDiff, reduceIte, List.setIfInBounds_toArray, List.set_cons_zero, List.set_cons_succ] at hK ⊢
            refine wpOp_do rfl (by kernel_rfl) ?_
            unfold Oper.wp execOp
            go_simp
            exact hK _ (Below.refl _ _)
          · with_reducible refine DoesN.plain (s := 72) (v := .pointer (some ⟨w.heap.size, 1, none⟩)) ?_ ?_
            · rfl
            intro f wz K hb hd hK
            have e3 : f 3 = .pointer (some ⟨w.heap.size, 0, none⟩) := plainAt (s := 71) (cs := []) (hd 3 (by decide)) rfl
            simp only [setN, upd, Nat.reduceAdd, Nat.reduceEqDiff, reduceIte, List.setIfInBounds_toArray, List.set_cons_zero, List.set_cons_succ] at hK ⊢
            simp only [e3] at hK ⊢
            refine wpOp_do rfl (by kernel_rfl) ?_
            unfold Oper.wp execOp
            go_simp
            exact hK _ (Below.refl _ _)
          · with_reducible refine DoesN.plain (s := 73) (v := .string (S a)) ?_ ?_
            · rfl
            intro f wz K hb hd hK
            have e4 : f 4 = .pointer (some ⟨w.heap.size, 1, none⟩) := plainAt (s := 72) (cs := []) (hd 4 (by decide)) rfl
            obtain ⟨p0, p1, p2, p3, p4, p5, p6⟩ := cells7 ((hb.block _ (block_lt HXB)).trans HXB)
            simp only [setN, upd, Nat.reduceAdd, Nat.reduceEqDiff, reduceIte, List.setIfInBounds_toArray, List.set_cons_zero, List.set_cons_succ] at hK ⊢
            simp only [e4] at hK ⊢
            refine wpOp_do rfl (by kernel_rfl) ?_
            unfold Oper.wp execOp
            go_simp
            exact hK _ (Below.refl _ _)
          · with_reducible refine DoesN.plain (s := 74) (v := .bool false) ?_ ?_
            · rfl
            intro f wz K hb hd hK
            have e2 : f 2 = .string (S a') := plainAt (s := 70) (cs := []) (hd 2 (by decide)) rfl
            have e5 : f 5 = .string (S a) := plainAt (s := 73) (cs := []) (hd 5 (by decide)) rfl
            simp only [setN, upd, Nat.reduceAdd, Nat.reduceEqDiff, reduceIte, List.setIfInBounds_toArray, List.set_cons_zero, List.set_cons_succ] at hK ⊢
            simp only [e2, e5] at hK ⊢
            refine wpOp_do rfl (by kernel_rfl) ?_
            unfold Oper.wp execOp
            go_simp
            exact hK _ (Below.refl _ _)
          · with_reducible refine DoesN.plain (s := 75) (v := .bool false) ?_ ?_
            · rfl
            intro f wz K hb hd hK
            have e6 : f 6 = .bool false := plainAt (s := 74) (cs := []) (hd 6 (by decide)) rfl
            simp only [setN, upd, Nat.reduceAdd, Nat.reduceEqDiff, reduceIte, List.setIfInBounds_toArray, List.set_cons_zero, List.set_cons_succ] at hK ⊢
            simp only [e6] at hK ⊢
            refine wpOp_do rfl (by kernel_rfl) ?_
            unfold Oper.wp execOp
            go_simp
            exact hK _ (Below.refl _ _)
          · with_reducible refine DoesN.plain (s := 76) (v := undef) ?_ ?_
            · rfl
            intro f wz K hb hd hK
            have e7 : f 7 = .bool false := plainAt (s := 75) (cs := []) (hd 7 (by decide)) rfl
            simp only [setN, upd, Nat.reduceAdd, Nat.reduceEqDiff, reduceIte, List.setIfInBounds_toArray, List.set_cons_zero, List.set_cons_succ] at hK ⊢
            simp only [e7] at hK ⊢
            refine wpOp_skip rfl (by kernel_rfl) ?_
            go_simp
            exact hK _ (Below.refl _ _)
          · with_reducible refine DoesN.plain (s := 77) (v := undef) ?_ ?_
            · rfl
            intro f wz K hb hd hK
            have e7 : f 7 = .bool false := plainAt (s := 75) (cs := []) (hd 7 (by decide)) rfl
            have e8 : f 8 = undef := plainAt (s := 76) (cs := []) (hd 8 (by decide)) rfl
            simp only [setN, upd, Nat.reduceAdd, Nat.reduceEqDiff, reduceIte, List.setIfInBounds_toArray, List.set_cons_zero, List.set_cons_succ] at hK ⊢
            simp only [e7, e8] at hK ⊢
            refine wpOp_skip rfl (by kernel_rfl) ?_
            go_simp
            exact hK _ (Below.refl _ _)
          · with_reducible refine DoesN.plain (s := 78) (v := undef) ?_ ?_
            · rfl
            intro f wz K hb hd hK
            have e7 : f 7 = .bool false := plainAt (s := 75) (cs := []) (hd 7 (by decide)) rfl
            simp only [setN, upd, Nat.reduceAdd, Nat.reduceEqDiff, reduceIte, List.setIfInBounds_toArray, List.set_cons_zero, List.set_cons_succ] at hK ⊢
            simp only [e7] at hK ⊢
            refine wpOp_skip rfl (by kernel_rfl) ?_
            go_simp
            exact hK _ (Below.refl _ _)
          · with_reducible refine DoesN.plain (s := 79) (v := undef) ?_ ?_
            · rfl
            intro f wz K hb hd hK
            have e7 : f 7 = .bool false := plainAt (s := 75) (cs := []) (hd 7 (by decide)) rfl
            have e10 : f 10 = undef := plainAt (s := 78) (cs := []) (hd 10 (by decide)) rfl
            simp only [setN, upd, Nat.reduceAdd, Nat.reduceEqDiff, reduceIte, List.setIfInBounds_toArray, List.set_cons_zero, List.set_cons_succ] at hK ⊢
            simp only [e7, e10] at hK ⊢
            refine wpOp_skip rfl (by kernel_rfl) ?_
            go_simp
            exact hK _ (Below.refl _ _)
          · with_reducible refine DoesN.plain (s := 80) (v := undef) ?_ ?_
            · rfl
            intro f wz K hb hd hK
            have e7 : f 7 = .bool false := plainAt (s := 75) (cs := []) (hd 7 (by decide)) rfl
            have e9 : f 9 = undef := plainAt (s := 77) (cs := []) (hd 9 (by decide)) rfl
            have e11 : f 11 = undef := plainAt (s := 79) (cs := []) (hd 11 (by decide)) rfl
            simp only [setN, upd, Nat.reduceAdd, Nat.reduceEqDiff, reduceIte, List.setIfInBounds_toArray, List.set_cons_zero, List.set_cons_succ] at hK ⊢
            simp only [e7, e9, e11] at hK ⊢
            refine wpOp_skip rfl (by kernel_rfl) ?_
            go_simp
            exact hK _ (Below.refl _ _)
          · with_reducible refine DoesN.plain (s := 81) (v := .bool false) ?_ ?_
            · rfl
            intro f wz K hb hd hK
            have e7 : f 7 = .bool false := plainAt (s := 75) (cs := []) (hd 7 (by decide)) rfl
            have e12 : f 12 = undef := plainAt (s := 80) (cs := []) (hd 12 (by decide)) rfl
            simp only [setN, upd, Nat.reduceAdd, Nat.reduceEqDiff, reduceIte, List.setIfInBounds_toArray, List.set_cons_zero, List.set_cons_succ] at hK ⊢
            simp only [e7, e12] at hK ⊢
            refine wpOp_do rfl (by kernel_rfl) ?_
            unfold Oper.wp execOp
            go_simp
            exact hK _ (Below.refl _ _)
          · with_reducible refine DoesN.plain (s := 4) (v := .bool false) ?_ ?_
            · rfl
            intro f wz K hb hd hK
            have e13 : f 13 = .bool false := plainAt (s := 81) (cs := []) (hd 13 (by decide)) rfl
            simp only [setN, upd, Nat.reduceAdd, Nat.reduceEqDiff, reduceIte, List.setIfInBounds_toArray, List.set_cons_zero, List.set_cons_succ] at hK ⊢
            simp only [e13] at hK ⊢
            refine wpOp_do rfl (by kernel_rfl) ?_
            unfold Oper.wp execOp
            go_simp
            exact hK _ (Below.refl _ _)
        · intro f wE hbE hv hp hne ho
          have h0 : f 0 = .pointer (some ⟨w.heap.size + 1, 0, none⟩) := plainAt (s := 68) (cs := []) (hv 0) rfl
          have h1 : f 1 = .pointer (some ⟨w.heap.size + 1, 1, none⟩) := plainAt (s := 69) (cs := []) (hv 1) rfl
          have h2 : f 2 = .string (S a') := plainAt (s := 70) (cs := []) (hv 2) rfl
          have h3 : f 3 = .pointer (some ⟨w.heap.size, 0, none⟩) := plainAt (s := 71) (cs := []) (hv 3) rfl
          have h4 : f 4 = .pointer (some ⟨w.heap.size, 1, none⟩) := plainAt (s := 72) (cs := []) (hv 4) rfl
          have h5 : f 5 = .string (S a) := plainAt (s := 73) (cs := []) (hv 5) rfl
          have h6 : f 6 = .bool false := plainAt (s := 74) (cs := []) (hv 6) rfl
          have h7 : f 7 = .bool false := plainAt (s := 75) (cs := []) (hv 7) rfl
          have h8 : f 8 = undef := plainAt (s := 76) (cs := []) (hv 8) rfl
          have h9 : f 9 = undef := plainAt (s := 77) (cs := []) (hv 9) rfl
          have h10 : f 10 = undef := plainAt (s := 78) (cs := []) (hv 10) rfl
          have h11 : f 11 = undef := plainAt (s := 79) (cs := []) (hv 11) rfl
          have h12 : f 12 = undef := plainAt (s := 80) (cs := []) (hv 12) rfl
          have h13 : f 13 = .bool false := plainAt (s := 81) (cs := []) (hv 13) rfl
          have h14 : f 14 = .bool false := plainAt (s := 4) (cs := []) (hv 14) rfl
          simp only [setN, Nat.reduceAdd, List.setIfInBounds_toArray, List.set_cons_zero, List.set_cons_succ]
          simp only [h0, h1, h2, h3, h4, h5, h6, h7, h8, h9, h10, h11, h12, h13, h14]
          clear h0 h1 h2 h3 h4 h5 h6 h7 h8 h9 h10 h11 h12 h13 h14
          have HE := hide (unhide HF _ _ (unhide HLW) hbE)
          clear hbE hv hp hne ho
          go_wp2_with fail
          go_ret
          exact ⟨rfl, unhide HE⟩
      · go_enter Tryd.func29, Tryd.ntmps29
        go_wp2_with fail
        refine (unhide HCH _).mono ?_
        rintro e w1 ⟨rfl, hb1⟩
        obtain ⟨HXB, HYB, hl1⟩ := boxes_on hb1
        obtain ⟨p0, p1, p2, p3, p4, p5, p6⟩ := cells7 HXB
        obtain ⟨q0, q1, q2, q3, q4, q5, q6⟩ := cells7 HYB
        have HLW := hide hl1
        clear hb1 hl1 HB HCH
        go_upto_region 17 with fail
        clear p0 p1 p2 p3 p4 p5 p6 q0 q1 q2 q3 q4 q5 q6
        refine regN [.val 68 (Res.plain (.pointer (some ⟨w.heap.size + 1, 0, none⟩)) []), .val 69 (Res.plain (.pointer (some ⟨w.heap.size + 1, 1, none⟩)) []), .val 70 (Res.plain (.string (S a')) []), .val 71 (Res.plain (.pointer (some ⟨w.heap.size, 0, none⟩)) []), .val 72 (Res.plain (.pointer (some ⟨w.heap.size, 1, none⟩)) []), .val 73 (Res.plain (.string (S a)) []), .val 74 (Res.plain (.bool false) []), .val 75 (Res.plain (.bool false) []), .val 76 (Res.plain (undef) []), .val 77 (Res.plain (undef) []), .val 78 (Res.plain (undef) []), .val 79 (Res.plain (undef) []), .val 80 (Res.plain (undef) []), .val 81 (Res.plain (.bool false) []), .val 4 (Res.plain (.bool false) [])] (fun i => if i = 1 then [0] else if i = 2 then [1] else if i = 4 then [3] else if i = 5 then [4] else if i = 6 then [2, 5] else if i = 7 then [6] else if i = 8 then [7] else if i = 9 then [7, 8] else if i = 10 then [7] else if i = 11 then [7, 10] else if i = 12 then [7, 9, 11] else if i = 13 then [7, 12] else if i = 14 then [13] else []) ?_ ?_ ?_ ?_ ?_ ?_ ?_ (fun i hi => ?_) ?_
        · kernel_rfl
        · rfl
        · kernel_rfl
        · kernel_rfl
        · kernel_rfl
        · kernel_rfl
        · kernel_rfl
        · have hc : i = 0 ∨ i = 1 ∨ i = 2 ∨ i = 3 ∨ i = 4 ∨ i = 5 ∨ i = 6 ∨ i = 7 ∨ i = 8 ∨ i = 9 ∨ i = 10 ∨ i = 11 ∨ i = 12 ∨ i = 13 ∨ i = 14 := by have : i < 15 := hi; omega
          clear hi
          rcases hc with rfl | rfl | rfl | rfl | rfl | rfl | rfl | rfl | rfl | rfl | rfl | rfl | rfl | rfl | rfl
          · with_reducible refine DoesN.plain (s := 68) (v := .pointer (some ⟨w.heap.size + 1, 0, none⟩)) ?_ ?_
            · rfl
            intro f wz K hb hd hK
            simp only [setN, upd, Nat.reduceAdd, Nat.reduceEqDiff, reduceIte, List.setIfInBounds_toArray, List.set_cons_zero, List.set_cons_succ] at hK ⊢
            refine wpOp_do rfl (by kernel_rfl) ?_
            unfold Oper.wp execOp
            go_simp
            exact hK _ (Below.refl _ _)
          · with_reducible refine DoesN.plain (s := 69) (v := .pointer (some ⟨w.heap.size + 1, 1, none⟩)) ?_ ?_
            · rfl
            intro f wz K hb hd hK
            have e0 : f 0 = .pointer (some ⟨w.heap.size + 1, 0, none⟩) := plainAt (s := 68) (cs := []) (hd 0 (by decide)) rfl
            simp only [setN, upd, Nat.reduceAdd, Nat.reduceEqDiff, reduceIte, List.setIfInBounds_toArray, List.set_cons_zero, List.set_cons_succ] at hK ⊢
            simp only [e0] at hK ⊢
            refine wpOp_do rfl (by kernel_rfl) ?_
            unfold Oper.wp execOp
            go_simp
            exact hK _ (Below.refl _ _)
          · with_reducible refine DoesN.plain (s := 70) (v := .string (S a')) ?_ ?_
            · rfl
            intro f wz K hb hd hK
            have e1 : f 1 = .pointer (some ⟨w.heap.size + 1, 1, none⟩) := plainAt (s := 69) (cs := []) (hd 1 (by decide)) rfl
            obtain ⟨p0, p1, p2, p3, p4, p5, p6⟩ := cells7 ((hb.block _ (block_lt HYB)).trans HYB)
            simp only [setN, upd, Nat.reduceAdd, Nat.reduceEqDiff, reduceIte, List.setIfInBounds_toArray, List.set_cons_zero, List.set_cons_succ] at hK ⊢
            simp only [e1] at hK ⊢
            refine wpOp_do rfl (by kernel_rfl) ?_
            unfold Oper.wp execOp
            go_simp
            exact hK _ (Below.refl _ _)
          · with_reducible refine DoesN.plain (s := 71) (v := .pointer (some ⟨w.heap.size, 0, none⟩)) ?_ ?_
            · rfl
            intro f wz K hb hd hK
            simp only [setN, upd, Nat.reduceAdd, Nat.reduceEqDiff, reduceIte, List.setIfInBounds_toArray, List.set_cons_zero, List.set_cons_succ] at hK ⊢
            refine wpOp_do rfl (by kernel_rfl) ?_
            unfold Oper.wp execOp
            go_simp
            exact hK _ (Below.refl _ _)
          · with_reducible refine DoesN.plain (s := 72) (v := .pointer (some ⟨w.heap.size, 1, none⟩)) ?_ ?_
            · rfl
            intro f wz K hb hd hK
            have e3 : f 3 = .pointer (some ⟨w.heap.size, 0, none⟩) := plainAt (s := 71) (cs := []) (hd 3 (by decide)) rfl
            simp only [setN, upd, Nat.reduceAdd, Nat.reduceEqDiff, reduceIte, List.setIfInBounds_toArray, List.set_cons_zero, List.set_cons_succ] at hK ⊢
            simp only [e3] at hK ⊢
            refine wpOp_do rfl (by kernel_rfl) ?_
            unfold Oper.wp execOp
            go_simp
            exact hK _ (Below.refl _ _)
          · with_reducible refine DoesN.plain (s := 73) (v := .string (S a)) ?_ ?_
            · rfl
            intro f wz K hb hd hK
            have e4 : f 4 = .pointer (some ⟨w.heap.size, 1, none⟩) := plainAt (s := 72) (cs := []) (hd 4 (by decide)) rfl
            obtain ⟨p0, p1, p2, p3, p4, p5, p6⟩ := cells7 ((hb.block _ (block_lt HXB)).trans HXB)
            simp only [setN, upd, Nat.reduceAdd, Nat.reduceEqDiff, reduceIte, List.setIfInBounds_toArray, List.set_cons_zero, List.set_cons_succ] at hK ⊢
            simp only [e4] at hK ⊢
            refine wpOp_do rfl (by kernel_rfl) ?_
            unfold Oper.wp execOp
            go_simp
            exact hK _ (Below.refl _ _)
          · with_reducible refine DoesN.plain (s := 74) (v := .bool false) ?_ ?_
            · rfl
            intro f wz K hb hd hK
            have e2 : f 2 = .string (S a') := plainAt (s := 70) (cs := []) (hd 2 (by decide)) rfl
            have e5 : f 5 = .string (S a) := plainAt (s := 73) (cs := []) (hd 5 (by decide)) rfl
            simp only [setN, upd, Nat.reduceAdd, Nat.reduceEqDiff, reduceIte, List.setIfInBounds_toArray, List.set_cons_zero, List.set_cons_succ] at hK ⊢
            simp only [e2, e5] at hK ⊢
            refine wpOp_do rfl (by kernel_rfl) ?_
            unfold Oper.wp execOp
            go_simp
            exact hK _ (Below.refl _ _)
          · with_reducible refine DoesN.plain (s := 75) (v := .bool false) ?_ ?_
            · rfl
            intro f wz K hb hd hK
            have e6 : f 6 = .bool false := plainAt (s := 74) (cs := []) (hd 6 (by decide)) rfl
            simp only [setN, upd, Nat.reduceAdd, Nat.reduceEqDiff, reduceIte, List.setIfInBounds_toArray, List.set_cons_zero, List.set_cons_succ] at hK ⊢
            simp only [e6] at hK ⊢
            refine wpOp_do rfl (by kernel_rfl) ?_
            unfold Oper.wp execOp
            go_simp
            exact hK _ (Below.refl _ _)
          · with_reducible refine DoesN.plain (s := 76) (v := undef) ?_ ?_
            · rfl
            intro f wz K hb hd hK
            have e7 : f 7 = .bool false := plainAt (s := 75) (cs := []) (hd 7 (by decide)) rfl
            simp only [setN, upd, Nat.reduceAdd, Nat.reduceEqDiff, reduceIte, List.setIfInBounds_toArray, List.set_cons_zero, List.set_cons_succ] at hK ⊢
            simp only [e7] at hK ⊢
            refine wpOp_skip rfl (by kernel_rfl) ?_
            go_simp
            exact hK _ (Below.refl _ _)
          · with_reducible refine DoesN.plain (s := 77) (v := undef) ?_ ?_
            · rfl
            intro f wz K hb hd hK
            have e7 : f 7 = .bool false := plainAt (s := 75) (cs := []) (hd 7 (by decide)) rfl
            have e8 : f 8 = undef := plainAt (s := 76) (cs := []) (hd 8 (by decide)) rfl
            simp only [setN, upd, Nat.reduceAdd, Nat.reduceEqDiff, reduceIte, List.setIfInBounds_toArray, List.set_cons_zero, List.set_cons_succ] at hK ⊢
            simp only [e7, e8] at hK ⊢
            refine wpOp_skip rfl (by kernel_rfl) ?_
            go_simp
            exact hK _ (Below.refl _ _)
          · with_reducible refine DoesN.plain (s := 78) (v := undef) ?_ ?_
            · rfl
            intro f wz K hb hd hK
            have e7 : f 7 = .bool false := plainAt (s := 75) (cs := []) (hd 7 (by decide)) rfl
            simp only [setN, upd, Nat.reduceAdd, Nat.reduceEqDiff, reduceIte, List.setIfInBounds_toArray, List.set_cons_zero, List.set_cons_succ] at hK ⊢
            simp only [e7] at hK ⊢
            refine wpOp_skip rfl (by kernel_rfl) ?_
            go_simp
            exact hK _ (Below.refl _ _)
          · with_reducible refine DoesN.plain (s := 79) (v := undef) ?_ ?_
            · rfl
            intro f wz K hb hd hK
            have e7 : f 7 = .bool false := plainAt (s := 75) (cs := []) (hd 7 (by decide)) rfl
            have e10 : f 10 = undef := plainAt (s := 78) (cs := []) (hd 10 (by decide)) rfl
            simp only [setN, upd, Nat.reduceAdd, Nat.reduceEqDiff, reduceIte, List.setIfInBounds_toArray, List.set_cons_zero, List.set_cons_succ] at hK ⊢
            simp only [e7, e10] at hK ⊢
            refine wpOp_skip rfl (by kernel_rfl) ?_
            go_simp
            exact hK _ (Below.refl _ _)
          · with_reducible refine DoesN.plain (s := 80) (v := undef) ?_ ?_
            · rfl
            intro f wz K hb hd hK
            have e7 : f 7 = .bool false := plainAt (s := 75) (cs := []) (hd 7 (by decide)) rfl
            have e9 : f 9 = undef := plainAt (s := 77) (cs := []) (hd 9 (by decide)) rfl
            have e11 : f 11 = undef := plainAt (s := 79) (cs := []) (hd 11 (by decide)) rfl
            simp only [setN, upd, Nat.reduceAdd, Nat.reduceEqDiff, reduceIte, List.setIfInBounds_toArray, List.set_cons_zero, List.set_cons_succ] at hK ⊢
            simp only [e7, e9, e11] at hK ⊢
            refine wpOp_skip rfl (by kernel_rfl) ?_
            go_simp
            exact hK _ (Below.refl _ _)
          · with_reducible refine DoesN.plain (s := 81) (v := .bool false) ?_ ?_
            · rfl
            intro f wz K hb hd hK
            have e7 : f 7 = .bool false := plainAt (s := 75) (cs := []) (hd 7 (by decide)) rfl
            have e12 : f 12 = undef := plainAt (s := 80) (cs := []) (hd 12 (by decide)) rfl
            simp only [setN, upd, Nat.reduceAdd, Nat.reduceEqDiff, reduceIte, List.setIfInBounds_toArray, List.set_cons_zero, List.set_cons_succ] at hK ⊢
            simp only [e7, e12] at hK ⊢
            refine wpOp_do rfl (by kernel_rfl) ?_
            unfold Oper.wp execOp
            go_simp
            exact hK _ (Below.refl _ _)
          · with_reducible refine DoesN.plain (s := 4) (v := .bool false) ?_ ?_
            · rfl
            intro f wz K hb hd hK
            have e13 : f 13 = .bool false := plainAt (s := 81) (cs := []) (hd 13 (by decide)) rfl
            simp only [setN, upd, Nat.reduceAdd, Nat.reduceEqDiff, reduceIte, List.setIfInBounds_toArray, List.set_cons_zero, List.set_cons_succ] at hK ⊢
            simp only [e13] at hK ⊢
            refine wpOp_do rfl (by kernel_rfl) ?_
            unfold Oper.wp execOp
            go_simp
            exact hK _ (Below.refl _ _)
        · intro f wE hbE hv hp hne ho
          have h0 : f 0 = .pointer (some ⟨w.heap.size + 1, 0, none⟩) := plainAt (s := 68) (cs := []) (hv 0) rfl
          have h1 : f 1 = .pointer (some ⟨w.heap.size + 1, 1, none⟩) := plainAt (s := 69) (cs := []) (hv 1) rfl
          have h2 : f 2 = .string (S a') := plainAt (s := 70) (cs := []) (hv 2) rfl
          have h3 : f 3 = .pointer (some ⟨w.heap.size, 0, none⟩) := plainAt (s := 71) (cs := []) (hv 3) rfl
          have h4 : f 4 = .pointer (some ⟨w.heap.size, 1, none⟩) := plainAt (s := 72) (cs := []) (hv 4) rfl
          have h5 : f 5 = .string (S a) := plainAt (s := 73) (cs := []) (hv 5) rfl
          have h6 : f 6 = .bool false := plainAt (s := 74) (cs := []) (hv 6) rfl
          have h7 : f 7 = .bool false := plainAt (s := 75) (cs := []) (hv 7) rfl
          have h8 : f 8 = undef := plainAt (s := 76) (cs := []) (hv 8) rfl
          have h9 : f 9 = undef := plainAt (s := 77) (cs := []) (hv 9) rfl
          have h10 : f 10 = undef := plainAt (s := 78) (cs := []) (hv 10) rfl
          have h11 : f 11 = undef := plainAt (s := 79) (cs := []) (hv 11) rfl
          have h12 : f 12 = undef := plainAt (s := 80) (cs := []) (hv 12) rfl
          have h13 : f 13 = .bool false := plainAt (s := 81) (cs := []) (hv 13) rfl
          have h14 : f 14 = .bool false := plainAt (s := 4) (cs := []) (hv 14) rfl
          simp only [setN, Nat.reduceAdd, List.setIfInBounds_toArray, List.set_cons_zero, List.set_cons_succ]
          simp only [h0, h1, h2, h3, h4, h5, h6, h7, h8, h9, h10, h11, h12, h13, h14]
          clear h0 h1 h2 h3 h4 h5 h6 h7 h8 h9 h10 h11 h12 h13 h14
          have HE := hide (unhide HF _ _ (unhide HLW) hbE)
          clear hbE hv hp hne ho
          go_wp2_with fail
          go_ret
          exact ⟨rfl, unhide HE⟩
      · go_enter Tryd.func29, Tryd.ntmps29
        go_wp2_with fail
        refine (unhide HCH _).mono ?_
        rintro e w1 ⟨rfl, hb1⟩
        obtain ⟨HXB, HYB, hl1⟩ := boxes_on hb1
        obtain ⟨p0, p1, p2, p3, p4, p5, p6⟩ := cells7 HXB
        obtain ⟨q0, q1, q2, q3, q4, q5, q6⟩ := cells7 HYB
        have HLW := hide hl1
        clear hb1 hl1 HB HCH
        go_upto_region 17 with fail
        clear p0 p1 p2 p3 p4 p5 p6 q0 q1 q2 q3 q4 q5 q6
        refine regN [.val 68 (Res.plain (.pointer (some ⟨w.heap.size + 1, 0, none⟩)) []), .val 69 (Res.plain (.pointer (some ⟨w.heap.size + 1, 1, none⟩)) []), .val 70 (Res.plain (.string (S a')) []), .val 71 (Res.plain (.pointer (some ⟨w.heap.size, 0, none⟩)) []), .val 72 (Res.plain (.pointer (some ⟨w.heap.size, 1, none⟩)) []), .val 73 (Res.plain (.string (S a)) []), .val 74 (Res.plain (.bool false) []), .val 75 (Res.plain (.bool false) []), .val 76 (Res.plain (undef) []), .val 77 (Res.plain (undef) []), .val 78 (Res.plain (undef) []), .val 79 (Res.plain (undef) []), .val 80 (Res.plain (undef) []), .val 81 (Res.plain (.bool false) []), .val 4 (Res.plain (.bool false) [])] (fun i => if i = 1 then [0] else if i = 2 then [1] else if i = 4 then [3] else if i = 5 then [4] else if i = 6 then [2, 5] else if i = 7 then [6] else if i = 8 then [7] else if i = 9 then [7, 8] else if i = 10 then [7] else if i = 11 then [7, 10] else if i = 12 then [7, 9, 11] else if i = 13 then [7, 12] else if i = 14 then [13] else []) ?_ ?_ ?_ ?_ ?_ ?_ ?_ (fun i hi => ?_) ?_
        · kernel_rfl
        · rfl
        · kernel_rfl
        · kernel_rfl
        · kernel_rfl
        · kernel_rfl
        · kernel_rfl
        · have hc : i = 0 ∨ i = 1 ∨ i = 2 ∨ i = 3 ∨ i = 4 ∨ i = 5 ∨ i = 6 ∨ i = 7 ∨ i = 8 ∨ i = 9 ∨ i = 10 ∨ i = 11 ∨ i = 12 ∨ i = 13 ∨ i = 14 := by have : i < 15 := hi; omega
          clear hi
          rcases hc with rfl | rfl | rfl | rfl | rfl | rfl | rfl | rfl | rfl | rfl | rfl | rfl | rfl | rfl | rfl
          · with_reducible refine DoesN.plain (s := 68) (v := .pointer (some ⟨w.heap.size + 1, 0, none⟩)) ?_ ?_
            · rfl
            intro f wz K hb hd hK
            simp only [setN, upd, Nat.reduceAdd, Nat.reduceEqDiff, reduceIte, List.setIfInBounds_toArray, List.set_cons_zero, List.set_cons_succ] at hK ⊢
            refine wpOp_do rfl (by kernel_rfl) ?_
            unfold Oper.wp execOp
            go_simp
            exact hK _ (Below.refl _ _)
          · with_reducible refine DoesN.plain (s := 69) (v := .pointer (some ⟨w.heap.size + 1, 1, none⟩)) ?_ ?_
            · rfl
            intro f wz K hb hd hK
            have e0 : f 0 = .pointer (some ⟨w.heap.size + 1, 0, none⟩) := plainAt (s := 68) (cs := []) (hd 0 (by decide)) rfl
            simp only [setN, upd, Nat.reduceAdd, Nat.reduceEqDiff, reduceIte, List.setIfInBounds_toArray, List.set_cons_zero, List.set_cons_succ] at hK ⊢
            simp only [e0] at hK ⊢
            refine wpOp_do rfl (by kernel_rfl) ?_
            unfold Oper.wp execOp
            go_simp
            exact hK _ (Below.refl _ _)
          · with_reducible refine DoesN.plain (s := 70) (v := .string (S a')) ?_ ?_
            · rfl
            intro f wz K hb hd hK
            have e1 : f 1 = .pointer (some ⟨w.heap.size + 1, 1, none⟩) := plainAt (s := 69) (cs := []) (hd 1 (by decide)) rfl
            obtain ⟨p0, p1, p2, p3, p4, p5, p6⟩ := cells7 ((hb.block _ (block_lt HYB)).trans HYB)
            simp only [setN, upd, Nat.reduceAdd, Nat.reduceEqDiff, reduceIte, List.setIfInBounds_toArray, List.set_cons_zero, List.set_cons_succ] at hK ⊢
            simp only [e1] at hK ⊢
            refine wpOp_do rfl (by kernel_rfl) ?_
            unfold Oper.wp execOp
            go_simp
            exact hK _ (Below.refl _ _)
          · with_reducible refine DoesN.plain (s := 71) (v := .pointer (some ⟨w.heap.size, 0, none⟩)) ?_ ?_
            · rfl
            intro f wz K hb hd hK
            simp only [setN, upd, Nat.reduceAdd, Nat.reduceEqDiff, reduceIte, List.setIfInBounds_toArray, List.set_cons_zero, List.set_cons_succ] at hK ⊢
            refine wpOp_do rfl (by kernel_rfl) ?_
            unfold Oper.wp execOp
            go_simp
            exact hK _ (Below.refl _ _)
          · with_reducible refine DoesN.plain (s := 72) (v := .pointer (some ⟨w.heap.size, 1, none⟩)) ?_ ?_
            · rfl
            intro f wz K hb hd hK
            have e3 : f 3 = .pointer (some ⟨w.heap.size, 0, none⟩) := plainAt (s := 71) (cs := []) (hd 3 (by decide)) rfl
            simp only [setN, upd, Nat.reduceAdd, Nat.reduceEqDiff, reduceIte, List.setIfInBounds_toArray, List.set_cons_zero, List.set_cons_succ] at hK ⊢
            simp only [e3] at hK ⊢
            refine wpOp_do rfl (by kernel_rfl) ?_
            unfold Oper.wp execOp
            go_simp
            exact hK _ (Below.refl _ _)
          · with_reducible refine DoesN.plain (s := 73) (v := .string (S a)) ?_ ?_
            · rfl
            intro f wz K hb hd hK
            have e4 : f 4 = .pointer (some ⟨w.heap.size, 1, none⟩) := plainAt (s := 72) (cs := []) (hd 4 (by decide)) rfl
            obtain ⟨p0, p1, p2, p3, p4, p5, p6⟩ := cells7 ((hb.block _ (block_lt HXB)).trans HXB)
            simp only [setN, upd, Nat.reduceAdd, Nat.reduceEqDiff, reduceIte, List.setIfInBounds_toArray, List.set_cons_zero, List.set_cons_succ] at hK ⊢
            simp only [e4] at hK ⊢
            refine wpOp_do rfl (by kernel_rfl) ?_
            unfold Oper.wp execOp
            go_simp
            exact hK _ (Below.refl _ _)
          · with_reducible refine DoesN.plain (s := 74) (v := .bool false) ?_ ?_
            · rfl
            intro f wz K hb hd hK
            have e2 : f 2 = .string (S a') := plainAt (s := 70) (cs := []) (hd 2 (by decide)) rfl
            have e5 : f 5 = .string (S a) := plainAt (s := 73) (cs := []) (hd 5 (by decide)) rfl
            simp only [setN, upd, Nat.reduceAdd, Nat.reduceEqDiff, reduceIte, List.setIfInBounds_toArray, List.set_cons_zero, List.set_cons_succ] at hK ⊢
            simp only [e2, e5] at hK ⊢
            refine wpOp_do rfl (by kernel_rfl) ?_
            unfold Oper.wp execOp
            go_simp
            exact hK _ (Below.refl _ _)
          · with_reducible refine DoesN.plain (s := 75) (v := .bool false) ?_ ?_
            · rfl
            intro f wz K hb hd hK
            have e6 : f 6 = .bool false := plainAt (s := 74) (cs := []) (hd 6 (by decide)) rfl
            simp only [setN, upd, Nat.reduceAdd, Nat.reduceEqDiff, reduceIte, List.setIfInBounds_toArray, List.set_cons_zero, List.set_cons_succ] at hK ⊢
            simp only [e6] at hK ⊢
            refine wpOp_do rfl (by kernel_rfl) ?_
            unfold Oper.wp execOp
            go_simp
            exact hK _ (Below.refl _ _)
          · with_reducible refine DoesN.plain (s := 76) (v := undef) ?_ ?_
            · rfl
            intro f wz K hb hd hK
            have e7 : f 7 = .bool false := plainAt (s := 75) (cs := []) (hd 7 (by decide)) rfl
            simp only [setN, upd, Nat.reduceAdd, Nat.reduceEqDiff, reduceIte, List.setIfInBounds_toArray, List.set_cons_zero, List.set_cons_succ] at hK ⊢
            simp only [e7] at hK ⊢
            refine wpOp_skip rfl (by kernel_rfl) ?_
            go_simp
            exact hK _ (Below.refl _ _)
          · with_reducible refine DoesN.plain (s := 77) (v := undef) ?_ ?_
            · rfl
            intro f wz K hb hd hK
            have e7 : f 7 = .bool false := plainAt (s := 75) (cs := []) (hd 7 (by decide)) rfl
            have e8 : f 8 = undef := plainAt (s := 76) (cs := []) (hd 8 (by decide)) rfl
            simp only [setN, upd, Nat.reduceAdd, Nat.reduceEqDiff, reduceIte, List.setIfInBounds_toArray, List.set_cons_zero, List.set_cons_succ] at hK ⊢
            simp only [e7, e8] at hK ⊢
            refine wpOp_skip rfl (by kernel_rfl) ?_
            go_simp
            exact hK _ (Below.refl _ _)
          · with_reducible refine DoesN.plain (s := 78) (v := undef) ?_ ?_
            · rfl
            intro f wz K hb hd hK
            have e7 : f 7 = .bool false := plainAt (s := 75) (cs := []) (hd 7 (by decide)) rfl
            simp only [setN, upd, Nat.reduceAdd, Nat.reduceEqDiff, reduceIte, List.setIfInBounds_toArray, List.set_cons_zero, List.set_cons_succ] at hK ⊢
            simp only [e7] at hK ⊢
            refine wpOp_skip rfl (by kernel_rfl) ?_
            go_simp
            exact hK _ (Below.refl _ _)
          · with_reducible refine DoesN.plain (s := 79) (v := undef) ?_ ?_
            · rfl
            intro f wz K hb hd hK
            have e7 : f 7 = .bool false := plainAt (s := 75) (cs := []) (hd 7 (by decide)) rfl
            have e10 : f 10 = undef := plainAt (s := 78) (cs := []) (hd 10 (by decide)) rfl
            simp only [setN, upd, Nat.reduceAdd, Nat.reduceEqDiff, reduceIte, List.setIfInBounds_toArray, List.set_cons_zero, List.set_cons_succ] at hK ⊢
            simp only [e7, e10] at hK ⊢
            refine wpOp_skip rfl (by kernel_rfl) ?_
            go_simp
            exact hK _ (Below.refl _ _)
          · with_reducible refine DoesN.plain (s := 80) (v := undef) ?_ ?_
            · rfl
            intro f wz K hb hd hK
            have e7 : f 7 = .bool false := plainAt (s := 75) (cs := []) (hd 7 (by decide)) rfl
            have e9 : f 9 = undef := plainAt (s := 77) (cs := []) (hd 9 (by decide)) rfl
            have e11 : f 11 = undef := plainAt (s := 79) (cs := []) (hd 11 (by decide)) rfl
            simp only [setN, upd, Nat.reduceAdd, Nat.reduceEqDiff, reduceIte, List.setIfInBounds_toArray, List.set_cons_zero, List.set_cons_succ] at hK ⊢
            simp only [e7, e9, e11] at hK ⊢
            refine wpOp_skip rfl (by kernel_rfl) ?_
            go_simp
            exact hK _ (Below.refl _ _)
          · with_reducible refine DoesN.plain (s := 81) (v := .bool false) ?_ ?_
            · rfl
            intro f wz K hb hd hK
            have e7 : f 7 = .bool false := plainAt (s := 75) (cs := []) (hd 7 (by decide)) rfl
            have e12 : f 12 = undef := plainAt (s := 80) (cs := []) (hd 12 (by decide)) rfl
            simp only [setN, upd, Nat.reduceAdd, Nat.reduceEqDiff, reduceIte, List.setIfInBounds_toArray, List.set_cons_zero, List.set_cons_succ] at hK ⊢
            simp only [e7, e12] at hK ⊢
            refine wpOp_do rfl (by kernel_rfl) ?_
            unfold Oper.wp execOp
            go_simp
            exact hK _ (Below.refl _ _)
          · with_reducible refine DoesN.plain (s := 4) (v := .bool false) ?_ ?_
            · rfl
            intro f wz K hb hd hK
            have e13 : f 13 = .bool false := plainAt (s := 81) (cs := []) (hd 13 (by decide)) rfl
            simp only [setN, upd, Nat.reduceAdd, Nat.reduceEqDiff, reduceIte, List.setIfInBounds_toArray, List.set_cons_zero, List.set_cons_succ] at hK ⊢
            simp only [e13] at hK ⊢
            refine wpOp_do rfl (by kernel_rfl) ?_
            unfold Oper.wp execOp
            go_simp
            exact hK _ (Below.refl _ _)
        · intro f wE hbE hv hp hne ho
          have h0 : f 0 = .pointer (some ⟨w.heap.size + 1, 0, none⟩) := plainAt (s := 68) (cs := []) (hv 0) rfl
          have h1 : f 1 = .pointer (some ⟨w.heap.size + 1, 1, none⟩) := plainAt (s := 69) (cs := []) (hv 1) rfl
          have h2 : f 2 = .string (S a') := plainAt (s := 70) (cs := []) (hv 2) rfl
          have h3 : f 3 = .pointer (some ⟨w.heap.size, 0, none⟩) := plainAt (s := 71) (cs := []) (hv 3) rfl
          have h4 : f 4 = .pointer (some ⟨w.heap.size, 1, none⟩) := plainAt (s := 72) (cs := []) (hv 4) rfl
          have h5 : f 5 = .string (S a) := plainAt (s := 73) (cs := []) (hv 5) rfl
          have h6 : f 6 = .bool false := plainAt (s := 74) (cs := []) (hv 6) rfl
          have h7 : f 7 = .bool false := plainAt (s := 75) (cs := []) (hv 7) rfl
          have h8 : f 8 = undef := plainAt (s := 76) (cs := []) (hv 8) rfl
          have h9 : f 9 = undef := plainAt (s := 77) (cs := []) (hv 9) rfl
          have h10 : f 10 = undef := plainAt (s := 78) (cs := []) (hv 10) rfl
          have h11 : f 11 = undef := plainAt (s := 79) (cs := []) (hv 11) rfl
          have h12 : f 12 = undef := plainAt (s := 80) (cs := []) (hv 12) rfl
          have h13 : f 13 = .bool false := plainAt (s := 81) (cs := []) (hv 13) rfl
          have h14 : f 14 = .bool false := plainAt (s := 4) (cs := []) (hv 14) rfl
          simp only [setN, Nat.reduceAdd, List.setIfInBounds_toArray, List.set_cons_zero, List.set_cons_succ]
          simp only [h0, h1, h2, h3, h4, h5, h6, h7, h8, h9, h10, h11, h12, h13, h14]
          clear h0 h1 h2 h3 h4 h5 h6 h7 h8 h9 h10 h11 h12 h13 h14
          have HE := hide (unhide HF _ _ (unhide HLW) hbE)
          clear hbE hv hp hne ho
          go_wp2_with fail
          go_ret
          exact ⟨rfl, unhide HE⟩
  · rw [if_neg (by decide), if_neg (by decide), if_neg (by decide), if_neg (by decide), if_neg (by decide), if_pos rfl]
    clear HTX HSP HWX HWY
    have hE := S_eq a' a
    by_cases h14 : op' = 14
    · subst h14
      obtain ⟨E, hEE⟩ : ∃ E, decide (a' = a) = E := ⟨_, rfl⟩
      rw [hEE] at hE
      rw [show (decide ((14 : Int) = 14) && decide (a' ≠ a) || decide ((14 : Int) = 15) && R) = !E by rw [← hEE]; by_cases h : a' = a <;> simp [h]]
      clear hEE
      cases E
      all_goals
        go_enter Tryd.func29, Tryd.ntmps29
        go_wp2_with fail
        refine (unhide HCH _).mono ?_
        rintro e w1 ⟨rfl, hb1⟩
        obtain ⟨HXB, HYB, hl1⟩ := boxes_on hb1
        obtain ⟨p0, p1, p2, p3, p4, p5, p6⟩ := cells7 HXB
        obtain ⟨q0, q1, q2, q3, q4, q5, q6⟩ := cells7 HYB
        have HLW := hide hl1
        clear hb1 hl1 HB HCH HXB HYB
        go_wp2_with fail
        go_ret
        exact ⟨rfl, unhide HLW⟩
    by_cases h15 : op' = 15
    · subst h15
      rw [show (decide ((15 : Int) = 14) && decide (a' ≠ a) || decide ((15 : Int) = 15) && R) = R by simp]
      go_enter Tryd.func29, Tryd.ntmps29
      go_wp2_with fail
      refine (unhide HCH _).mono ?_
      rintro e w1 ⟨rfl, hb1⟩
      obtain ⟨HXB, HYB, hl1⟩ := boxes_on hb1
      obtain ⟨p0, p1, p2, p3, p4, p5, p6⟩ := cells7 HXB
      obtain ⟨q0, q1, q2, q3, q4, q5, q6⟩ := cells7 HYB
      have HLW := hide hl1
      clear hb1 hl1 HB HCH HXB HYB
      go_wp2_with fail
      refine (unhide HRF _).mono ?_
      rintro e w2 ⟨rfl, hb2⟩
      have HE := hide (unhide HF _ _ (unhide HLW) hb2)
      clear hb2
      go_wp2_with fail
      go_ret
      exact ⟨rfl, unhide HE⟩
    · have e7 : (op' == 14) = false := by rw [beq_eq_false_iff_ne]; exact h14
      have e6 : (op' == 15) = false := by rw [beq_eq_false_iff_ne]; exact h15
      rw [decide_eq_false h14, decide_eq_false h15]
      go_enter Tryd.func29, Tryd.ntmps29
      go_wp2_with fail
      refine (unhide HCH _).mono ?_
      rintro e w1 ⟨rfl, hb1⟩
      obtain ⟨HXB, HYB, hl1⟩ := boxes_on hb1
      obtain ⟨p0, p1, p2, p3, p4, p5, p6⟩ := cells7 HXB
      obtain ⟨q0, q1, q2, q3, q4, q5, q6⟩ := cells7 HYB
      have HLW := hide hl1
      clear hb1 hl1 HB HCH HXB HYB
      go_wp2_with fail
      go_ret
      exact ⟨rfl, unhide HLW⟩
  · rw [if_neg (by decide), if_neg (by decide), if_neg (by decide), if_neg (by decide), if_neg (by decide), if_neg (by decide), if_pos rfl]
    clear HTX HSP HWX HWY
    by_cases h17 : op' = 17
    · subst h17
      rw [show (decide ((17 : Int) = 17) && R) = R by simp]
      go_enter Tryd.func29, Tryd.ntmps29
      go_wp2_with fail
      refine (unhide HCH _).mono ?_
      rintro e w1 ⟨rfl, hb1⟩
      obtain ⟨HXB, HYB, hl1⟩ := boxes_on hb1
      obtain ⟨p0, p1, p2, p3, p4, p5, p6⟩ := cells7 HXB
      obtain ⟨q0, q1, q2, q3, q4, q5, q6⟩ := cells7 HYB
      have HLW := hide hl1
      clear hb1 hl1 HB HCH HXB HYB
      go_wp2_with fail
      refine (unhide HRF _).mono ?_
      rintro e w2 ⟨rfl, hb2⟩
      have HE := hide (unhide HF _ _ (unhide HLW) hb2)
      clear hb2
      go_wp2_with fail
      go_ret
      exact ⟨rfl, unhide HE⟩
    · have e6 : (op' == 17) = false := by rw [beq_eq_false_iff_ne]; exact h17
      rw [decide_eq_false h17]
      go_enter Tryd.func29, Tryd.ntmps29
      go_wp2_with fail
      refine (unhide HCH _).mono ?_
      rintro e w1 ⟨rfl, hb1⟩
      obtain ⟨HXB, HYB, hl1⟩ := boxes_on hb1
      obtain ⟨p0, p1, p2, p3, p4, p5, p6⟩ := cells7 HXB
      obtain ⟨q0, q1, q2, q3, q4, q5, q6⟩ := cells7 HYB
      have HLW := hide hl1
      clear hb1 hl1 HB HCH HXB HYB
      go_wp2_with fail
      go_ret
      exact ⟨rfl, unhide HLW⟩
  · rw [if_neg (by omega), if_neg (by omega), if_neg (by omega), if_neg (by omega), if_neg (by omega), if_neg (by omega), if_neg (by omega)]
    clear HTX HRF HSP HWX HWY
    obtain ⟨E, hE⟩ : ∃ E, decide ((⟨c', t', m'⟩ : MR) = ⟨c, t, m⟩) = E := ⟨_, rfl⟩
    have hEE := hide hE
    have HS : Hid ((S t').toList = (S t).toList ↔ t' = t) := by
      have := S_eq t' t
      show _ ↔ _
      by_cases h : t' = t <;> simp [h] at this ⊢
      exact this
    rw [hE]
    clear hE
    rcases h15 with rfl | rfl
    all_goals
      go_enter Tryd.func29, Tryd.ntmps29
      go_wp2_with fail
      refine (unhide HCH _).mono ?_
      rintro e w1 ⟨rfl, hb1⟩
      obtain ⟨HXB, HYB, hl1⟩ := boxes_on hb1
      obtain ⟨p0, p1, p2, p3, p4, p5, p6⟩ := cells7 HXB
      obtain ⟨q0, q1, q2, q3, q4, q5, q6⟩ := cells7 HYB
      have HLW := hide hl1
      clear hb1 hl1 HB HCH HXB HYB
      go_wp2_with fail
      all_goals
        go_ret
        have hE := unhide hEE
        refine ⟨?_, unhide HLW⟩
        have hS := unhide HS
        first | rfl | (subst hE; simp_all)
end Go.Proofs.YteaiidcconggcaaDoor
