/- Texts that this proof needs, one behind the other: QPos, QCon, QAwake. -/
import Derived.Test.YteaiidcconggcaaDoorQSmall
import Derived.Test.YteaiidcconggcaaDoorQUps
import Derived.Test.YteaiidcconggcaaDoorMFacts
import Derived.Test.YteaiidcconggcaaDoorBundleQ13
/- The contract of Possible. -/
namespace Go.Proofs.YteaiidcconggcaaDoor
open Go.RowKit
set_option linter.unusedVariables false
set_option maxRecDepth 100000

set_option maxHeartbeats 6400000 in
theorem possible_any {w : World} (p : Stp) (hop : okOp p.1.op) : Calls Tryd.prog 19 #[stV p] w fun e w' => e = .returned (.bool (posM p)) ∧ Below w.heap.size w w' := by
  obtain ⟨⟨op, a, b, n⟩, ⟨c, t, m⟩⟩ := p
  unfold stV posM
  dsimp only at *
  have HB : Hid (∀ o1 o2 o3 o4 o5 o6 : Obj, Below w.heap.size w ((((((w.alloc o1).alloc o2).alloc o3).alloc o4).alloc o5).alloc o6)) := fun o1 o2 o3 o4 o5 o6 => by
    have h2 := under_two w o1 o2
    have h3 := h2.alloc h2.size o3
    have h4 := h3.alloc h3.size o4
    have h5 := h4.alloc h4.size o5
    exact h5.alloc h5.size o6
  have HS : Hid ((S t).toList = [] ↔ t = []) := by
    show _ ↔ _
    rw [← List.isEmpty_iff, S_isEmpty, List.isEmpty_iff]
  rcases op_cases hop with rfl | rfl | rfl | rfl | rfl | rfl | rfl | rfl | rfl | rfl | rfl | rfl | rfl | rfl | rfl | rfl | rfl
  all_goals
    clear hop
    go_enter Tryd.func19, Tryd.ntmps19
    go_wp2_with fail
    all_goals
      go_ret
      refine ⟨?_, unhide HB _ _ _ _ _ _⟩
      first | rfl | (have hS := unhide HS; simp_all)
end Go.Proofs.YteaiidcconggcaaDoor
/- The contract of Conflict. -/
namespace Go.Proofs.YteaiidcconggcaaDoor
open Go.RowKit
set_option linter.unusedVariables false
set_option maxRecDepth 100000

set_option maxHeartbeats 25600000 in
theorem conflict_any {w : World} (hw : MD w) (x y : Stp) (hx : okOp x.1.op) (hy : okOp y.1.op) : Calls Tryd.prog 12 #[stV x, stV y] w fun e w' => e = .returned (.bool (conM x y)) ∧ Below w.heap.size w w' := by
  have HPX := hide (fun wz : World => possible_any (w := wz) x hx)
  have HPY := hide (fun wz : World => possible_any (w := wz) y hy)
  have HUX := hide (fun wz : World => upsets_any (w := wz) x y hx)
  have HUY := hide (fun wz : World => upsets_any (w := wz) y x hy)
  have HF := hide (fun (wz w' : World) (h1 : Below w.heap.size w wz) (h2 : Below wz.heap.size wz w') => h1.trans (h2.mono h1.size))
  unfold conM
  unfold kd
  generalize posM x = P1 at *
  generalize posM y = P2 at *
  generalize upsM x y = U1 at *
  generalize upsM y x = U2 at *
  obtain ⟨⟨op, a, b, n⟩, ⟨c, t, m⟩⟩ := x
  obtain ⟨⟨op', a', b', n'⟩, ⟨c', t', m'⟩⟩ := y
  unfold stV at *
  dsimp only at *
  obtain ⟨W, hW⟩ : ∃ W, ((w.alloc (.cells #[.int .i64 op, .string (S a), .string (S b), .int .i64 n, .int .i64 c, .string (S t), .int .i64 m] 41)).alloc (.cells #[.int .i64 op', .string (S a'), .string (S b'), .int .i64 n', .int .i64 c', .string (S t'), .int .i64 m'] 41)) = W := ⟨_, rfl⟩
  have HXB : W.heap[w.heap.size]? = some (.cells #[.int .i64 op, .string (S a), .string (S b), .int .i64 n, .int .i64 c, .string (S t), .int .i64 m] 41 (0, 0)) := by rw [← hW]; exact (two_heap w _ _).1
  have HYB : W.heap[w.heap.size + 1]? = some (.cells #[.int .i64 op', .string (S a'), .string (S b'), .int .i64 n', .int .i64 c', .string (S t'), .int .i64 m'] 41 (0, 0)) := by rw [← hW]; exact (two_heap w _ _).2
  have HLW : Hid (Below w.heap.size w W) := by show Below _ _ _; rw [← hW]; exact under_two w _ _
  have HKX := hide (fun (wz : World) (hb : Below W.heap.size W wz) => mkind_any (hw.later ((unhide HLW).trans (hb.mono (unhide HLW).size))) op)
  have HKY := hide (fun (wz : World) (hb : Below W.heap.size W wz) => mkind_any (hw.later ((unhide HLW).trans (hb.mono (unhide HLW).size))) op')
  generalize (mfact op).kind = kx at *
  generalize (mfact op').kind = ky at *
  clear hw hx hy
  cases P1
  · go_enter Tryd.func12, Tryd.ntmps12
    go_upto_region 1 with fail
    try rw [hW]
    clear hW
    refine regN [.val 5 (Res.plain (.agg #[.int .i64 op, .string (S a), .string (S b), .int .i64 n, .int .i64 c, .string (S t), .int .i64 m]) []), .val 6 (Res.plain (.bool false) []), .val 7 (Res.plain (.bool true) []), .val 8 (Res.plain (.bool true) []), .val 9 (Res.plain (undef) []), .val 10 (Res.plain (undef) []), .val 11 (Res.plain (undef) []), .val 12 (Res.plain (.bool true) []), .val 13 (Res.plain (.bool true) []), .val 14 (Res.plain (undef) []), .val 15 (Res.plain (undef) []), .val 16 (Res.plain (undef) []), .val 17 (Res.plain (undef) []), .val 18 (Res.plain (undef) []), .val 19 (Res.plain (undef) []), .val 20 (Res.plain (undef) []), .val 21 (Res.plain (undef) []), .val 22 (Res.plain (undef) []), .val 23 (Res.plain (.bool true) [])] (fun i => if i = 1 then [0] else if i = 2 then [1] else if i = 3 then [2] else if i = 4 then [3] else if i = 5 then [3, 4] else if i = 6 then [3, 5] else if i = 7 then [3, 6] else if i = 8 then [7] else if i = 9 then [8] else if i = 10 then [8, 9] else if i = 11 then [8, 10] else if i = 12 then [8, 11] else if i = 13 then [8] else if i = 14 then [8, 13] else if i = 15 then [8, 14] else if i = 16 then [8, 15] else if i = 17 then [8, 12, 16] else if i = 18 then [8, 17] else []) ?_ ?_ ?_ ?_ ?_ ?_ ?_ (fun i hi => ?_) ?_
    · kernel_rfl
    · rfl
    · kernel_rfl
    · kernel_rfl
    · kernel_rfl
    · kernel_rfl
    · kernel_rfl
    · have hc : i = 0 ∨ i = 1 ∨ i = 2 ∨ i = 3 ∨ i = 4 ∨ i = 5 ∨ i = 6 ∨ i = 7 ∨ i = 8 ∨ i = 9 ∨ i = 10 ∨ i = 11 ∨ i = 12 ∨ i = 13 ∨ i = 14 ∨ i = 15 ∨ i = 16 ∨ i = 17 ∨ i = 18 := by have : i < 19 := hi; omega
      clear hi
      rcases hc with rfl | rfl | rfl | rfl | rfl | rfl | rfl | rfl | rfl | rfl | rfl | rfl | rfl | rfl | rfl | rfl | rfl | rfl | rfl
      · with_reducible refine DoesN.plain (s := 5) (v := .agg #[.int .i64 op, .string (S a), .string (S b), .int .i64 n, .int .i64 c, .string (S t), .int .i64 m]) ?_ ?_
        · rfl
        intro f wz K hb hd hK
        obtain ⟨p0, p1, p2, p3, p4, p5, p6⟩ := cells7 ((hb.block _ (block_lt HXB)).trans HXB)
        simp only [setN, upd, Nat.reduceAdd, Nat.reduceEqDiff, reduceIte, List.setIfInBounds_toArray, List.set_cons_zero, List.set_cons_succ] at hK ⊢
        refine wpOp_do rfl (by kernel_rfl) ?_
        unfold Oper.wp execOp
        go_simp
        exact hK _ (Below.refl _ _)
      · with_reducible refine DoesN.plain (s := 6) (v := .bool false) ?_ ?_
        · rfl
        intro f wz K hb hd hK
        have e0 : f 0 = .agg #[.int .i64 op, .string (S a), .string (S b), .int .i64 n, .int .i64 c, .string (S t), .int .i64 m] := plainAt (s := 5) (cs := []) (hd 0 (by decide)) rfl
        simp only [setN, upd, Nat.reduceAdd, Nat.reduceEqDiff, reduceIte, List.setIfInBounds_toArray, List.set_cons_zero, List.set_cons_succ] at hK ⊢
        simp only [e0] at hK ⊢
        refine wpOp_do rfl (by kernel_rfl) ?_
        unfold Oper.wp execOp
        go_simp
        refine (unhide HPX _).mono ?_
        rintro e w' ⟨rfl, hb'⟩
        exact hK _ hb'
      · with_reducible refine DoesN.plain (s := 7) (v := .bool true) ?_ ?_
        · rfl
        intro f wz K hb hd hK
        have e1 : f 1 = .bool false := plainAt (s := 6) (cs := []) (hd 1 (by decide)) rfl
        simp only [setN, upd, Nat.reduceAdd, Nat.reduceEqDiff, reduceIte, List.setIfInBounds_toArray, List.set_cons_zero, List.set_cons_succ] at hK ⊢
        simp only [e1] at hK ⊢
        refine wpOp_do rfl (by kernel_rfl) ?_
        unfold Oper.wp execOp
        go_simp
        exact hK _ (Below.refl _ _)
      · with_reducible refine DoesN.plain (s := 8) (v := .bool true) ?_ ?_
        · rfl
        intro f wz K hb hd hK
        have e2 : f 2 = .bool true := plainAt (s := 7) (cs := []) (hd 2 (by decide)) rfl
        simp only [setN, upd, Nat.reduceAdd, Nat.reduceEqDiff, reduceIte, List.setIfInBounds_toArray, List.set_cons_zero, List.set_cons_succ] at hK ⊢
        simp only [e2] at hK ⊢
        refine wpOp_do rfl (by kernel_rfl) ?_
        unfold Oper.wp execOp
        go_simp
        exact hK _ (Below.refl _ _)
      · with_reducible refine DoesN.plain (s := 9) (v := undef) ?_ ?_
        · rfl
        intro f wz K hb hd hK
        have e3 : f 3 = .bool true := plainAt (s := 8) (cs := []) (hd 3 (by decide)) rfl
        simp only [setN, upd, Nat.reduceAdd, Nat.reduceEqDiff, reduceIte, List.setIfInBounds_toArray, List.set_cons_zero, List.set_cons_succ] at hK ⊢
        simp only [e3] at hK ⊢
        refine wpOp_skip rfl (by kernel_rfl) ?_
        go_simp
        exact hK _ (Below.refl _ _)
      · with_reducible refine DoesN.plain (s := 10) (v := undef) ?_ ?_
        · rfl
        intro f wz K hb hd hK
        have e3 : f 3 = .bool true := plainAt (s := 8) (cs := []) (hd 3 (by decide)) rfl
        have e4 : f 4 = undef := plainAt (s := 9) (cs := []) (hd 4 (by decide)) rfl
        simp only [setN, upd, Nat.reduceAdd, Nat.reduceEqDiff, reduceIte, List.setIfInBounds_toArray, List.set_cons_zero, List.set_cons_succ] at hK ⊢
        simp only [e3, e4] at hK ⊢
        refine wpOp_skip rfl (by kernel_rfl) ?_
        go_simp
        exact hK _ (Below.refl _ _)
      · with_reducible refine DoesN.plain (s := 11) (v := undef) ?_ ?_
        · rfl
        intro f wz K hb hd hK
        have e3 : f 3 = .bool true := plainAt (s := 8) (cs := []) (hd 3 (by decide)) rfl
        have e5 : f 5 = undef := plainAt (s := 10) (cs := []) (hd 5 (by decide)) rfl
        simp only [setN, upd, Nat.reduceAdd, Nat.reduceEqDiff, reduceIte, List.setIfInBounds_toArray, List.set_cons_zero, List.set_cons_succ] at hK ⊢
        simp only [e3, e5] at hK ⊢
        refine wpOp_skip rfl (by kernel_rfl) ?_
        go_simp
        exact hK _ (Below.refl _ _)
      · with_reducible refine DoesN.plain (s := 12) (v := .bool true) ?_ ?_
        · rfl
        intro f wz K hb hd hK
        have e3 : f 3 = .bool true := plainAt (s := 8) (cs := []) (hd 3 (by decide)) rfl
        have e6 : f 6 = undef := plainAt (s := 11) (cs := []) (hd 6 (by decide)) rfl
        simp only [setN, upd, Nat.reduceAdd, Nat.reduceEqDiff, reduceIte, List.setIfInBounds_toArray, List.set_cons_zero, List.set_cons_succ] at hK ⊢
        simp only [e3, e6] at hK ⊢
        refine wpOp_do rfl (by kernel_rfl) ?_
        unfold Oper.wp execOp
        go_simp
        exact hK _ (Below.refl _ _)
      · with_reducible refine DoesN.plain (s := 13) (v := .bool true) ?_ ?_
        · rfl
        intro f wz K hb hd hK
        have e7 : f 7 = .bool true := plainAt (s := 12) (cs := []) (hd 7 (by decide)) rfl
        simp only [setN, upd, Nat.reduceAdd, Nat.reduceEqDiff, reduceIte, List.setIfInBounds_toArray, List.set_cons_zero, List.set_cons_succ] at hK ⊢
        simp only [e7] at hK ⊢
        refine wpOp_do rfl (by kernel_rfl) ?_
        unfold Oper.wp execOp
        go_simp
        exact hK _ (Below.refl _ _)
      · with_reducible refine DoesN.plain (s := 14) (v := undef) ?_ ?_
        · rfl
        intro f wz K hb hd hK
        have e8 : f 8 = .bool true := plainAt (s := 13) (cs := []) (hd 8 (by decide)) rfl
        simp only [setN, upd, Nat.reduceAdd, Nat.reduceEqDiff, reduceIte, List.setIfInBounds_toArray, List.set_cons_zero, List.set_cons_succ] at hK ⊢
        simp only [e8] at hK ⊢
        refine wpOp_skip rfl (by kernel_rfl) ?_
        go_simp
        exact hK _ (Below.refl _ _)
      · with_reducible refine DoesN.plain (s := 15) (v := undef) ?_ ?_
        · rfl
        intro f wz K hb hd hK
        have e8 : f 8 = .bool true := plainAt (s := 13) (cs := []) (hd 8 (by decide)) rfl
        have e9 : f 9 = undef := plainAt (s := 14) (cs := []) (hd 9 (by decide)) rfl
        simp only [setN, upd, Nat.reduceAdd, Nat.reduceEqDiff, reduceIte, List.setIfInBounds_toArray, List.set_cons_zero, List.set_cons_succ] at hK ⊢
        simp only [e8, e9] at hK ⊢
        refine wpOp_skip rfl (by kernel_rfl) ?_
        go_simp
        exact hK _ (Below.refl _ _)
      · with_reducible refine DoesN.plain (s := 16) (v := undef) ?_ ?_
        · rfl
        intro f wz K hb hd hK
        have e8 : f 8 = .bool true := plainAt (s := 13) (cs := []) (hd 8 (by decide)) rfl
        have e10 : f 10 = undef := plainAt (s := 15) (cs := []) (hd 10 (by decide)) rfl
        simp only [setN, upd, Nat.reduceAdd, Nat.reduceEqDiff, reduceIte, List.setIfInBounds_toArray, List.set_cons_zero, List.set_cons_succ] at hK ⊢
        simp only [e8, e10] at hK ⊢
        refine wpOp_skip rfl (by kernel_rfl) ?_
        go_simp
        exact hK _ (Below.refl _ _)
      · with_reducible refine DoesN.plain (s := 17) (v := undef) ?_ ?_
        · rfl
        intro f wz K hb hd hK
        have e8 : f 8 = .bool true := plainAt (s := 13) (cs := []) (hd 8 (by decide)) rfl
        have e11 : f 11 = undef := plainAt (s := 16) (cs := []) (hd 11 (by decide)) rfl
        simp only [setN, upd, Nat.reduceAdd, Nat.reduceEqDiff, reduceIte, List.setIfInBounds_toArray, List.set_cons_zero, List.set_cons_succ] at hK ⊢
        simp only [e8, e11] at hK ⊢
        refine wpOp_skip rfl (by kernel_rfl) ?_
        go_simp
        exact hK _ (Below.refl _ _)
      · with_reducible refine DoesN.plain (s := 18) (v := undef) ?_ ?_
        · rfl
        intro f wz K hb hd hK
        have e8 : f 8 = .bool true := plainAt (s := 13) (cs := []) (hd 8 (by decide)) rfl
        simp only [setN, upd, Nat.reduceAdd, Nat.reduceEqDiff, reduceIte, List.setIfInBounds_toArray, List.set_cons_zero, List.set_cons_succ] at hK ⊢
        simp only [e8] at hK ⊢
        refine wpOp_skip rfl (by kernel_rfl) ?_
        go_simp
        exact hK _ (Below.refl _ _)
      · with_reducible refine DoesN.plain (s := 19) (v := undef) ?_ ?_
        · rfl
        intro f wz K hb hd hK
        have e8 : f 8 = .bool true := plainAt (s := 13) (cs := []) (hd 8 (by decide)) rfl
        have e13 : f 13 = undef := plainAt (s := 18) (cs := []) (hd 13 (by decide)) rfl
        simp only [setN, upd, Nat.reduceAdd, Nat.reduceEqDiff, reduceIte, List.setIfInBounds_toArray, List.set_cons_zero, List.set_cons_succ] at hK ⊢
        simp only [e8, e13] at hK ⊢
        refine wpOp_skip rfl (by kernel_rfl) ?_
        go_simp
        exact hK _ (Below.refl _ _)
      · with_reducible refine DoesN.plain (s := 20) (v := undef) ?_ ?_
        · rfl
        intro f wz K hb hd hK
        have e8 : f 8 = .bool true := plainAt (s := 13) (cs := []) (hd 8 (by decide)) rfl
        have e14 : f 14 = undef := plainAt (s := 19) (cs := []) (hd 14 (by decide)) rfl
        simp only [setN, upd, Nat.reduceAdd, Nat.reduceEqDiff, reduceIte, List.setIfInBounds_toArray, List.set_cons_zero, List.set_cons_succ] at hK ⊢
        simp only [e8, e14] at hK ⊢
        refine wpOp_skip rfl (by kernel_rfl) ?_
        go_simp
        exact hK _ (Below.refl _ _)
      · with_reducible refine DoesN.plain (s := 21) (v := undef) ?_ ?_
        · rfl
        intro f wz K hb hd hK
        have e8 : f 8 = .bool true := plainAt (s := 13) (cs := []) (hd 8 (by decide)) rfl
        have e15 : f 15 = undef := plainAt (s := 20) (cs := []) (hd 15 (by decide)) rfl
        simp only [setN, upd, Nat.reduceAdd, Nat.reduceEqDiff, reduceIte, List.setIfInBounds_toArray, List.set_cons_zero, List.set_cons_succ] at hK ⊢
        simp only [e8, e15] at hK ⊢
        refine wpOp_skip rfl (by kernel_rfl) ?_
        go_simp
        exact hK _ (Below.refl _ _)
      · with_reducible refine DoesN.plain (s := 22) (v := undef) ?_ ?_
        · rfl
        intro f wz K hb hd hK
        have e8 : f 8 = .bool true := plainAt (s := 13) (cs := []) (hd 8 (by decide)) rfl
        have e12 : f 12 = undef := plainAt (s := 17) (cs := []) (hd 12 (by decide)) rfl
        have e16 : f 16 = undef := plainAt (s := 21) (cs := []) (hd 16 (by decide)) rfl
        simp only [setN, upd, Nat.reduceAdd, Nat.reduceEqDiff, reduceIte, List.setIfInBounds_toArray, List.set_cons_zero, List.set_cons_succ] at hK ⊢
        simp only [e8, e12, e16] at hK ⊢
        refine wpOp_skip rfl (by kernel_rfl) ?_
        go_simp
        exact hK _ (Below.refl _ _)
      · with_reducible refine DoesN.plain (s := 23) (v := .bool true) ?_ ?_
        · rfl
        intro f wz K hb hd hK
        have e8 : f 8 = .bool true := plainAt (s := 13) (cs := []) (hd 8 (by decide)) rfl
        have e17 : f 17 = undef := plainAt (s := 22) (cs := []) (hd 17 (by decide)) rfl
        simp only [setN, upd, Nat.reduceAdd, Nat.reduceEqDiff, reduceIte, List.setIfInBounds_toArray, List.set_cons_zero, List.set_cons_succ] at hK ⊢
        simp only [e8, e17] at hK ⊢
        refine wpOp_do rfl (by kernel_rfl) ?_
        unfold Oper.wp execOp
        go_simp
        exact hK _ (Below.refl _ _)
    · intro f wE hbE hv hp hne ho
      have h0 : f 0 = .agg #[.int .i64 op, .string (S a), .string (S b), .int .i64 n, .int .i64 c, .string (S t), .int .i64 m] := plainAt (s := 5) (cs := []) (hv 0) rfl
      have h1 : f 1 = .bool false := plainAt (s := 6) (cs := []) (hv 1) rfl
      have h2 : f 2 = .bool true := plainAt (s := 7) (cs := []) (hv 2) rfl
      have h3 : f 3 = .bool true := plainAt (s := 8) (cs := []) (hv 3) rfl
      have h4 : f 4 = undef := plainAt (s := 9) (cs := []) (hv 4) rfl
      have h5 : f 5 = undef := plainAt (s := 10) (cs := []) (hv 5) rfl
      have h6 : f 6 = undef := plainAt (s := 11) (cs := []) (hv 6) rfl
      have h7 : f 7 = .bool true := plainAt (s := 12) (cs := []) (hv 7) rfl
      have h8 : f 8 = .bool true := plainAt (s := 13) (cs := []) (hv 8) rfl
      have h9 : f 9 = undef := plainAt (s := 14) (cs := []) (hv 9) rfl
      have h10 : f 10 = undef := plainAt (s := 15) (cs := []) (hv 10) rfl
      have h11 : f 11 = undef := plainAt (s := 16) (cs := []) (hv 11) rfl
      have h12 : f 12 = undef := plainAt (s := 17) (cs := []) (hv 12) rfl
      have h13 : f 13 = undef := plainAt (s := 18) (cs := []) (hv 13) rfl
      have h14 : f 14 = undef := plainAt (s := 19) (cs := []) (hv 14) rfl
      have h15 : f 15 = undef := plainAt (s := 20) (cs := []) (hv 15) rfl
      have h16 : f 16 = undef := plainAt (s := 21) (cs := []) (hv 16) rfl
      have h17 : f 17 = undef := plainAt (s := 22) (cs := []) (hv 17) rfl
      have h18 : f 18 = .bool true := plainAt (s := 23) (cs := []) (hv 18) rfl
      simp only [setN, Nat.reduceAdd, List.setIfInBounds_toArray, List.set_cons_zero, List.set_cons_succ]
      simp only [h0, h1, h2, h3, h4, h5, h6, h7, h8, h9, h10, h11, h12, h13, h14, h15, h16, h17, h18]
      clear h0 h1 h2 h3 h4 h5 h6 h7 h8 h9 h10 h11 h12 h13 h14 h15 h16 h17 h18
      have HE := hide (unhide HF _ _ (unhide HLW) hbE)
      clear hbE hv hp hne ho
      go_wp2_with fail
      go_ret
      exact ⟨rfl, unhide HE⟩
  cases P2
  · go_enter Tryd.func12, Tryd.ntmps12
    go_upto_region 1 with fail
    try rw [hW]
    clear hW
    refine regN [.val 5 (Res.plain (.agg #[.int .i64 op, .string (S a), .string (S b), .int .i64 n, .int .i64 c, .string (S t), .int .i64 m]) []), .val 6 (Res.plain (.bool true) []), .val 7 (Res.plain (.bool false) []), .val 8 (Res.plain (.bool false) []), .val 9 (Res.plain (.agg #[.int .i64 op', .string (S a'), .string (S b'), .int .i64 n', .int .i64 c', .string (S t'), .int .i64 m']) []), .val 10 (Res.plain (.bool false) []), .val 11 (Res.plain (.bool true) []), .val 12 (Res.plain (.bool true) []), .val 13 (Res.plain (.bool true) []), .val 14 (Res.plain (undef) []), .val 15 (Res.plain (undef) []), .val 16 (Res.plain (undef) []), .val 17 (Res.plain (undef) []), .val 18 (Res.plain (undef) []), .val 19 (Res.plain (undef) []), .val 20 (Res.plain (undef) []), .val 21 (Res.plain (undef) []), .val 22 (Res.plain (undef) []), .val 23 (Res.plain (.bool true) [])] (fun i => if i = 1 then [0] else if i = 2 then [1] else if i = 3 then [2] else if i = 4 then [3] else if i = 5 then [3, 4] else if i = 6 then [3, 5] else if i = 7 then [3, 6] else if i = 8 then [7] else if i = 9 then [8] else if i = 10 then [8, 9] else if i = 11 then [8, 10] else if i = 12 then [8, 11] else if i = 13 then [8] else if i = 14 then [8, 13] else if i = 15 then [8, 14] else if i = 16 then [8, 15] else if i = 17 then [8, 12, 16] else if i = 18 then [8, 17] else []) ?_ ?_ ?_ ?_ ?_ ?_ ?_ (fun i hi => ?_) ?_
    · kernel_rfl
    · rfl
    · kernel_rfl
    · kernel_rfl
    · kernel_rfl
    · kernel_rfl
    · kernel_rfl
    · have hc : i = 0 ∨ i = 1 ∨ i = 2 ∨ i = 3 ∨ i = 4 ∨ i = 5 ∨ i = 6 ∨ i = 7 ∨ i = 8 ∨ i = 9 ∨ i = 10 ∨ i = 11 ∨ i = 12 ∨ i = 13 ∨ i = 14 ∨ i = 15 ∨ i = 16 ∨ i = 17 ∨ i = 18 := by have : i < 19 := hi; omega
      clear hi
      rcases hc with rfl | rfl | rfl | rfl | rfl | rfl | rfl | rfl | rfl | rfl | rfl | rfl | rfl | rfl | rfl | rfl | rfl | rfl | rfl
      · with_reducible refine DoesN.plain (s := 5) (v := .agg #[.int .i64 op, .string (S a), .string (S b), .int .i64 n, .int .i64 c, .string (S t), .int .i64 m]) ?_ ?_
        · rfl
        intro f wz K hb hd hK
        obtain ⟨p0, p1, p2, p3, p4, p5, p6⟩ := cells7 ((hb.block _ (block_lt HXB)).trans HXB)
        simp only [setN, upd, Nat.reduceAdd, Nat.reduceEqDiff, reduceIte, List.setIfInBounds_toArray, List.set_cons_zero, List.set_cons_succ] at hK ⊢
        refine wpOp_do rfl (by kernel_rfl) ?_
        unfold Oper.wp execOp
        go_simp
        exact hK _ (Below.refl _ _)
      · with_reducible refine DoesN.plain (s := 6) (v := .bool true) ?_ ?_
        · rfl
        intro f wz K hb hd hK
        have e0 : f 0 = .agg #[.int .i64 op, .string (S a), .string (S b), .int .i64 n, .int .i64 c, .string (S t), .int .i64 m] := plainAt (s := 5) (cs := []) (hd 0 (by decide)) rfl
        simp only [setN, upd, Nat.reduceAdd, Nat.reduceEqDiff, reduceIte, List.setIfInBounds_toArray, List.set_cons_zero, List.set_cons_succ] at hK ⊢
        simp only [e0] at hK ⊢
        refine wpOp_do rfl (by kernel_rfl) ?_
        unfold Oper.wp execOp
        go_simp
        refine (unhide HPX _).mono ?_
        rintro e w' ⟨rfl, hb'⟩
        exact hK _ hb'
      · with_reducible refine DoesN.plain (s := 7) (v := .bool false) ?_ ?_
        · rfl
        intro f wz K hb hd hK
        have e1 : f 1 = .bool true := plainAt (s := 6) (cs := []) (hd 1 (by decide)) rfl
        simp only [setN, upd, Nat.reduceAdd, Nat.reduceEqDiff, reduceIte, List.setIfInBounds_toArray, List.set_cons_zero, List.set_cons_succ] at hK ⊢
        simp only [e1] at hK ⊢
        refine wpOp_do rfl (by kernel_rfl) ?_
        unfold Oper.wp execOp
        go_simp
        exact hK _ (Below.refl _ _)
      · with_reducible refine DoesN.plain (s := 8) (v := .bool false) ?_ ?_
        · rfl
        intro f wz K hb hd hK
        have e2 : f 2 = .bool false := plainAt (s := 7) (cs := []) (hd 2 (by decide)) rfl
        simp only [setN, upd, Nat.reduceAdd, Nat.reduceEqDiff, reduceIte, List.setIfInBounds_toArray, List.set_cons_zero, List.set_cons_succ] at hK ⊢
        simp only [e2] at hK ⊢
        refine wpOp_do rfl (by kernel_rfl) ?_
        unfold Oper.wp execOp
        go_simp
        exact hK _ (Below.refl _ _)
      · with_reducible refine DoesN.plain (s := 9) (v := .agg #[.int .i64 op', .string (S a'), .string (S b'), .int .i64 n', .int .i64 c', .string (S t'), .int .i64 m']) ?_ ?_
        · rfl
        intro f wz K hb hd hK
        have e3 : f 3 = .bool false := plainAt (s := 8) (cs := []) (hd 3 (by decide)) rfl
        obtain ⟨p0, p1, p2, p3, p4, p5, p6⟩ := cells7 ((hb.block _ (block_lt HYB)).trans HYB)
        simp only [setN, upd, Nat.reduceAdd, Nat.reduceEqDiff, reduceIte, List.setIfInBounds_toArray, List.set_cons_zero, List.set_cons_succ] at hK ⊢
        simp only [e3] at hK ⊢
        refine wpOp_do rfl (by kernel_rfl) ?_
        unfold Oper.wp execOp
        go_simp
        exact hK _ (Below.refl _ _)
      · with_reducible refine DoesN.plain (s := 10) (v := .bool false) ?_ ?_
        · rfl
        intro f wz K hb hd hK
        have e3 : f 3 = .bool false := plainAt (s := 8) (cs := []) (hd 3 (by decide)) rfl
        have e4 : f 4 = .agg #[.int .i64 op', .string (S a'), .string (S b'), .int .i64 n', .int .i64 c', .string (S t'), .int .i64 m'] := plainAt (s := 9) (cs := []) (hd 4 (by decide)) rfl
        simp only [setN, upd, Nat.reduceAdd, Nat.reduceEqDiff, reduceIte, List.setIfInBounds_toArray, List.set_cons_zero, List.set_cons_succ] at hK ⊢
        simp only [e3, e4] at hK ⊢
        refine wpOp_do rfl (by kernel_rfl) ?_
        unfold Oper.wp execOp
        go_simp
        refine (unhide HPY _).mono ?_
        rintro e w' ⟨rfl, hb'⟩
        exact hK _ hb'
      · with_reducible refine DoesN.plain (s := 11) (v := .bool true) ?_ ?_
        · rfl
        intro f wz K hb hd hK
        have e3 : f 3 = .bool false := plainAt (s := 8) (cs := []) (hd 3 (by decide)) rfl
        have e5 : f 5 = .bool false := plainAt (s := 10) (cs := []) (hd 5 (by decide)) rfl
        simp only [setN, upd, Nat.reduceAdd, Nat.reduceEqDiff, reduceIte, List.setIfInBounds_toArray, List.set_cons_zero, List.set_cons_succ] at hK ⊢
        simp only [e3, e5] at hK ⊢
        refine wpOp_do rfl (by kernel_rfl) ?_
        unfold Oper.wp execOp
        go_simp
        exact hK _ (Below.refl _ _)
      · with_reducible refine DoesN.plain (s := 12) (v := .bool true) ?_ ?_
        · rfl
        intro f wz K hb hd hK
        have e3 : f 3 = .bool false := plainAt (s := 8) (cs := []) (hd 3 (by decide)) rfl
        have e6 : f 6 = .bool true := plainAt (s := 11) (cs := []) (hd 6 (by decide)) rfl
        simp only [setN, upd, Nat.reduceAdd, Nat.reduceEqDiff, reduceIte, List.setIfInBounds_toArray, List.set_cons_zero, List.set_cons_succ] at hK ⊢
        simp only [e3, e6] at hK ⊢
        refine wpOp_do rfl (by kernel_rfl) ?_
        unfold Oper.wp execOp
        go_simp
        exact hK _ (Below.refl _ _)
      · with_reducible refine DoesN.plain (s := 13) (v := .bool true) ?_ ?_
        · rfl
        intro f wz K hb hd hK
        have e7 : f 7 = .bool true := plainAt (s := 12) (cs := []) (hd 7 (by decide)) rfl
        simp only [setN, upd, Nat.reduceAdd, Nat.reduceEqDiff, reduceIte, List.setIfInBounds_toArray, List.set_cons_zero, List.set_cons_succ] at hK ⊢
        simp only [e7] at hK ⊢
        refine wpOp_do rfl (by kernel_rfl) ?_
        unfold Oper.wp execOp
        go_simp
        exact hK _ (Below.refl _ _)
      · with_reducible refine DoesN.plain (s := 14) (v := undef) ?_ ?_
        · rfl
        intro f wz K hb hd hK
        have e8 : f 8 = .bool true := plainAt (s := 13) (cs := []) (hd 8 (by decide)) rfl
        simp only [setN, upd, Nat.reduceAdd, Nat.reduceEqDiff, reduceIte, List.setIfInBounds_toArray, List.set_cons_zero, List.set_cons_succ] at hK ⊢
        simp only [e8] at hK ⊢
        refine wpOp_skip rfl (by kernel_rfl) ?_
        go_simp
        exact hK _ (Below.refl _ _)
      · with_reducible refine DoesN.plain (s := 15) (v := undef) ?_ ?_
        · rfl
        intro f wz K hb hd hK
        have e8 : f 8 = .bool true := plainAt (s := 13) (cs := []) (hd 8 (by decide)) rfl
        have e9 : f 9 = undef := plainAt (s := 14) (cs := []) (hd 9 (by decide)) rfl
        simp only [setN, upd, Nat.reduceAdd, Nat.reduceEqDiff, reduceIte, List.setIfInBounds_toArray, List.set_cons_zero, List.set_cons_succ] at hK ⊢
        simp only [e8, e9] at hK ⊢
        refine wpOp_skip rfl (by kernel_rfl) ?_
        go_simp
        exact hK _ (Below.refl _ _)
      · with_reducible refine DoesN.plain (s := 16) (v := undef) ?_ ?_
        · rfl
        intro f wz K hb hd hK
        have e8 : f 8 = .bool true := plainAt (s := 13) (cs := []) (hd 8 (by decide)) rfl
        have e10 : f 10 = undef := plainAt (s := 15) (cs := []) (hd 10 (by decide)) rfl
        simp only [setN, upd, Nat.reduceAdd, Nat.reduceEqDiff, reduceIte, List.setIfInBounds_toArray, List.set_cons_zero, List.set_cons_succ] at hK ⊢
        simp only [e8, e10] at hK ⊢
        refine wpOp_skip rfl (by kernel_rfl) ?_
        go_simp
        exact hK _ (Below.refl _ _)
      · with_reducible refine DoesN.plain (s := 17) (v := undef) ?_ ?_
        · rfl
        intro f wz K hb hd hK
        have e8 : f 8 = .bool true := plainAt (s := 13) (cs := []) (hd 8 (by decide)) rfl
        have e11 : f 11 = undef := plainAt (s := 16) (cs := []) (hd 11 (by decide)) rfl
        simp only [setN, upd, Nat.reduceAdd, Nat.reduceEqDiff, reduceIte, List.setIfInBounds_toArray, List.set_cons_zero, List.set_cons_succ] at hK ⊢
        simp only [e8, e11] at hK ⊢
        refine wpOp_skip rfl (by kernel_rfl) ?_
        go_simp
        exact hK _ (Below.refl _ _)
      · with_reducible refine DoesN.plain (s := 18) (v := undef) ?_ ?_
        · rfl
        intro f wz K hb hd hK
        have e8 : f 8 = .bool true := plainAt (s := 13) (cs := []) (hd 8 (by decide)) rfl
        simp only [setN, upd, Nat.reduceAdd, Nat.reduceEqDiff, reduceIte, List.setIfInBounds_toArray, List.set_cons_zero, List.set_cons_succ] at hK ⊢
        simp only [e8] at hK ⊢
        refine wpOp_skip rfl (by kernel_rfl) ?_
        go_simp
        exact hK _ (Below.refl _ _)
      · with_reducible refine DoesN.plain (s := 19) (v := undef) ?_ ?_
        · rfl
        intro f wz K hb hd hK
        have e8 : f 8 = .bool true := plainAt (s := 13) (cs := []) (hd 8 (by decide)) rfl
        have e13 : f 13 = undef := plainAt (s := 18) (cs := []) (hd 13 (by decide)) rfl
        simp only [setN, upd, Nat.reduceAdd, Nat.reduceEqDiff, reduceIte, List.setIfInBounds_toArray, List.set_cons_zero, List.set_cons_succ] at hK ⊢
        simp only [e8, e13] at hK ⊢
        refine wpOp_skip rfl (by kernel_rfl) ?_
        go_simp
        exact hK _ (Below.refl _ _)
      · with_reducible refine DoesN.plain (s := 20) (v := undef) ?_ ?_
        · rfl
        intro f wz K hb hd hK
        have e8 : f 8 = .bool true := plainAt (s := 13) (cs := []) (hd 8 (by decide)) rfl
        have e14 : f 14 = undef := plainAt (s := 19) (cs := []) (hd 14 (by decide)) rfl
        simp only [setN, upd, Nat.reduceAdd, Nat.reduceEqDiff, reduceIte, List.setIfInBounds_toArray, List.set_cons_zero, List.set_cons_succ] at hK ⊢
        simp only [e8, e14] at hK ⊢
        refine wpOp_skip rfl (by kernel_rfl) ?_
        go_simp
        exact hK _ (Below.refl _ _)
      · with_reducible refine DoesN.plain (s := 21) (v := undef) ?_ ?_
        · rfl
        intro f wz K hb hd hK
        have e8 : f 8 = .bool true := plainAt (s := 13) (cs := []) (hd 8 (by decide)) rfl
        have e15 : f 15 = undef := plainAt (s := 20) (cs := []) (hd 15 (by decide)) rfl
        simp only [setN, upd, Nat.reduceAdd, Nat.reduceEqDiff, reduceIte, List.setIfInBounds_toArray, List.set_cons_zero, List.set_cons_succ] at hK ⊢
        simp only [e8, e15] at hK ⊢
        refine wpOp_skip rfl (by kernel_rfl) ?_
        go_simp
        exact hK _ (Below.refl _ _)
      · with_reducible refine DoesN.plain (s := 22) (v := undef) ?_ ?_
        · rfl
        intro f wz K hb hd hK
        have e8 : f 8 = .bool true := plainAt (s := 13) (cs := []) (hd 8 (by decide)) rfl
        have e12 : f 12 = undef := plainAt (s := 17) (cs := []) (hd 12 (by decide)) rfl
        have e16 : f 16 = undef := plainAt (s := 21) (cs := []) (hd 16 (by decide)) rfl
        simp only [setN, upd, Nat.reduceAdd, Nat.reduceEqDiff, reduceIte, List.setIfInBounds_toArray, List.set_cons_zero, List.set_cons_succ] at hK ⊢
        simp only [e8, e12, e16] at hK ⊢
        refine wpOp_skip rfl (by kernel_rfl) ?_
        go_simp
        exact hK _ (Below.refl _ _)
      · with_reducible refine DoesN.plain (s := 23) (v := .bool true) ?_ ?_
        · rfl
        intro f wz K hb hd hK
        have e8 : f 8 = .bool true := plainAt (s := 13) (cs := []) (hd 8 (by decide)) rfl
        have e17 : f 17 = undef := plainAt (s := 22) (cs := []) (hd 17 (by decide)) rfl
        simp only [setN, upd, Nat.reduceAdd, Nat.reduceEqDiff, reduceIte, List.setIfInBounds_toArray, List.set_cons_zero, List.set_cons_succ] at hK ⊢
        simp only [e8, e17] at hK ⊢
        refine wpOp_do rfl (by kernel_rfl) ?_
        unfold Oper.wp execOp
        go_simp
        exact hK _ (Below.refl _ _)
    · intro f wE hbE hv hp hne ho
      have h0 : f 0 = .agg #[.int .i64 op, .string (S a), .string (S b), .int .i64 n, .int .i64 c, .string (S t), .int .i64 m] := plainAt (s := 5) (cs := []) (hv 0) rfl
      have h1 : f 1 = .bool true := plainAt (s := 6) (cs := []) (hv 1) rfl
      have h2 : f 2 = .bool false := plainAt (s := 7) (cs := []) (hv 2) rfl
      have h3 : f 3 = .bool false := plainAt (s := 8) (cs := []) (hv 3) rfl
      have h4 : f 4 = .agg #[.int .i64 op', .string (S a'), .string (S b'), .int .i64 n', .int .i64 c', .string (S t'), .int .i64 m'] := plainAt (s := 9) (cs := []) (hv 4) rfl
      have h5 : f 5 = .bool false := plainAt (s := 10) (cs := []) (hv 5) rfl
      have h6 : f 6 = .bool true := plainAt (s := 11) (cs := []) (hv 6) rfl
      have h7 : f 7 = .bool true := plainAt (s := 12) (cs := []) (hv 7) rfl
      have h8 : f 8 = .bool true := plainAt (s := 13) (cs := []) (hv 8) rfl
      have h9 : f 9 = undef := plainAt (s := 14) (cs := []) (hv 9) rfl
      have h10 : f 10 = undef := plainAt (s := 15) (cs := []) (hv 10) rfl
      have h11 : f 11 = undef := plainAt (s := 16) (cs := []) (hv 11) rfl
      have h12 : f 12 = undef := plainAt (s := 17) (cs := []) (hv 12) rfl
      have h13 : f 13 = undef := plainAt (s := 18) (cs := []) (hv 13) rfl
      have h14 : f 14 = undef := plainAt (s := 19) (cs := []) (hv 14) rfl
      have h15 : f 15 = undef := plainAt (s := 20) (cs := []) (hv 15) rfl
      have h16 : f 16 = undef := plainAt (s := 21) (cs := []) (hv 16) rfl
      have h17 : f 17 = undef := plainAt (s := 22) (cs := []) (hv 17) rfl
      have h18 : f 18 = .bool true := plainAt (s := 23) (cs := []) (hv 18) rfl
      simp only [setN, Nat.reduceAdd, List.setIfInBounds_toArray, List.set_cons_zero, List.set_cons_succ]
      simp only [h0, h1, h2, h3, h4, h5, h6, h7, h8, h9, h10, h11, h12, h13, h14, h15, h16, h17, h18]
      clear h0 h1 h2 h3 h4 h5 h6 h7 h8 h9 h10 h11 h12 h13 h14 h15 h16 h17 h18
      have HE := hide (unhide HF _ _ (unhide HLW) hbE)
      clear hbE hv hp hne ho
      go_wp2_with fail
      go_ret
      exact ⟨rfl, unhide HE⟩
  by_cases hk : kx = ky
  · have k1 : (kx != ky) = false := by simp [hk]
    have k2 : (kx == ky) = true := by simp [hk]
    rw [decide_eq_true hk]
    clear hk
    rw [show (true && true && true && (U1 || U2)) = (U1 || U2) by simp]
    go_enter Tryd.func12, Tryd.ntmps12
    go_upto_region 1 with fail
    try rw [hW]
    clear hW
    refine regN [.val 5 (Res.plain (.agg #[.int .i64 op, .string (S a), .string (S b), .int .i64 n, .int .i64 c, .string (S t), .int .i64 m]) []), .val 6 (Res.plain (.bool true) []), .val 7 (Res.plain (.bool false) []), .val 8 (Res.plain (.bool false) []), .val 9 (Res.plain (.agg #[.int .i64 op', .string (S a'), .string (S b'), .int .i64 n', .int .i64 c', .string (S t'), .int .i64 m']) []), .val 10 (Res.plain (.bool true) []), .val 11 (Res.plain (.bool false) []), .val 12 (Res.plain (.bool false) []), .val 13 (Res.plain (.bool false) []), .val 14 (Res.plain (.pointer (some ⟨w.heap.size, 0, none⟩)) []), .val 15 (Res.plain (.pointer (some ⟨w.heap.size, 0, none⟩)) []), .val 16 (Res.plain (.int .i64 op) []), .val 17 (Res.plain (.int .i64 kx) []), .val 18 (Res.plain (.pointer (some ⟨w.heap.size + 1, 0, none⟩)) []), .val 19 (Res.plain (.pointer (some ⟨w.heap.size + 1, 0, none⟩)) []), .val 20 (Res.plain (.int .i64 op') []), .val 21 (Res.plain (.int .i64 ky) []), .val 22 (Res.plain (.bool false) []), .val 23 (Res.plain (.bool false) [])] (fun i => if i = 1 then [0] else if i = 2 then [1] else if i = 3 then [2] else if i = 4 then [3] else if i = 5 then [3, 4] else if i = 6 then [3, 5] else if i = 7 then [3, 6] else if i = 8 then [7] else if i = 9 then [8] else if i = 10 then [8, 9] else if i = 11 then [8, 10] else if i = 12 then [8, 11] else if i = 13 then [8] else if i = 14 then [8, 13] else if i = 15 then [8, 14] else if i = 16 then [8, 15] else if i = 17 then [8, 12, 16] else if i = 18 then [8, 17] else []) ?_ ?_ ?_ ?_ ?_ ?_ ?_ (fun i hi => ?_) ?_
    · kernel_rfl
    · rfl
    · kernel_rfl
    · kernel_rfl
    · kernel_rfl
    · kernel_rfl
    · kernel_rfl
    · have hc : i = 0 ∨ i = 1 ∨ i = 2 ∨ i = 3 ∨ i = 4 ∨ i = 5 ∨ i = 6 ∨ i = 7 ∨ i = 8 ∨ i = 9 ∨ i = 10 ∨ i = 11 ∨ i = 12 ∨ i = 13 ∨ i = 14 ∨ i = 15 ∨ i = 16 ∨ i = 17 ∨ i = 18 := by have : i < 19 := hi; omega
      clear hi
      rcases hc with rfl | rfl | rfl | rfl | rfl | rfl | rfl | rfl | rfl | rfl | rfl | rfl | rfl | rfl | rfl | rfl | rfl | rfl | rfl
      · with_reducible refine DoesN.plain (s := 5) (v := .agg #[.int .i64 op, .string (S a), .string (S b), .int .i64 n, .int .i64 c, .string (S t), .int .i64 m]) ?_ ?_
        · rfl
        intro f wz K hb hd hK
        obtain ⟨p0, p1, p2, p3, p4, p5, p6⟩ := cells7 ((hb.block _ (block_lt HXB)).trans HXB)
        simp only [setN, upd, Nat.reduceAdd, Nat.reduceEqDiff, reduceIte, List.setIfInBounds_toArray, List.set_cons_zero, List.set_cons_succ] at hK ⊢
        refine wpOp_do rfl (by kernel_rfl) ?_
        unfold Oper.wp execOp
        go_simp
        exact hK _ (Below.refl _ _)
      · with_reducible refine DoesN.plain (s := 6) (v := .bool true) ?_ ?_
        · rfl
        intro f wz K hb hd hK
        have e0 : f 0 = .agg #[.int .i64 op, .string (S a), .string (S b), .int .i64 n, .int .i64 c, .string (S t), .int .i64 m] := plainAt (s := 5) (cs := []) (hd 0 (by decide)) rfl
        simp only [setN, upd, Nat.reduceAdd, Nat.reduceEqDiff, reduceIte, List.setIfInBounds_toArray, List.set_cons_zero, List.set_cons_succ] at hK ⊢
        simp only [e0] at hK ⊢
        refine wpOp_do rfl (by kernel_rfl) ?_
        unfold Oper.wp execOp
        go_simp
        refine (unhide HPX _).mono ?_
        rintro e w' ⟨rfl, hb'⟩
        exact hK _ hb'
      · with_reducible refine DoesN.plain (s := 7) (v := .bool false) ?_ ?_
        · rfl
        intro f wz K hb hd hK
        have e1 : f 1 = .bool true := plainAt (s := 6) (cs := []) (hd 1 (by decide)) rfl
        simp only [setN, upd, Nat.reduceAdd, Nat.reduceEqDiff, reduceIte, List.setIfInBounds_toArray, List.set_cons_zero, List.set_cons_succ] at hK ⊢
        simp only [e1] at hK ⊢
        refine wpOp_do rfl (by kernel_rfl) ?_
        unfold Oper.wp execOp
        go_simp
        exact hK _ (Below.refl _ _)
      · with_reducible refine DoesN.plain (s := 8) (v := .bool false) ?_ ?_
        · rfl
        intro f wz K hb hd hK
        have e2 : f 2 = .bool false := plainAt (s := 7) (cs := []) (hd 2 (by decide)) rfl
        simp only [setN, upd, Nat.reduceAdd, Nat.reduceEqDiff, reduceIte, List.setIfInBounds_toArray, List.set_cons_zero, List.set_cons_succ] at hK ⊢
        simp only [e2] at hK ⊢
        refine wpOp_do rfl (by kernel_rfl) ?_
        unfold Oper.wp execOp
        go_simp
        exact hK _ (Below.refl _ _)
      · with_reducible refine DoesN.plain (s := 9) (v := .agg #[.int .i64 op', .string (S a'), .string (S b'), .int .i64 n', .int .i64 c', .string (S t'), .int .i64 m']) ?_ ?_
        · rfl
        intro f wz K hb hd hK
        have e3 : f 3 = .bool false := plainAt (s := 8) (cs := []) (hd 3 (by decide)) rfl
        obtain ⟨p0, p1, p2, p3, p4, p5, p6⟩ := cells7 ((hb.block _ (block_lt HYB)).trans HYB)
        simp only [setN, upd, Nat.reduceAdd, Nat.reduceEqDiff, reduceIte, List.setIfInBounds_toArray, List.set_cons_zero, List.set_cons_succ] at hK ⊢
        simp only [e3] at hK ⊢
        refine wpOp_do rfl (by kernel_rfl) ?_
        unfold Oper.wp execOp
        go_simp
        exact hK _ (Below.refl _ _)
      · with_reducible refine DoesN.plain (s := 10) (v := .bool true) ?_ ?_
        · rfl
        intro f wz K hb hd hK
        have e3 : f 3 = .bool false := plainAt (s := 8) (cs := []) (hd 3 (by decide)) rfl
        have e4 : f 4 = .agg #[.int .i64 op', .string (S a'), .string (S b'), .int .i64 n', .int .i64 c', .string (S t'), .int .i64 m'] := plainAt (s := 9) (cs := []) (hd 4 (by decide)) rfl
        simp only [setN, upd, Nat.reduceAdd, Nat.reduceEqDiff, reduceIte, List.setIfInBounds_toArray, List.set_cons_zero, List.set_cons_succ] at hK ⊢
        simp only [e3, e4] at hK ⊢
        refine wpOp_do rfl (by kernel_rfl) ?_
        unfold Oper.wp execOp
        go_simp
        refine (unhide HPY _).mono ?_
        rintro e w' ⟨rfl, hb'⟩
        exact hK _ hb'
      · with_reducible refine DoesN.plain (s := 11) (v := .bool false) ?_ ?_
        · rfl
        intro f wz K hb hd hK
        have e3 : f 3 = .bool false := plainAt (s := 8) (cs := []) (hd 3 (by decide)) rfl
        have e5 : f 5 = .bool true := plainAt (s := 10) (cs := []) (hd 5 (by decide)) rfl
        simp only [setN, upd, Nat.reduceAdd, Nat.reduceEqDiff, reduceIte, List.setIfInBounds_toArray, List.set_cons_zero, List.set_cons_succ] at hK ⊢
        simp only [e3, e5] at hK ⊢
        refine wpOp_do rfl (by kernel_rfl) ?_
        unfold Oper.wp execOp
        go_simp
        exact hK _ (Below.refl _ _)
      · with_reducible refine DoesN.plain (s := 12) (v := .bool false) ?_ ?_
        · rfl
        intro f wz K hb hd hK
        have e3 : f 3 = .bool false := plainAt (s := 8) (cs := []) (hd 3 (by decide)) rfl
        have e6 : f 6 = .bool false := plainAt (s := 11) (cs := []) (hd 6 (by decide)) rfl
        simp only [setN, upd, Nat.reduceAdd, Nat.reduceEqDiff, reduceIte, List.setIfInBounds_toArray, List.set_cons_zero, List.set_cons_succ] at hK ⊢
        simp only [e3, e6] at hK ⊢
        refine wpOp_do rfl (by kernel_rfl) ?_
        unfold Oper.wp execOp
        go_simp
        exact hK _ (Below.refl _ _)
      · with_reducible refine DoesN.plain (s := 13) (v := .bool false) ?_ ?_
        · rfl
        intro f wz K hb hd hK
        have e7 : f 7 = .bool false := plainAt (s := 12) (cs := []) (hd 7 (by decide)) rfl
        simp only [setN, upd, Nat.reduceAdd, Nat.reduceEqDiff, reduceIte, List.setIfInBounds_toArray, List.set_cons_zero, List.set_cons_succ] at hK ⊢
        simp only [e7] at hK ⊢
        refine wpOp_do rfl (by kernel_rfl) ?_
        unfold Oper.wp execOp
        go_simp
        exact hK _ (Below.refl _ _)
      · with_reducible refine DoesN.plain (s := 14) (v := .pointer (some ⟨w.heap.size, 0, none⟩)) ?_ ?_
        · rfl
        intro f wz K hb hd hK
        have e8 : f 8 = .bool false := plainAt (s := 13) (cs := []) (hd 8 (by decide)) rfl
        simp only [setN, upd, Nat.reduceAdd, Nat.reduceEqDiff, reduceIte, List.setIfInBounds_toArray, List.set_cons_zero, List.set_cons_succ] at hK ⊢
        simp only [e8] at hK ⊢
        refine wpOp_do rfl (by kernel_rfl) ?_
        unfold Oper.wp execOp
        go_simp
        exact hK _ (Below.refl _ _)
      · with_reducible refine DoesN.plain (s := 15) (v := .pointer (some ⟨w.heap.size, 0, none⟩)) ?_ ?_
        · rfl
        intro f wz K hb hd hK
        have e8 : f 8 = .bool false := plainAt (s := 13) (cs := []) (hd 8 (by decide)) rfl
        have e9 : f 9 = .pointer (some ⟨w.heap.size, 0, none⟩) := plainAt (s := 14) (cs := []) (hd 9 (by decide)) rfl
        simp only [setN, upd, Nat.reduceAdd, Nat.reduceEqDiff, reduceIte, List.setIfInBounds_toArray, List.set_cons_zero, List.set_cons_succ] at hK ⊢
        simp only [e8, e9] at hK ⊢
        refine wpOp_do rfl (by kernel_rfl) ?_
        unfold Oper.wp execOp
        go_simp
        exact hK _ (Below.refl _ _)
      · with_reducible refine DoesN.plain (s := 16) (v := .int .i64 op) ?_ ?_
        · rfl
        intro f wz K hb hd hK
        have e8 : f 8 = .bool false := plainAt (s := 13) (cs := []) (hd 8 (by decide)) rfl
        have e10 : f 10 = .pointer (some ⟨w.heap.size, 0, none⟩) := plainAt (s := 15) (cs := []) (hd 10 (by decide)) rfl
        obtain ⟨p0, p1, p2, p3, p4, p5, p6⟩ := cells7 ((hb.block _ (block_lt HXB)).trans HXB)
        simp only [setN, upd, Nat.reduceAdd, Nat.reduceEqDiff, reduceIte, List.setIfInBounds_toArray, List.set_cons_zero, List.set_cons_succ] at hK ⊢
        simp only [e8, e10] at hK ⊢
        refine wpOp_do rfl (by kernel_rfl) ?_
        unfold Oper.wp execOp
        go_simp
        exact hK _ (Below.refl _ _)
      · with_reducible refine DoesN.plain (s := 17) (v := .int .i64 kx) ?_ ?_
        · rfl
        intro f wz K hb hd hK
        have e8 : f 8 = .bool false := plainAt (s := 13) (cs := []) (hd 8 (by decide)) rfl
        have e11 : f 11 = .int .i64 op := plainAt (s := 16) (cs := []) (hd 11 (by decide)) rfl
        simp only [setN, upd, Nat.reduceAdd, Nat.reduceEqDiff, reduceIte, List.setIfInBounds_toArray, List.set_cons_zero, List.set_cons_succ] at hK ⊢
        simp only [e8, e11] at hK ⊢
        refine wpOp_do rfl (by kernel_rfl) ?_
        unfold Oper.wp execOp
        go_simp
        refine (unhide HKX _ ?_).mono ?_
        · exact hb
        rintro e w' ⟨rfl, hb'⟩
        exact hK _ hb'
      · with_reducible refine DoesN.plain (s := 18) (v := .pointer (some ⟨w.heap.size + 1, 0, none⟩)) ?_ ?_
        · rfl
        intro f wz K hb hd hK
        have e8 : f 8 = .bool false := plainAt (s := 13) (cs := []) (hd 8 (by decide)) rfl
        simp only [setN, upd, Nat.reduceAdd, Nat.reduceEqDiff, reduceIte, List.setIfInBounds_toArray, List.set_cons_zero, List.set_cons_succ] at hK ⊢
        simp only [e8] at hK ⊢
        refine wpOp_do rfl (by kernel_rfl) ?_
        unfold Oper.wp execOp
        go_simp
        exact hK _ (Below.refl _ _)
      · with_reducible refine DoesN.plain (s := 19) (v := .pointer (some ⟨w.heap.size + 1, 0, none⟩)) ?_ ?_
        · rfl
        intro f wz K hb hd hK
        have e8 : f 8 = .bool false := plainAt (s := 13) (cs := []) (hd 8 (by decide)) rfl
        have e13 : f 13 = .pointer (some ⟨w.heap.size + 1, 0, none⟩) := plainAt (s := 18) (cs := []) (hd 13 (by decide)) rfl
        simp only [setN, upd, Nat.reduceAdd, Nat.reduceEqDiff, reduceIte, List.setIfInBounds_toArray, List.set_cons_zero, List.set_cons_succ] at hK ⊢
        simp only [e8, e13] at hK ⊢
        refine wpOp_do rfl (by kernel_rfl) ?_
        unfold Oper.wp execOp
        go_simp
        exact hK _ (Below.refl _ _)
      · with_reducible refine DoesN.plain (s := 20) (v := .int .i64 op') ?_ ?_
        · rfl
        intro f wz K hb hd hK
        have e8 : f 8 = .bool false := plainAt (s := 13) (cs := []) (hd 8 (by decide)) rfl
        have e14 : f 14 = .pointer (some ⟨w.heap.size + 1, 0, none⟩) := plainAt (s := 19) (cs := []) (hd 14 (by decide)) rfl
        obtain ⟨p0, p1, p2, p3, p4, p5, p6⟩ := cells7 ((hb.block _ (block_lt HYB)).trans HYB)
        simp only [setN, upd, Nat.reduceAdd, Nat.reduceEqDiff, reduceIte, List.setIfInBounds_toArray, List.set_cons_zero, List.set_cons_succ] at hK ⊢
        simp only [e8, e14] at hK ⊢
        refine wpOp_do rfl (by kernel_rfl) ?_
        unfold Oper.wp execOp
        go_simp
        exact hK _ (Below.refl _ _)
      · with_reducible refine DoesN.plain (s := 21) (v := .int .i64 ky) ?_ ?_
        · rfl
        intro f wz K hb hd hK
        have e8 : f 8 = .bool false := plainAt (s := 13) (cs := []) (hd 8 (by decide)) rfl
        have e15 : f 15 = .int .i64 op' := plainAt (s := 20) (cs := []) (hd 15 (by decide)) rfl
        simp only [setN, upd, Nat.reduceAdd, Nat.reduceEqDiff, reduceIte, List.setIfInBounds_toArray, List.set_cons_zero, List.set_cons_succ] at hK ⊢
        simp only [e8, e15] at hK ⊢
        refine wpOp_do rfl (by kernel_rfl) ?_
        unfold Oper.wp execOp
        go_simp
        refine (unhide HKY _ ?_).mono ?_
        · exact hb
        rintro e w' ⟨rfl, hb'⟩
        exact hK _ hb'
      · with_reducible refine DoesN.plain (s := 22) (v := .bool false) ?_ ?_
        · rfl
        intro f wz K hb hd hK
        have e8 : f 8 = .bool false := plainAt (s := 13) (cs := []) (hd 8 (by decide)) rfl
        have e12 : f 12 = .int .i64 kx := plainAt (s := 17) (cs := []) (hd 12 (by decide)) rfl
        have e16 : f 16 = .int .i64 ky := plainAt (s := 21) (cs := []) (hd 16 (by decide)) rfl
        simp only [setN, upd, Nat.reduceAdd, Nat.reduceEqDiff, reduceIte, List.setIfInBounds_toArray, List.set_cons_zero, List.set_cons_succ] at hK ⊢
        simp only [e8, e12, e16] at hK ⊢
        refine wpOp_do rfl (by kernel_rfl) ?_
        unfold Oper.wp execOp
        go_simp
        exact hK _ (Below.refl _ _)
      · with_reducible refine DoesN.plain (s := 23) (v := .bool false) ?_ ?_
        · rfl
        intro f wz K hb hd hK
        have e8 : f 8 = .bool false := plainAt (s := 13) (cs := []) (hd 8 (by decide)) rfl
        have e17 : f 17 = .bool false := plainAt (s := 22) (cs := []) (hd 17 (by decide)) rfl
        simp only [setN, upd, Nat.reduceAdd, Nat.reduceEqDiff, reduceIte, List.setIfInBounds_toArray, List.set_cons_zero, List.set_cons_succ] at hK ⊢
        simp only [e8, e17] at hK ⊢
        refine wpOp_do rfl (by kernel_rfl) ?_
        unfold Oper.wp execOp
        go_simp
        exact hK _ (Below.refl _ _)
    · intro f wE hbE hv hp hne ho
      have h0 : f 0 = .agg #[.int .i64 op, .string (S a), .string (S b), .int .i64 n, .int .i64 c, .string (S t), .int .i64 m] := plainAt (s := 5) (cs := []) (hv 0) rfl
      have h1 : f 1 = .bool true := plainAt (s := 6) (cs := []) (hv 1) rfl
      have h2 : f 2 = .bool false := plainAt (s := 7) (cs := []) (hv 2) rfl
      have h3 : f 3 = .bool false := plainAt (s := 8) (cs := []) (hv 3) rfl
      have h4 : f 4 = .agg #[.int .i64 op', .string (S a'), .string (S b'), .int .i64 n', .int .i64 c', .string (S t'), .int .i64 m'] := plainAt (s := 9) (cs := []) (hv 4) rfl
      have h5 : f 5 = .bool true := plainAt (s := 10) (cs := []) (hv 5) rfl
      have h6 : f 6 = .bool false := plainAt (s := 11) (cs := []) (hv 6) rfl
      have h7 : f 7 = .bool false := plainAt (s := 12) (cs := []) (hv 7) rfl
      have h8 : f 8 = .bool false := plainAt (s := 13) (cs := []) (hv 8) rfl
      have h9 : f 9 = .pointer (some ⟨w.heap.size, 0, none⟩) := plainAt (s := 14) (cs := []) (hv 9) rfl
      have h10 : f 10 = .pointer (some ⟨w.heap.size, 0, none⟩) := plainAt (s := 15) (cs := []) (hv 10) rfl
      have h11 : f 11 = .int .i64 op := plainAt (s := 16) (cs := []) (hv 11) rfl
      have h12 : f 12 = .int .i64 kx := plainAt (s := 17) (cs := []) (hv 12) rfl
      have h13 : f 13 = .pointer (some ⟨w.heap.size + 1, 0, none⟩) := plainAt (s := 18) (cs := []) (hv 13) rfl
      have h14 : f 14 = .pointer (some ⟨w.heap.size + 1, 0, none⟩) := plainAt (s := 19) (cs := []) (hv 14) rfl
      have h15 : f 15 = .int .i64 op' := plainAt (s := 20) (cs := []) (hv 15) rfl
      have h16 : f 16 = .int .i64 ky := plainAt (s := 21) (cs := []) (hv 16) rfl
      have h17 : f 17 = .bool false := plainAt (s := 22) (cs := []) (hv 17) rfl
      have h18 : f 18 = .bool false := plainAt (s := 23) (cs := []) (hv 18) rfl
      simp only [setN, Nat.reduceAdd, List.setIfInBounds_toArray, List.set_cons_zero, List.set_cons_succ]
      simp only [h0, h1, h2, h3, h4, h5, h6, h7, h8, h9, h10, h11, h12, h13, h14, h15, h16, h17, h18]
      clear h0 h1 h2 h3 h4 h5 h6 h7 h8 h9 h10 h11 h12 h13 h14 h15 h16 h17 h18
      have HE := hide (unhide HF _ _ (unhide HLW) hbE)
      have hx2 := (hbE.block _ (block_lt HXB)).trans HXB
      have hy2 := (hbE.block _ (block_lt HYB)).trans HYB
      obtain ⟨p0, p1, p2, p3, p4, p5, p6⟩ := cells7 hx2
      obtain ⟨q0, q1, q2, q3, q4, q5, q6⟩ := cells7 hy2
      have HXB2 := hide hx2
      have HYB2 := hide hy2
      clear hbE hv hp hne ho hx2 hy2 HXB HYB HPX HPY HKX HKY
      go_wp2_with fail
      refine (unhide HUX _).mono ?_
      rintro e w2 ⟨rfl, hb2⟩
      cases U1
      · obtain ⟨u0, u1, u2, u3, u4, u5, u6⟩ := cells7 ((hb2.block _ (block_lt (unhide HXB2))).trans (unhide HXB2))
        obtain ⟨v0, v1, v2, v3, v4, v5, v6⟩ := cells7 ((hb2.block _ (block_lt (unhide HYB2))).trans (unhide HYB2))
        have HE2 := hide (unhide HF _ _ (unhide HE) hb2)
        clear hb2 p0 p1 p2 p3 p4 p5 p6 q0 q1 q2 q3 q4 q5 q6
        go_wp2_with fail
        refine (unhide HUY _).mono ?_
        rintro e w3 ⟨rfl, hb3⟩
        have HE3 := hide (unhide HF _ _ (unhide HE2) hb3)
        clear hb3
        go_wp2_with fail
        go_ret
        exact ⟨rfl, unhide HE3⟩
      · have HE2 := hide (unhide HF _ _ (unhide HE) hb2)
        clear hb2
        go_wp2_with fail
        go_ret
        exact ⟨rfl, unhide HE2⟩
  · have k1 : (kx != ky) = true := by simp [hk]
    have k2 : (kx == ky) = false := by simp [hk]
    rw [decide_eq_false hk]
    clear hk
    rw [show (true && true && false && (U1 || U2)) = false by simp]
    go_enter Tryd.func12, Tryd.ntmps12
    go_upto_region 1 with fail
    try rw [hW]
    clear hW
    refine regN [.val 5 (Res.plain (.agg #[.int .i64 op, .string (S a), .string (S b), .int .i64 n, .int .i64 c, .string (S t), .int .i64 m]) []), .val 6 (Res.plain (.bool true) []), .val 7 (Res.plain (.bool false) []), .val 8 (Res.plain (.bool false) []), .val 9 (Res.plain (.agg #[.int .i64 op', .string (S a'), .string (S b'), .int .i64 n', .int .i64 c', .string (S t'), .int .i64 m']) []), .val 10 (Res.plain (.bool true) []), .val 11 (Res.plain (.bool false) []), .val 12 (Res.plain (.bool false) []), .val 13 (Res.plain (.bool false) []), .val 14 (Res.plain (.pointer (some ⟨w.heap.size, 0, none⟩)) []), .val 15 (Res.plain (.pointer (some ⟨w.heap.size, 0, none⟩)) []), .val 16 (Res.plain (.int .i64 op) []), .val 17 (Res.plain (.int .i64 kx) []), .val 18 (Res.plain (.pointer (some ⟨w.heap.size + 1, 0, none⟩)) []), .val 19 (Res.plain (.pointer (some ⟨w.heap.size + 1, 0, none⟩)) []), .val 20 (Res.plain (.int .i64 op') []), .val 21 (Res.plain (.int .i64 ky) []), .val 22 (Res.plain (.bool true) []), .val 23 (Res.plain (.bool true) [])] (fun i => if i = 1 then [0] else if i = 2 then [1] else if i = 3 then [2] else if i = 4 then [3] else if i = 5 then [3, 4] else if i = 6 then [3, 5] else if i = 7 then [3, 6] else if i = 8 then [7] else if i = 9 then [8] else if i = 10 then [8, 9] else if i = 11 then [8, 10] else if i = 12 then [8, 11] else if i = 13 then [8] else if i = 14 then [8, 13] else if i = 15 then [8, 14] else if i = 16 then [8, 15] else if i = 17 then [8, 12, 16] else if i = 18 then [8, 17] else []) ?_ ?_ ?_ ?_ ?_ ?_ ?_ (fun i hi => ?_) ?_
    · kernel_rfl
    · rfl
    · kernel_rfl
    · kernel_rfl
    · kernel_rfl
    · kernel_rfl
    · kernel_rfl
    · have hc : i = 0 ∨ i = 1 ∨ i = 2 ∨ i = 3 ∨ i = 4 ∨ i = 5 ∨ i = 6 ∨ i = 7 ∨ i = 8 ∨ i = 9 ∨ i = 10 ∨ i = 11 ∨ i = 12 ∨ i = 13 ∨ i = 14 ∨ i = 15 ∨ i = 16 ∨ i = 17 ∨ i = 18 := by have : i < 19 := hi; omega
      clear hi
      rcases hc with rfl | rfl | rfl | rfl | rfl | rfl | rfl | rfl | rfl | rfl | rfl | rfl | rfl | rfl | rfl | rfl | rfl | rfl | rfl
      · with_reducible refine DoesN.plain (s := 5) (v := .agg #[.int .i64 op, .string (S a), .string (S b), .int .i64 n, .int .i64 c, .string (S t), .int .i64 m]) ?_ ?_
        · rfl
        intro f wz K hb hd hK
        obtain ⟨p0, p1, p2, p3, p4, p5, p6⟩ := cells7 ((hb.block _ (block_lt HXB)).trans HXB)
        simp only [setN, upd, Nat.reduceAdd, Nat.reduceEqDiff, reduceIte, List.setIfInBounds_toArray, List.set_cons_zero, List.set_cons_succ] at hK ⊢
        refine wpOp_do rfl (by kernel_rfl) ?_
        unfold Oper.wp execOp
        go_simp
        exact hK _ (Below.refl _ _)
      · with_reducible refine DoesN.plain (s := 6) (v := .bool true) ?_ ?_
        · rfl
        intro f wz K hb hd hK
        have e0 : f 0 = .agg #[.int .i64 op, .string (S a), .string (S b), .int .i64 n, .int .i64 c, .string (S t), .int .i64 m] := plainAt (s := 5) (cs := []) (hd 0 (by decide)) rfl
        simp only [setN, upd, Nat.reduceAdd, Nat.reduceEqDiff, reduceIte, List.setIfInBounds_toArray, List.set_cons_zero, List.set_cons_succ] at hK ⊢
        simp only [e0] at hK ⊢
        refine wpOp_do rfl (by kernel_rfl) ?_
        unfold Oper.wp execOp
        go_simp
        refine (unhide HPX _).mono ?_
        rintro e w' ⟨rfl, hb'⟩
        exact hK _ hb'
      · with_reducible refine DoesN.plain (s := 7) (v := .bool false) ?_ ?_
        · rfl
        intro f wz K hb hd hK
        have e1 : f 1 = .bool true := plainAt (s := 6) (cs := []) (hd 1 (by decide)) rfl
        simp only [setN, upd, Nat.reduceAdd, Nat.reduceEqDiff, reduceIte, List.setIfInBounds_toArray, List.set_cons_zero, List.set_cons_succ] at hK ⊢
        simp only [e1] at hK ⊢
        refine wpOp_do rfl (by kernel_rfl) ?_
        unfold Oper.wp execOp
        go_simp
        exact hK _ (Below.refl _ _)
      · with_reducible refine DoesN.plain (s := 8) (v := .bool false) ?_ ?_
        · rfl
        intro f wz K hb hd hK
        have e2 : f 2 = .bool false := plainAt (s := 7) (cs := []) (hd 2 (by decide)) rfl
        simp only [setN, upd, Nat.reduceAdd, Nat.reduceEqDiff, reduceIte, List.setIfInBounds_toArray, List.set_cons_zero, List.set_cons_succ] at hK ⊢
        simp only [e2] at hK ⊢
        refine wpOp_do rfl (by kernel_rfl) ?_
        unfold Oper.wp execOp
        go_simp
        exact hK _ (Below.refl _ _)
      · with_reducible refine DoesN.plain (s := 9) (v := .agg #[.int .i64 op', .string (S a'), .string (S b'), .int .i64 n', .int .i64 c', .string (S t'), .int .i64 m']) ?_ ?_
        · rfl
        intro f wz K hb hd hK
        have e3 : f 3 = .bool false := plainAt (s := 8) (cs := []) (hd 3 (by decide)) rfl
        obtain ⟨p0, p1, p2, p3, p4, p5, p6⟩ := cells7 ((hb.block _ (block_lt HYB)).trans HYB)
        simp only [setN, upd, Nat.reduceAdd, Nat.reduceEqDiff, reduceIte, List.setIfInBounds_toArray, List.set_cons_zero, List.set_cons_succ] at hK ⊢
        simp only [e3] at hK ⊢
        refine wpOp_do rfl (by kernel_rfl) ?_
        unfold Oper.wp execOp
        go_simp
        exact hK _ (Below.refl _ _)
      · with_reducible refine DoesN.plain (s := 10) (v := .bool true) ?_ ?_
        · rfl
        intro f wz K hb hd hK
        have e3 : f 3 = .bool false := plainAt (s := 8) (cs := []) (hd 3 (by decide)) rfl
        have e4 : f 4 = .agg #[.int .i64 op', .string (S a'), .string (S b'), .int .i64 n', .int .i64 c', .string (S t'), .int .i64 m'] := plainAt (s := 9) (cs := []) (hd 4 (by decide)) rfl
        simp only [setN, upd, Nat.reduceAdd, Nat.reduceEqDiff, reduceIte, List.setIfInBounds_toArray, List.set_cons_zero, List.set_cons_succ] at hK ⊢
        simp only [e3, e4] at hK ⊢
        refine wpOp_do rfl (by kernel_rfl) ?_
        unfold Oper.wp execOp
        go_simp
        refine (unhide HPY _).mono ?_
        rintro e w' ⟨rfl, hb'⟩
        exact hK _ hb'
      · with_reducible refine DoesN.plain (s := 11) (v := .bool false) ?_ ?_
        · rfl
        intro f wz K hb hd hK
        have e3 : f 3 = .bool false := plainAt (s := 8) (cs := []) (hd 3 (by decide)) rfl
        have e5 : f 5 = .bool true := plainAt (s := 10) (cs := []) (hd 5 (by decide)) rfl
        simp only [setN, upd, Nat.reduceAdd, Nat.reduceEqDiff, reduceIte, List.setIfInBounds_toArray, List.set_cons_zero, List.set_cons_succ] at hK ⊢
        simp only [e3, e5] at hK ⊢
        refine wpOp_do rfl (by kernel_rfl) ?_
        unfold Oper.wp execOp
        go_simp
        exact hK _ (Below.refl _ _)
      · with_reducible refine DoesN.plain (s := 12) (v := .bool false) ?_ ?_
        · rfl
        intro f wz K hb hd hK
        have e3 : f 3 = .bool false := plainAt (s := 8) (cs := []) (hd 3 (by decide)) rfl
        have e6 : f 6 = .bool false := plainAt (s := 11) (cs := []) (hd 6 (by decide)) rfl
        simp only [setN, upd, Nat.reduceAdd, Nat.reduceEqDiff, reduceIte, List.setIfInBounds_toArray, List.set_cons_zero, List.set_cons_succ] at hK ⊢
        simp only [e3, e6] at hK ⊢
        refine wpOp_do rfl (by kernel_rfl) ?_
        unfold Oper.wp execOp
        go_simp
        exact hK _ (Below.refl _ _)
      · with_reducible refine DoesN.plain (s := 13) (v := .bool false) ?_ ?_
        · rfl
        intro f wz K hb hd hK
        have e7 : f 7 = .bool false := plainAt (s := 12) (cs := []) (hd 7 (by decide)) rfl
        simp only [setN, upd, Nat.reduceAdd, Nat.reduceEqDiff, reduceIte, List.setIfInBounds_toArray, List.set_cons_zero, List.set_cons_succ] at hK ⊢
        simp only [e7] at hK ⊢
        refine wpOp_do rfl (by kernel_rfl) ?_
        unfold Oper.wp execOp
        go_simp
        exact hK _ (Below.refl _ _)
      · with_reducible refine DoesN.plain (s := 14) (v := .pointer (some ⟨w.heap.size, 0, none⟩)) ?_ ?_
        · rfl
        intro f wz K hb hd hK
        have e8 : f 8 = .bool false := plainAt (s := 13) (cs := []) (hd 8 (by decide)) rfl
        simp only [setN, upd, Nat.reduceAdd, Nat.reduceEqDiff, reduceIte, List.setIfInBounds_toArray, List.set_cons_zero, List.set_cons_succ] at hK ⊢
        simp only [e8] at hK ⊢
        refine wpOp_do rfl (by kernel_rfl) ?_
        unfold Oper.wp execOp
        go_simp
        exact hK _ (Below.refl _ _)
      · with_reducible refine DoesN.plain (s := 15) (v := .pointer (some ⟨w.heap.size, 0, none⟩)) ?_ ?_
        · rfl
        intro f wz K hb hd hK
        have e8 : f 8 = .bool false := plainAt (s := 13) (cs := []) (hd 8 (by decide)) rfl
        have e9 : f 9 = .pointer (some ⟨w.heap.size, 0, none⟩) := plainAt (s := 14) (cs := []) (hd 9 (by decide)) rfl
        simp only [setN, upd, Nat.reduceAdd, Nat.reduceEqDiff, reduceIte, List.setIfInBounds_toArray, List.set_cons_zero, List.set_cons_succ] at hK ⊢
        simp only [e8, e9] at hK ⊢
        refine wpOp_do rfl (by kernel_rfl) ?_
        unfold Oper.wp execOp
        go_simp
        exact hK _ (Below.refl _ _)
      · with_reducible refine DoesN.plain (s := 16) (v := .int .i64 op) ?_ ?_
        · rfl
        intro f wz K hb hd hK
        have e8 : f 8 = .bool false := plainAt (s := 13) (cs := []) (hd 8 (by decide)) rfl
        have e10 : f 10 = .pointer (some ⟨w.heap.size, 0, none⟩) := plainAt (s := 15) (cs := []) (hd 10 (by decide)) rfl
        obtain ⟨p0, p1, p2, p3, p4, p5, p6⟩ := cells7 ((hb.block _ (block_lt HXB)).trans HXB)
        simp only [setN, upd, Nat.reduceAdd, Nat.reduceEqDiff, reduceIte, List.setIfInBounds_toArray, List.set_cons_zero, List.set_cons_succ] at hK ⊢
        simp only [e8, e10] at hK ⊢
        refine wpOp_do rfl (by kernel_rfl) ?_
        unfold Oper.wp execOp
        go_simp
        exact hK _ (Below.refl _ _)
      · with_reducible refine DoesN.plain (s := 17) (v := .int .i64 kx) ?_ ?_
        · rfl
        intro f wz K hb hd hK
        have e8 : f 8 = .bool false := plainAt (s := 13) (cs := []) (hd 8 (by decide)) rfl
        have e11 : f 11 = .int .i64 op := plainAt (s := 16) (cs := []) (hd 11 (by decide)) rfl
        simp only [setN, upd, Nat.reduceAdd, Nat.reduceEqDiff, reduceIte, List.setIfInBounds_toArray, List.set_cons_zero, List.set_cons_succ] at hK ⊢
        simp only [e8, e11] at hK ⊢
        refine wpOp_do rfl (by kernel_rfl) ?_
        unfold Oper.wp execOp
        go_simp
        refine (unhide HKX _ ?_).mono ?_
        · exact hb
        rintro e w' ⟨rfl, hb'⟩
        exact hK _ hb'
      · with_reducible refine DoesN.plain (s := 18) (v := .pointer (some ⟨w.heap.size + 1, 0, none⟩)) ?_ ?_
        · rfl
        intro f wz K hb hd hK
        have e8 : f 8 = .bool false := plainAt (s := 13) (cs := []) (hd 8 (by decide)) rfl
        simp only [setN, upd, Nat.reduceAdd, Nat.reduceEqDiff, reduceIte, List.setIfInBounds_toArray, List.set_cons_zero, List.set_cons_succ] at hK ⊢
        simp only [e8] at hK ⊢
        refine wpOp_do rfl (by kernel_rfl) ?_
        unfold Oper.wp execOp
        go_simp
        exact hK _ (Below.refl _ _)
      · with_reducible refine DoesN.plain (s := 19) (v := .pointer (some ⟨w.heap.size + 1, 0, none⟩)) ?_ ?_
        · rfl
        intro f wz K hb hd hK
        have e8 : f 8 = .bool false := plainAt (s := 13) (cs := []) (hd 8 (by decide)) rfl
        have e13 : f 13 = .pointer (some ⟨w.heap.size + 1, 0, none⟩) := plainAt (s := 18) (cs := []) (hd 13 (by decide)) rfl
        simp only [setN, upd, Nat.reduceAdd, Nat.reduceEqDiff, reduceIte, List.setIfInBounds_toArray, List.set_cons_zero, List.set_cons_succ] at hK ⊢
        simp only [e8, e13] at hK ⊢
        refine wpOp_do rfl (by kernel_rfl) ?_
        unfold Oper.wp execOp
        go_simp
        exact hK _ (Below.refl _ _)
      · with_reducible refine DoesN.plain (s := 20) (v := .int .i64 op') ?_ ?_
        · rfl
        intro f wz K hb hd hK
        have e8 : f 8 = .bool false := plainAt (s := 13) (cs := []) (hd 8 (by decide)) rfl
        have e14 : f 14 = .pointer (some ⟨w.heap.size + 1, 0, none⟩) := plainAt (s := 19) (cs := []) (hd 14 (by decide)) rfl
        obtain ⟨p0, p1, p2, p3, p4, p5, p6⟩ := cells7 ((hb.block _ (block_lt HYB)).trans HYB)
        simp only [setN, upd, Nat.reduceAdd, Nat.reduceEqDiff, reduceIte, List.setIfInBounds_toArray, List.set_cons_zero, List.set_cons_succ] at hK ⊢
        simp only [e8, e14] at hK ⊢
        refine wpOp_do rfl (by kernel_rfl) ?_
        unfold Oper.wp execOp
        go_simp
        exact hK _ (Below.refl _ _)
      · with_reducible refine DoesN.plain (s := 21) (v := .int .i64 ky) ?_ ?_
        · rfl
        intro f wz K hb hd hK
        have e8 : f 8 = .bool false := plainAt (s := 13) (cs := []) (hd 8 (by decide)) rfl
        have e15 : f 15 = .int .i64 op' := plainAt (s := 20) (cs := []) (hd 15 (by decide)) rfl
        simp only [setN, upd, Nat.reduceAdd, Nat.reduceEqDiff, reduceIte, List.setIfInBounds_toArray, List.set_cons_zero, List.set_cons_succ] at hK ⊢
        simp only [e8, e15] at hK ⊢
        refine wpOp_do rfl (by kernel_rfl) ?_
        unfold Oper.wp execOp
        go_simp
        refine (unhide HKY _ ?_).mono ?_
        · exact hb
        rintro e w' ⟨rfl, hb'⟩
        exact hK _ hb'
      · with_reducible refine DoesN.plain (s := 22) (v := .bool true) ?_ ?_
        · rfl
        intro f wz K hb hd hK
        have e8 : f 8 = .bool false := plainAt (s := 13) (cs := []) (hd 8 (by decide)) rfl
        have e12 : f 12 = .int .i64 kx := plainAt (s := 17) (cs := []) (hd 12 (by decide)) rfl
        have e16 : f 16 = .int .i64 ky := plainAt (s := 21) (cs := []) (hd 16 (by decide)) rfl
        simp only [setN, upd, Nat.reduceAdd, Nat.reduceEqDiff, reduceIte, List.setIfInBounds_toArray, List.set_cons_zero, List.set_cons_succ] at hK ⊢
        simp only [e8, e12, e16] at hK ⊢
        refine wpOp_do rfl (by kernel_rfl) ?_
        unfold Oper.wp execOp
        go_simp
        exact hK _ (Below.refl _ _)
      · with_reducible refine DoesN.plain (s := 23) (v := .bool true) ?_ ?_
        · rfl
        intro f wz K hb hd hK
        have e8 : f 8 = .bool false := plainAt (s := 13) (cs := []) (hd 8 (by decide)) rfl
        have e17 : f 17 = .bool true := plainAt (s := 22) (cs := []) (hd 17 (by decide)) rfl
        simp only [setN, upd, Nat.reduceAdd, Nat.reduceEqDiff, reduceIte, List.setIfInBounds_toArray, List.set_cons_zero, List.set_cons_succ] at hK ⊢
        simp only [e8, e17] at hK ⊢
        refine wpOp_do rfl (by kernel_rfl) ?_
        unfold Oper.wp execOp
        go_simp
        exact hK _ (Below.refl _ _)
    · intro f wE hbE hv hp hne ho
      have h0 : f 0 = .agg #[.int .i64 op, .string (S a), .string (S b), .int .i64 n, .int .i64 c, .string (S t), .int .i64 m] := plainAt (s := 5) (cs := []) (hv 0) rfl
      have h1 : f 1 = .bool true := plainAt (s := 6) (cs := []) (hv 1) rfl
      have h2 : f 2 = .bool false := plainAt (s := 7) (cs := []) (hv 2) rfl
      have h3 : f 3 = .bool false := plainAt (s := 8) (cs := []) (hv 3) rfl
      have h4 : f 4 = .agg #[.int .i64 op', .string (S a'), .string (S b'), .int .i64 n', .int .i64 c', .string (S t'), .int .i64 m'] := plainAt (s := 9) (cs := []) (hv 4) rfl
      have h5 : f 5 = .bool true := plainAt (s := 10) (cs := []) (hv 5) rfl
      have h6 : f 6 = .bool false := plainAt (s := 11) (cs := []) (hv 6) rfl
      have h7 : f 7 = .bool false := plainAt (s := 12) (cs := []) (hv 7) rfl
      have h8 : f 8 = .bool false := plainAt (s := 13) (cs := []) (hv 8) rfl
      have h9 : f 9 = .pointer (some ⟨w.heap.size, 0, none⟩) := plainAt (s := 14) (cs := []) (hv 9) rfl
      have h10 : f 10 = .pointer (some ⟨w.heap.size, 0, none⟩) := plainAt (s := 15) (cs := []) (hv 10) rfl
      have h11 : f 11 = .int .i64 op := plainAt (s := 16) (cs := []) (hv 11) rfl
      have h12 : f 12 = .int .i64 kx := plainAt (s := 17) (cs := []) (hv 12) rfl
      have h13 : f 13 = .pointer (some ⟨w.heap.size + 1, 0, none⟩) := plainAt (s := 18) (cs := []) (hv 13) rfl
      have h14 : f 14 = .pointer (some ⟨w.heap.size + 1, 0, none⟩) := plainAt (s := 19) (cs := []) (hv 14) rfl
      have h15 : f 15 = .int .i64 op' := plainAt (s := 20) (cs := []) (hv 15) rfl
      have h16 : f 16 = .int .i64 ky := plainAt (s := 21) (cs := []) (hv 16) rfl
      have h17 : f 17 = .bool true := plainAt (s := 22) (cs := []) (hv 17) rfl
      have h18 : f 18 = .bool true := plainAt (s := 23) (cs := []) (hv 18) rfl
      simp only [setN, Nat.reduceAdd, List.setIfInBounds_toArray, List.set_cons_zero, List.set_cons_succ]
      simp only [h0, h1, h2, h3, h4, h5, h6, h7, h8, h9, h10, h11, h12, h13, h14, h15, h16, h17, h18]
      clear h0 h1 h2 h3 h4 h5 h6 h7 h8 h9 h10 h11 h12 h13 h14 h15 h16 h17 h18
      have HE := hide (unhide HF _ _ (unhide HLW) hbE)
      clear hbE hv hp hne ho
      go_wp2_with fail
      go_ret
      exact ⟨rfl, unhide HE⟩
end Go.Proofs.YteaiidcconggcaaDoor
/- Law 14's awake. -/
namespace Go.Proofs.YteaiidcconggcaaDoor
open Go.RowKit
set_option linter.unusedVariables false
set_option maxRecDepth 100000

theorem step_any {w : World} (op k : Int) : Calls Tryd.prog 26 #[.int .i64 op, .int .i64 k] w fun e w' => e = .returned (stV (⟨op, [97], [], 0⟩, ⟨k, [], 0⟩)) ∧ Below w.heap.size w w' := by
  unfold stV
  have HB := hide (fun o : Obj => under_box (w := w) o)
  go_enter Tryd.func26, Tryd.ntmps26
  go_wp2_with fail
  exact bodyPost_ret (v := .agg #[.int .i64 op, .string (S [97]), .string (S []), .int .i64 0, .int .i64 k, .string (S []), .int .i64 0]) (by simp [results, Tryd.results26, go_sem]; exact ⟨rfl, rfl⟩) rfl ⟨rfl, unhide HB _⟩
set_option maxHeartbeats 6400000 in
theorem qawake_any {w : World} (hw : MD w) : Calls Tryd.prog 7 #[] w fun e w' => e = .returned (.bool true) ∧ Below w.heap.size w w' := by
  have HST := hide (fun (wz : World) (op k : Int) => step_any (w := wz) op k)
  have HF := hide (fun (wz w' : World) (h1 : Below w.heap.size w wz) (h2 : Below wz.heap.size wz w') => h1.trans (h2.mono h1.size))
  have HC1 : Hid (∀ wz, Below w.heap.size w wz → Calls Tryd.prog 12 #[stV (⟨8, [97], [], 0⟩, ⟨1, [], 0⟩), stV (⟨10, [97], [], 0⟩, ⟨2, [], 0⟩)] wz fun e w' => e = .returned (.bool true) ∧ Below wz.heap.size wz w') := fun wz hb => by
    have := conflict_any (hw.later hb) (⟨8, [97], [], 0⟩, ⟨1, [], 0⟩) (⟨10, [97], [], 0⟩, ⟨2, [], 0⟩) (by decide) (by decide)
    rwa [show conM (⟨8, [97], [], 0⟩, ⟨1, [], 0⟩) (⟨10, [97], [], 0⟩, ⟨2, [], 0⟩) = true by decide +kernel] at this
  have HC2 : Hid (∀ wz, Below w.heap.size w wz → Calls Tryd.prog 12 #[stV (⟨8, [97], [], 0⟩, ⟨2, [], 0⟩), stV (⟨10, [97], [], 0⟩, ⟨1, [], 0⟩)] wz fun e w' => e = .returned (.bool false) ∧ Below wz.heap.size wz w') := fun wz hb => by
    have := conflict_any (hw.later hb) (⟨8, [97], [], 0⟩, ⟨2, [], 0⟩) (⟨10, [97], [], 0⟩, ⟨1, [], 0⟩) (by decide) (by decide)
    rwa [show conM (⟨8, [97], [], 0⟩, ⟨2, [], 0⟩) (⟨10, [97], [], 0⟩, ⟨1, [], 0⟩) = false by decide +kernel] at this
  have HP : Hid (∀ wz : World, Calls Tryd.prog 19 #[stV (⟨10, [97], [], 0⟩, ⟨1, [], 0⟩)] wz fun e w' => e = .returned (.bool true) ∧ Below wz.heap.size wz w') := fun wz => by
    have := possible_any (w := wz) (⟨10, [97], [], 0⟩, ⟨1, [], 0⟩) (by decide)
    rwa [show posM (⟨10, [97], [], 0⟩, ⟨1, [], 0⟩) = true by decide +kernel] at this
  clear hw
  go_enter Tryd.func7, Tryd.ntmps7
  go_wp2_with fail
  refine (unhide HST _ 8 1).mono ?_
  rintro e w1 ⟨rfl, hb1⟩
  have HE1 := hide (unhide HF _ _ (Below.refl _ _) hb1)
  clear hb1
  go_wp2_with fail
  refine (unhide HST _ 10 2).mono ?_
  rintro e w2 ⟨rfl, hb2⟩
  have HE2 := hide (unhide HF _ _ (unhide HE1) hb2)
  clear hb2
  go_wp2_with fail
  refine (unhide HC1 _ (unhide HE2)).mono ?_
  rintro e w3 ⟨rfl, hb3⟩
  have HE3 := hide (unhide HF _ _ (unhide HE2) hb3)
  clear hb3
  go_wp2_with fail
  refine (unhide HST _ 8 2).mono ?_
  rintro e w4 ⟨rfl, hb4⟩
  have HE4 := hide (unhide HF _ _ (unhide HE3) hb4)
  clear hb4
  go_wp2_with fail
  refine (unhide HST _ 10 1).mono ?_
  rintro e w5 ⟨rfl, hb5⟩
  have HE5 := hide (unhide HF _ _ (unhide HE4) hb5)
  clear hb5
  go_wp2_with fail
  refine (unhide HC2 _ (unhide HE5)).mono ?_
  rintro e w6 ⟨rfl, hb6⟩
  have HE6 := hide (unhide HF _ _ (unhide HE5) hb6)
  clear hb6
  go_wp2_with fail
  refine (unhide HST _ 10 1).mono ?_
  rintro e w7 ⟨rfl, hb7⟩
  have HE7 := hide (unhide HF _ _ (unhide HE6) hb7)
  clear hb7
  go_wp2_with fail
  refine (unhide HP _).mono ?_
  rintro e w8 ⟨rfl, hb8⟩
  have HE8 := hide (unhide HF _ _ (unhide HE7) hb8)
  clear hb8
  go_wp2_with fail
  go_ret
  exact ⟨rfl, unhide HE8⟩
end Go.Proofs.YteaiidcconggcaaDoor
