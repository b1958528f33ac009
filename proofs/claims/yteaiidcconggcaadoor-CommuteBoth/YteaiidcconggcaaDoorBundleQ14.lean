/- Texts that this proof needs, one behind the other: QPos, QCon, QAwake, QAmong2, QAny. -/
import Derived.Test.YteaiidcconggcaaDoorQSmall
import Derived.Test.YteaiidcconggcaaDoorQUps
import Derived.Test.YteaiidcconggcaaDoorMFacts
import Derived.Test.YteaiidcconggcaaDoorBundleQ13
import Derived.Test.YteaiidcconggcaaDoorBundleT12
import Derived.Test.YteaiidcconggcaaDoorBundleQ5
/- The contract of Possible. -/
namespace Go.Proofs.YteaiidcconggcaaDoor
open Go.RowKit
set_option linter.unusedVariables false
set_option maxRecDepth 100000

set_option maxHeartbeats 6400000 in
theorem possible_any {w : World} (p : Stp) (hop : okOp p.1.op) : Calls Tryd.prog 19 #[stV p] w fun e w' => e = .returned (.bool (posM p)) ∧ Below w.heap.size w w' := by
  obtain ⟨⟨op, a, b, n⟩, ⟨c, t, m⟩⟩ := p
  unfold stV posM
  dsimp only at *
  have HB : Hid (∀ o1 o2 o3 o4 o5 o6 : Obj, Below w.heap.size w ((((((w.alloc o1).alloc o2).alloc o3).alloc o4).alloc o5).alloc o6)) := fun o1 o2 o3 o4 o5 o6 => by
    have h2 := under_two w o1 o2
    have h3 := h2.alloc h2.size o3
    have h4 := h3.alloc h3.size o4
    have h5 := h4.alloc h4.size o5
    exact h5.alloc h5.size o6
  have HS : Hid ((S t).toList = [] ↔ t = []) := by
    show _ ↔ _
    rw [← List.isEmpty_iff, S_isEmpty, List.isEmpty_iff]
  rcases op_cases hop with rfl | rfl | rfl | rfl | rfl | rfl | rfl | rfl | rfl | rfl | rfl | rfl | rfl | rfl | rfl | rfl | rfl
  all_goals
    clear hop
    go_enter Tryd.func19, Tryd.ntmps19
    go_wp2_with fail
    all_goals
      go_ret
      refine ⟨?_, unhide HB _ _ _ _ _ _⟩
      first | rfl | (have hS := unhide HS; simp_all)
end Go.Proofs.YteaiidcconggcaaDoor
/- The contract of Conflict. -/
namespace Go.Proofs.YteaiidcconggcaaDoor
open Go.RowKit
set_option linter.unusedVariables false
set_option maxRecDepth 100000

set_option maxHeartbeats 25600000 in
theorem conflict_any {w : World} (hw : MD w) (x y : Stp) (hx : okOp x.1.op) (hy : okOp y.1.op) : Calls Tryd.prog 12 #[stV x, stV y] w fun e w' => e = .returned (.bool (conM x y)) ∧ Below w.heap.size w w' := by
  have HPX := hide (fun wz : World => possible_any (w := wz) x hx)
  have HPY := hide (fun wz : World => possible_any (w := wz) y hy)
  have HUX := hide (fun wz : World => upsets_any (w := wz) x y hx)
  have HUY := hide (fun wz : World => upsets_any (w := wz) y x hy)
  have HF := hide (fun (wz w' : World) (h1 : Below w.heap.size w wz) (h2 : Below wz.heap.size wz w') => h1.trans (h2.mono h1.size))
  unfold conM
  unfold kd
  generalize posM x = P1 at *
  generalize posM y = P2 at *
  generalize upsM x y = U1 at *
  generalize upsM y x = U2 at *
  obtain ⟨⟨op, a, b, n⟩, ⟨c, t, m⟩⟩ := x
  obtain ⟨⟨op', a', b', n'⟩, ⟨c', t', m'⟩⟩ := y
  unfold stV at *
  dsimp only at *
  obtain ⟨W, hW⟩ : ∃ W, ((w.alloc (.cells #[.int .i64 op, .string (S a), .string (S b), .int .i64 n, .int .i64 c, .string (S t), .int .i64 m] 41)).alloc (.cells #[.int .i64 op', .string (S a'), .string (S b'), .int .i64 n', .int .i64 c', .string (S t'), .int .i64 m'] 41)) = W := ⟨_, rfl⟩
  have HXB : W.heap[w.heap.size]? = some (.cells #[.int .i64 op, .string (S a), .string (S b), .int .i64 n, .int .i64 c, .string (S t), .int .i64 m] 41 (0, 0)) := by rw [← hW]; exact (two_heap w _ _).1
  have HYB : W.heap[w.heap.size + 1]? = some (.cells #[.int .i64 op', .string (S a'), .string (S b'), .int .i64 n', .int .i64 c', .string (S t'), .int .i64 m'] 41 (0, 0)) := by rw [← hW]; exact (two_heap w _ _).2
  have HLW : Hid (Below w.heap.size w W) := by show Below _ _ _; rw [← hW]; exact under_two w _ _
  have HKX := hide (fun (wz : World) (hb : Below W.heap.size W wz) => mkind_any (hw.later ((unhide HLW).trans (hb.mono (unhide HLW).size))) op)
  have HKY := hide (fun (wz : World) (hb : Below W.heap.size W wz) => mkind_any (hw.later ((unhide HLW).trans (hb.mono (unhide HLW).size))) op')
  generalize (mfact op).kind = kx at *
  generalize (mfact op').kind = ky at *
  clear hw hx hy
  cases P1
  · go_enter Tryd.func12, Tryd.ntmps12
    go_upto_region 1 with fail
    try rw [hW]
    clear hW
    refine regN [.val 5 (Res.plain (.agg #[.int .i64 op, .string (S a), .string (S b), .int .i64 n, .int .i64 c, .string (S t), .int .i64 m]) []), .val 6 (Res.plain (.bool false) []), .val 7 (Res.plain (.bool true) []), .val 8 (Res.plain (.bool true) []), .val 9 (Res.plain (undef) []), .val 10 (Res.plain (undef) []), .val 11 (Res.plain (undef) []), .val 12 (Res.plain (.bool true) []), .val 13 (Res.plain (.bool true) []), .val 14 (Res.plain (undef) []), .val 15 (Res.plain (undef) []), .val 16 (Res.plain (undef) []), .val 17 (Res.plain (undef) []), .val 18 (Res.plain (undef) []), .val 19 (Res.plain (undef) []), .val 20 (Res.plain (undef) []), .val 21 (Res.plain (undef) []), .val 22 (Res.plain (undef) []), .val 23 (Res.plain (.bool true) [])] (fun i => if i = 1 then [0] else if i = 2 then [1] else if i = 3 then [2] else if i = 4 then [3] else if i = 5 then [3, 4] else if i = 6 then [3, 5] else if i = 7 then [3, 6] else if i = 8 then [7] else if i = 9 then [8] else if i = 10 then [8, 9] else if i = 11 then [8, 10] else if i = 12 then [8, 11] else if i = 13 then [8] else if i = 14 then [8, 13] else if i = 15 then [8, 14] else if i = 16 then [8, 15] else if i = 17 then [8, 12, 16] else if i = 18 then [8, 17] else []) ?_ ?_ ?_ ?_ ?_ ?_ ?_ (fun i hi => ?_) ?_
    · kernel_rfl
    · rfl
    · kernel_rfl
    · kernel_rfl
    · kernel_rfl
    · kernel_rfl
    · kernel_rfl
    · have hc : i = 0 ∨ i = 1 ∨ i = 2 ∨ i = 3 ∨ i = 4 ∨ i = 5 ∨ i = 6 ∨ i = 7 ∨ i = 8 ∨ i = 9 ∨ i = 10 ∨ i = 11 ∨ i = 12 ∨ i = 13 ∨ i = 14 ∨ i = 15 ∨ i = 16 ∨ i = 17 ∨ i = 18 := by have : i < 19 := hi; omega
      clear hi
      rcases hc with rfl | rfl | rfl | rfl | rfl | rfl | rfl | rfl | rfl | rfl | rfl | rfl | rfl | rfl | rfl | rfl | rfl | rfl | rfl
      · with_reducible refine DoesN.plain (s := 5) (v := .agg #[.int .i64 op, .string (S a), .string (S b), .int .i64 n, .int .i64 c, .string (S t), .int .i64 m]) ?_ ?_
        · rfl
        intro f wz K hb hd hK
        obtain ⟨p0, p1, p2, p3, p4, p5, p6⟩ := cells7 ((hb.block _ (block_lt HXB)).trans HXB)
        simp only [setN, upd, Nat.reduceAdd, Nat.reduceEqDiff, reduceIte, List.setIfInBounds_toArray, List.set_cons_zero, List.set_cons_succ] at hK ⊢
        refine wpOp_do rfl (by kernel_rfl) ?_
        unfold Oper.wp execOp
        go_simp
        exact hK _ (Below.refl _ _)
      · with_reducible refine DoesN.plain (s := 6) (v := .bool false) ?_ ?_
        · rfl
        intro f wz K hb hd hK
        have e0 : f 0 = .agg #[.int .i64 op, .string (S a), .string (S b), .int .i64 n, .int .i64 c, .string (S t), .int .i64 m] := plainAt (s := 5) (cs := []) (hd 0 (by decide)) rfl
        simp only [setN, upd, Nat.reduceAdd, Nat.reduceEqDiff, reduceIte, List.setIfInBounds_toArray, List.set_cons_zero, List.set_cons_succ] at hK ⊢
        simp only [e0] at hK ⊢
        refine wpOp_do rfl (by kernel_rfl) ?_
        unfold Oper.wp execOp
        go_simp
        refine (unhide HPX _).mono ?_
        rintro e w' ⟨rfl, hb'⟩
        exact hK _ hb'
      · with_reducible refine DoesN.plain (s := 7) (v := .bool true) ?_ ?_
        · rfl
        intro f wz K hb hd hK
        have e1 : f 1 = .bool false := plainAt (s := 6) (cs := []) (hd 1 (by decide)) rfl
        simp only [setN, upd, Nat.reduceAdd, Nat.reduceEqDiff, reduceIte, List.setIfInBounds_toArray, List.set_cons_zero, List.set_cons_succ] at hK ⊢
        simp only [e1] at hK ⊢
        refine wpOp_do rfl (by kernel_rfl) ?_
        unfold Oper.wp execOp
        go_simp
        exact hK _ (Below.refl _ _)
      · with_reducible refine DoesN.plain (s := 8) (v := .bool true) ?_ ?_
        · rfl
        intro f wz K hb hd hK
        have e2 : f 2 = .bool true := plainAt (s := 7) (cs := []) (hd 2 (by decide)) rfl
        simp only [setN, upd, Nat.reduceAdd, Nat.reduceEqDiff, reduceIte, List.setIfInBounds_toArray, List.set_cons_zero, List.set_cons_succ] at hK ⊢
        simp only [e2] at hK ⊢
        refine wpOp_do rfl (by kernel_rfl) ?_
        unfold Oper.wp execOp
        go_simp
        exact hK _ (Below.refl _ _)
      · with_reducible refine DoesN.plain (s := 9) (v := undef) ?_ ?_
        · rfl
        intro f wz K hb hd hK
        have e3 : f 3 = .bool true := plainAt (s := 8) (cs := []) (hd 3 (by decide)) rfl
        simp only [setN, upd, Nat.reduceAdd, Nat.reduceEqDiff, reduceIte, List.setIfInBounds_toArray, List.set_cons_zero, List.set_cons_succ] at hK ⊢
        simp only [e3] at hK ⊢
        refine wpOp_skip rfl (by kernel_rfl) ?_
        go_simp
        exact hK _ (Below.refl _ _)
      · with_reducible refine DoesN.plain (s := 10) (v := undef) ?_ ?_
        · rfl
        intro f wz K hb hd hK
        have e3 : f 3 = .bool true := plainAt (s := 8) (cs := []) (hd 3 (by decide)) rfl
        have e4 : f 4 = undef := plainAt (s := 9) (cs := []) (hd 4 (by decide)) rfl
        simp only [setN, upd, Nat.reduceAdd, Nat.reduceEqDiff, reduceIte, List.setIfInBounds_toArray, List.set_cons_zero, List.set_cons_succ] at hK ⊢
        simp only [e3, e4] at hK ⊢
        refine wpOp_skip rfl (by kernel_rfl) ?_
        go_simp
        exact hK _ (Below.refl _ _)
      · with_reducible refine DoesN.plain (s := 11) (v := undef) ?_ ?_
        · rfl
        intro f wz K hb hd hK
        have e3 : f 3 = .bool true := plainAt (s := 8) (cs := []) (hd 3 (by decide)) rfl
        have e5 : f 5 = undef := plainAt (s := 10) (cs := []) (hd 5 (by decide)) rfl
        simp only [setN, upd, Nat.reduceAdd, Nat.reduceEqDiff, reduceIte, List.setIfInBounds_toArray, List.set_cons_zero, List.set_cons_succ] at hK ⊢
        simp only [e3, e5] at hK ⊢
        refine wpOp_skip rfl (by kernel_rfl) ?_
        go_simp
        exact hK _ (Below.refl _ _)
      · with_reducible refine DoesN.plain (s := 12) (v := .bool true) ?_ ?_
        · rfl
        intro f wz K hb hd hK
        have e3 : f 3 = .bool true := plainAt (s := 8) (cs := []) (hd 3 (by decide)) rfl
        have e6 : f 6 = undef := plainAt (s := 11) (cs := []) (hd 6 (by decide)) rfl
        simp only [setN, upd, Nat.reduceAdd, Nat.reduceEqDiff, reduceIte, List.setIfInBounds_toArray, List.set_cons_zero, List.set_cons_succ] at hK ⊢
        simp only [e3, e6] at hK ⊢
        refine wpOp_do rfl (by kernel_rfl) ?_
        unfold Oper.wp execOp
        go_simp
        exact hK _ (Below.refl _ _)
      · with_reducible refine DoesN.plain (s := 13) (v := .bool true) ?_ ?_
        · rfl
        intro f wz K hb hd hK
        have e7 : f 7 = .bool true := plainAt (s := 12) (cs := []) (hd 7 (by decide)) rfl
        simp only [setN, upd, Nat.reduceAdd, Nat.reduceEqDiff, reduceIte, List.setIfInBounds_toArray, List.set_cons_zero, List.set_cons_succ] at hK ⊢
        simp only [e7] at hK ⊢
        refine wpOp_do rfl (by kernel_rfl) ?_
        unfold Oper.wp execOp
        go_simp
        exact hK _ (Below.refl _ _)
      · with_reducible refine DoesN.plain (s := 14) (v := undef) ?_ ?_
        · rfl
        intro f wz K hb hd hK
        have e8 : f 8 = .bool true := plainAt (s := 13) (cs := []) (hd 8 (by decide)) rfl
        simp only [setN, upd, Nat.reduceAdd, Nat.reduceEqDiff, reduceIte, List.setIfInBounds_toArray, List.set_cons_zero, List.set_cons_succ] at hK ⊢
        simp only [e8] at hK ⊢
        refine wpOp_skip rfl (by kernel_rfl) ?_
        go_simp
        exact hK _ (Below.refl _ _)
      · with_reducible refine DoesN.plain (s := 15) (v := undef) ?_ ?_
        · rfl
        intro f wz K hb hd hK
        have e8 : f 8 = .bool true := plainAt (s := 13) (cs := []) (hd 8 (by decide)) rfl
        have e9 : f 9 = undef := plainAt (s := 14) (cs := []) (hd 9 (by decide)) rfl
        simp only [setN, upd, Nat.reduceAdd, Nat.reduceEqDiff, reduceIte, List.setIfInBounds_toArray, List.set_cons_zero, List.set_cons_succ] at hK ⊢
        simp only [e8, e9] at hK ⊢
        refine wpOp_skip rfl (by kernel_rfl) ?_
        go_simp
        exact hK _ (Below.refl _ _)
      · with_reducible refine DoesN.plain (s := 16) (v := undef) ?_ ?_
        · rfl
        intro f wz K hb hd hK
        have e8 : f 8 = .bool true := plainAt (s := 13) (cs := []) (hd 8 (by decide)) rfl
        have e10 : f 10 = undef := plainAt (s := 15) (cs := []) (hd 10 (by decide)) rfl
        simp only [setN, upd, Nat.reduceAdd, Nat.reduceEqDiff, reduceIte, List.setIfInBounds_toArray, List.set_cons_zero, List.set_cons_succ] at hK ⊢
        simp only [e8, e10] at hK ⊢
        refine wpOp_skip rfl (by kernel_rfl) ?_
        go_simp
        exact hK _ (Below.refl _ _)
      · with_reducible refine DoesN.plain (s := 17) (v := undef) ?_ ?_
        · rfl
        intro f wz K hb hd hK
        have e8 : f 8 = .bool true := plainAt (s := 13) (cs := []) (hd 8 (by decide)) rfl
        have e11 : f 11 = undef := plainAt (s := 16) (cs := []) (hd 11 (by decide)) rfl
        simp only [setN, upd, Nat.reduceAdd, Nat.reduceEqDiff, reduceIte, List.setIfInBounds_toArray, List.set_cons_zero, List.set_cons_succ] at hK ⊢
        simp only [e8, e11] at hK ⊢
        refine wpOp_skip rfl (by kernel_rfl) ?_
        go_simp
        exact hK _ (Below.refl _ _)
      · with_reducible refine DoesN.plain (s := 18) (v := undef) ?_ ?_
        · rfl
        intro f wz K hb hd hK
        have e8 : f 8 = .bool true := plainAt (s := 13) (cs := []) (hd 8 (by decide)) rfl
        simp only [setN, upd, Nat.reduceAdd, Nat.reduceEqDiff, reduceIte, List.setIfInBounds_toArray, List.set_cons_zero, List.set_cons_succ] at hK ⊢
        simp only [e8] at hK ⊢
        refine wpOp_skip rfl (by kernel_rfl) ?_
        go_simp
        exact hK _ (Below.refl _ _)
      · with_reducible refine DoesN.plain (s := 19) (v := undef) ?_ ?_
        · rfl
        intro f wz K hb hd hK
        have e8 : f 8 = .bool true := plainAt (s := 13) (cs := []) (hd 8 (by decide)) rfl
        have e13 : f 13 = undef := plainAt (s := 18) (cs := []) (hd 13 (by decide)) rfl
        simp only [setN, upd, Nat.reduceAdd, Nat.reduceEqDiff, reduceIte, List.setIfInBounds_toArray, List.set_cons_zero, List.set_cons_succ] at hK ⊢
        simp only [e8, e13] at hK ⊢
        refine wpOp_skip rfl (by kernel_rfl) ?_
        go_simp
        exact hK _ (Below.refl _ _)
      · with_reducible refine DoesN.plain (s := 20) (v := undef) ?_ ?_
        · rfl
        intro f wz K hb hd hK
        have e8 : f 8 = .bool true := plainAt (s := 13) (cs := []) (hd 8 (by decide)) rfl
        have e14 : f 14 = undef := plainAt (s := 19) (cs := []) (hd 14 (by decide)) rfl
        simp only [setN, upd, Nat.reduceAdd, Nat.reduceEqDiff, reduceIte, List.setIfInBounds_toArray, List.set_cons_zero, List.set_cons_succ] at hK ⊢
        simp only [e8, e14] at hK ⊢
        refine wpOp_skip rfl (by kernel_rfl) ?_
        go_simp
        exact hK _ (Below.refl _ _)
      · with_reducible refine DoesN.plain (s := 21) (v := undef) ?_ ?_
        · rfl
        intro f wz K hb hd hK
        have e8 : f 8 = .bool true := plainAt (s := 13) (cs := []) (hd 8 (by decide)) rfl
        have e15 : f 15 = undef := plainAt (s := 20) (cs := []) (hd 15 (by decide)) rfl
        simp only [setN, upd, Nat.reduceAdd, Nat.reduceEqDiff, reduceIte, List.setIfInBounds_toArray, List.set_cons_zero, List.set_cons_succ] at hK ⊢
        simp only [e8, e15] at hK ⊢
        refine wpOp_skip rfl (by kernel_rfl) ?_
        go_simp
        exact hK _ (Below.refl _ _)
      · with_reducible refine DoesN.plain (s := 22) (v := undef) ?_ ?_
        · rfl
        intro f wz K hb hd hK
        have e8 : f 8 = .bool true := plainAt (s := 13) (cs := []) (hd 8 (by decide)) rfl
        have e12 : f 12 = undef := plainAt (s := 17) (cs := []) (hd 12 (by decide)) rfl
        have e16 : f 16 = undef := plainAt (s := 21) (cs := []) (hd 16 (by decide)) rfl
        simp only [setN, upd, Nat.reduceAdd, Nat.reduceEqDiff, reduceIte, List.setIfInBounds_toArray, List.set_cons_zero, List.set_cons_succ] at hK ⊢
        simp only [e8, e12, e16] at hK ⊢
        refine wpOp_skip rfl (by kernel_rfl) ?_
        go_simp
        exact hK _ (Below.refl _ _)
      · with_reducible refine DoesN.plain (s := 23) (v := .bool true) ?_ ?_
        · rfl
        intro f wz K hb hd hK
        have e8 : f 8 = .bool true := plainAt (s := 13) (cs := []) (hd 8 (by decide)) rfl
        have e17 : f 17 = undef := plainAt (s := 22) (cs := []) (hd 17 (by decide)) rfl
        simp only [setN, upd, Nat.reduceAdd, Nat.reduceEqDiff, reduceIte, List.setIfInBounds_toArray, List.set_cons_zero, List.set_cons_succ] at hK ⊢
        simp only [e8, e17] at hK ⊢
        refine wpOp_do rfl (by kernel_rfl) ?_
        unfold Oper.wp execOp
        go_simp
        exact hK _ (Below.refl _ _)
    · intro f wE hbE hv hp hne ho
      have h0 : f 0 = .agg #[.int .i64 op, .string (S a), .string (S b), .int .i64 n, .int .i64 c, .string (S t), .int .i64 m] := plainAt (s := 5) (cs := []) (hv 0) rfl
      have h1 : f 1 = .bool false := plainAt (s := 6) (cs := []) (hv 1) rfl
      have h2 : f 2 = .bool true := plainAt (s := 7) (cs := []) (hv 2) rfl
      have h3 : f 3 = .bool true := plainAt (s := 8) (cs := []) (hv 3) rfl
      have h4 : f 4 = undef := plainAt (s := 9) (cs := []) (hv 4) rfl
      have h5 : f 5 = undef := plainAt (s := 10) (cs := []) (hv 5) rfl
      have h6 : f 6 = undef := plainAt (s := 11) (cs := []) (hv 6) rfl
      have h7 : f 7 = .bool true := plainAt (s := 12) (cs := []) (hv 7) rfl
      have h8 : f 8 = .bool true := plainAt (s := 13) (cs := []) (hv 8) rfl
      have h9 : f 9 = undef := plainAt (s := 14) (cs := []) (hv 9) rfl
      have h10 : f 10 = undef := plainAt (s := 15) (cs := []) (hv 10) rfl
      have h11 : f 11 = undef := plainAt (s := 16) (cs := []) (hv 11) rfl
      have h12 : f 12 = undef := plainAt (s := 17) (cs := []) (hv 12) rfl
      have h13 : f 13 = undef := plainAt (s := 18) (cs := []) (hv 13) rfl
      have h14 : f 14 = undef := plainAt (s := 19) (cs := []) (hv 14) rfl
      have h15 : f 15 = undef := plainAt (s := 20) (cs := []) (hv 15) rfl
      have h16 : f 16 = undef := plainAt (s := 21) (cs := []) (hv 16) rfl
      have h17 : f 17 = undef := plainAt (s := 22) (cs := []) (hv 17) rfl
      have h18 : f 18 = .bool true := plainAt (s := 23) (cs := []) (hv 18) rfl
      simp only [setN, Nat.reduceAdd, List.setIfInBounds_toArray, List.set_cons_zero, List.set_cons_succ]
      simp only [h0, h1, h2, h3, h4, h5, h6, h7, h8, h9, h10, h11, h12, h13, h14, h15, h16, h17, h18]
      clear h0 h1 h2 h3 h4 h5 h6 h7 h8 h9 h10 h11 h12 h13 h14 h15 h16 h17 h18
      have HE := hide (unhide HF _ _ (unhide HLW) hbE)
      clear hbE hv hp hne ho
      go_wp2_with fail
      go_ret
      exact ⟨rfl, unhide HE⟩
  cases P2
  · go_enter Tryd.func12, Tryd.ntmps12
    go_upto_region 1 with fail
    try rw [hW]
    clear hW
    refine regN [.val 5 (Res.plain (.agg #[.int .i64 op, .string (S a), .string (S b), .int .i64 n, .int .i64 c, .string (S t), .int .i64 m]) []), .val 6 (Res.plain (.bool true) []), .val 7 (Res.plain (.bool false) []), .val 8 (Res.plain (.bool false) []), .val 9 (Res.plain (.agg #[.int .i64 op', .string (S a'), .string (S b'), .int .i64 n', .int .i64 c', .string (S t'), .int .i64 m']) []), .val 10 (Res.plain (.bool false) []), .val 11 (Res.plain (.bool true) []), .val 12 (Res.plain (.bool true) []), .val 13 (Res.plain (.bool true) []), .val 14 (Res.plain (undef) []), .val 15 (Res.plain (undef) []), .val 16 (Res.plain (undef) []), .val 17 (Res.plain (undef) []), .val 18 (Res.plain (undef) []), .val 19 (Res.plain (undef) []), .val 20 (Res.plain (undef) []), .val 21 (Res.plain (undef) []), .val 22 (Res.plain (undef) []), .val 23 (Res.plain (.bool true) [])] (fun i => if i = 1 then [0] else if i = 2 then [1] else if i = 3 then [2] else if i = 4 then [3] else if i = 5 then [3, 4] else if i = 6 then [3, 5] else if i = 7 then [3, 6] else if i = 8 then [7] else if i = 9 then [8] else if i = 10 then [8, 9] else if i = 11 then [8, 10] else if i = 12 then [8, 11] else if i = 13 then [8] else if i = 14 then [8, 13] else if i = 15 then [8, 14] else if i = 16 then [8, 15] else if i = 17 then [8, 12, 16] else if i = 18 then [8, 17] else []) ?_ ?_ ?_ ?_ ?_ ?_ ?_ (fun i hi => ?_) ?_
    · kernel_rfl
    · rfl
    · kernel_rfl
    · kernel_rfl
    · kernel_rfl
    · kernel_rfl
    · kernel_rfl
    · have hc : i = 0 ∨ i = 1 ∨ i = 2 ∨ i = 3 ∨ i = 4 ∨ i = 5 ∨ i = 6 ∨ i = 7 ∨ i = 8 ∨ i = 9 ∨ i = 10 ∨ i = 11 ∨ i = 12 ∨ i = 13 ∨ i = 14 ∨ i = 15 ∨ i = 16 ∨ i = 17 ∨ i = 18 := by have : i < 19 := hi; omega
      clear hi
      rcases hc with rfl | rfl | rfl | rfl | rfl | rfl | rfl | rfl | rfl | rfl | rfl | rfl | rfl | rfl | rfl | rfl | rfl | rfl | rfl
      · with_reducible refine DoesN.plain (s := 5) (v := .agg #[.int .i64 op, .string (S a), .string (S b), .int .i64 n, .int .i64 c, .string (S t), .int .i64 m]) ?_ ?_
        · rfl
        intro f wz K hb hd hK
        obtain ⟨p0, p1, p2, p3, p4, p5, p6⟩ := cells7 ((hb.block _ (block_lt HXB)).trans HXB)
        simp only [setN, upd, Nat.reduceAdd, Nat.reduceEqDiff, reduceIte, List.setIfInBounds_toArray, List.set_cons_zero, List.set_cons_succ] at hK ⊢
        refine wpOp_do rfl (by kernel_rfl) ?_
        unfold Oper.wp execOp
        go_simp
        exact hK _ (Below.refl _ _)
      · with_reducible refine DoesN.plain (s := 6) (v := .bool true) ?_ ?_
        · rfl
        intro f wz K hb hd hK
        have e0 : f 0 = .agg #[.int .i64 op, .string (S a), .string (S b), .int .i64 n, .int .i64 c, .string (S t), .int .i64 m] := plainAt (s := 5) (cs := []) (hd 0 (by decide)) rfl
        simp only [setN, upd, Nat.reduceAdd, Nat.reduceEqDiff, reduceIte, List.setIfInBounds_toArray, List.set_cons_zero, List.set_cons_succ] at hK ⊢
        simp only [e0] at hK ⊢
        refine wpOp_do rfl (by kernel_rfl) ?_
        unfold Oper.wp execOp
        go_simp
        refine (unhide HPX _).mono ?_
        rintro e w' ⟨rfl, hb'⟩
        exact hK _ hb'
      · with_reducible refine DoesN.plain (s := 7) (v := .bool false) ?_ ?_
        · rfl
        intro f wz K hb hd hK
        have e1 : f 1 = .bool true := plainAt (s := 6) (cs := []) (hd 1 (by decide)) rfl
        simp only [setN, upd, Nat.reduceAdd, Nat.reduceEqDiff, reduceIte, List.setIfInBounds_toArray, List.set_cons_zero, List.set_cons_succ] at hK ⊢
        simp only [e1] at hK ⊢
        refine wpOp_do rfl (by kernel_rfl) ?_
        unfold Oper.wp execOp
        go_simp
        exact hK _ (Below.refl _ _)
      · with_reducible refine DoesN.plain (s := 8) (v := .bool false) ?_ ?_
        · rfl
        intro f wz K hb hd hK
        have e2 : f 2 = .bool false := plainAt (s := 7) (cs := []) (hd 2 (by decide)) rfl
        simp only [setN, upd, Nat.reduceAdd, Nat.reduceEqDiff, reduceIte, List.setIfInBounds_toArray, List.set_cons_zero, List.set_cons_succ] at hK ⊢
        simp only [e2] at hK ⊢
        refine wpOp_do rfl (by kernel_rfl) ?_
        unfold Oper.wp execOp
        go_simp
        exact hK _ (Below.refl _ _)
      · with_reducible refine DoesN.plain (s := 9) (v := .agg #[.int .i64 op', .string (S a'), .string (S b'), .int .i64 n', .int .i64 c', .string (S t'), .int .i64 m']) ?_ ?_
        · rfl
        intro f wz K hb hd hK
        have e3 : f 3 = .bool false := plainAt (s := 8) (cs := []) (hd 3 (by decide)) rfl
        obtain ⟨p0, p1, p2, p3, p4, p5, p6⟩ := cells7 ((hb.block _ (block_lt HYB)).trans HYB)
        simp only [setN, upd, Nat.reduceAdd, Nat.reduceEqDiff, reduceIte, List.setIfInBounds_toArray, List.set_cons_zero, List.set_cons_succ] at hK ⊢
        simp only [e3] at hK ⊢
        refine wpOp_do rfl (by kernel_rfl) ?_
        unfold Oper.wp execOp
        go_simp
        exact hK _ (Below.refl _ _)
      · with_reducible refine DoesN.plain (s := 10) (v := .bool false) ?_ ?_
        · rfl
        intro f wz K hb hd hK
        have e3 : f 3 = .bool false := plainAt (s := 8) (cs := []) (hd 3 (by decide)) rfl
        have e4 : f 4 = .agg #[.int .i64 op', .string (S a'), .string (S b'), .int .i64 n', .int .i64 c', .string (S t'), .int .i64 m'] := plainAt (s := 9) (cs := []) (hd 4 (by decide)) rfl
        simp only [setN, upd, Nat.reduceAdd, Nat.reduceEqDiff, reduceIte, List.setIfInBounds_toArray, List.set_cons_zero, List.set_cons_succ] at hK ⊢
        simp only [e3, e4] at hK ⊢
        refine wpOp_do rfl (by kernel_rfl) ?_
        unfold Oper.wp execOp
        go_simp
        refine (unhide HPY _).mono ?_
        rintro e w' ⟨rfl, hb'⟩
        exact hK _ hb'
      · with_reducible refine DoesN.plain (s := 11) (v := .bool true) ?_ ?_
        · rfl
        intro f wz K hb hd hK
        have e3 : f 3 = .bool false := plainAt (s := 8) (cs := []) (hd 3 (by decide)) rfl
        have e5 : f 5 = .bool false := plainAt (s := 10) (cs := []) (hd 5 (by decide)) rfl
        simp only [setN, upd, Nat.reduceAdd, Nat.reduceEqDiff, reduceIte, List.setIfInBounds_toArray, List.set_cons_zero, List.set_cons_succ] at hK ⊢
        simp only [e3, e5] at hK ⊢
        refine wpOp_do rfl (by kernel_rfl) ?_
        unfold Oper.wp execOp
        go_simp
        exact hK _ (Below.refl _ _)
      · with_reducible refine DoesN.plain (s := 12) (v := .bool true) ?_ ?_
        · rfl
        intro f wz K hb hd hK
        have e3 : f 3 = .bool false := plainAt (s := 8) (cs := []) (hd 3 (by decide)) rfl
        have e6 : f 6 = .bool true := plainAt (s := 11) (cs := []) (hd 6 (by decide)) rfl
        simp only [setN, upd, Nat.reduceAdd, Nat.reduceEqDiff, reduceIte, List.setIfInBounds_toArray, List.set_cons_zero, List.set_cons_succ] at hK ⊢
        simp only [e3, e6] at hK ⊢
        refine wpOp_do rfl (by kernel_rfl) ?_
        unfold Oper.wp execOp
        go_simp
        exact hK _ (Below.refl _ _)
      · with_reducible refine DoesN.plain (s := 13) (v := .bool true) ?_ ?_
        · rfl
        intro f wz K hb hd hK
        have e7 : f 7 = .bool true := plainAt (s := 12) (cs := []) (hd 7 (by decide)) rfl
        simp only [setN, upd, Nat.reduceAdd, Nat.reduceEqDiff, reduceIte, List.setIfInBounds_toArray, List.set_cons_zero, List.set_cons_succ] at hK ⊢
        simp only [e7] at hK ⊢
        refine wpOp_do rfl (by kernel_rfl) ?_
        unfold Oper.wp execOp
        go_simp
        exact hK _ (Below.refl _ _)
      · with_reducible refine DoesN.plain (s := 14) (v := undef) ?_ ?_
        · rfl
        intro f wz K hb hd hK
        have e8 : f 8 = .bool true := plainAt (s := 13) (cs := []) (hd 8 (by decide)) rfl
        simp only [setN, upd, Nat.reduceAdd, Nat.reduceEqDiff, reduceIte, List.setIfInBounds_toArray, List.set_cons_zero, List.set_cons_succ] at hK ⊢
        simp only [e8] at hK ⊢
        refine wpOp_skip rfl (by kernel_rfl) ?_
        go_simp
        exact hK _ (Below.refl _ _)
      · with_reducible refine DoesN.plain (s := 15) (v := undef) ?_ ?_
        · rfl
        intro f wz K hb hd hK
        have e8 : f 8 = .bool true := plainAt (s := 13) (cs := []) (hd 8 (by decide)) rfl
        have e9 : f 9 = undef := plainAt (s := 14) (cs := []) (hd 9 (by decide)) rfl
        simp only [setN, upd, Nat.reduceAdd, Nat.reduceEqDiff, reduceIte, List.setIfInBounds_toArray, List.set_cons_zero, List.set_cons_succ] at hK ⊢
        simp only [e8, e9] at hK ⊢
        refine wpOp_skip rfl (by kernel_rfl) ?_
        go_simp
        exact hK _ (Below.refl _ _)
      · with_reducible refine DoesN.plain (s := 16) (v := undef) ?_ ?_
        · rfl
        intro f wz K hb hd hK
        have e8 : f 8 = .bool true := plainAt (s := 13) (cs := []) (hd 8 (by decide)) rfl
        have e10 : f 10 = undef := plainAt (s := 15) (cs := []) (hd 10 (by decide)) rfl
        simp only [setN, upd, Nat.reduceAdd, Nat.reduceEqDiff, reduceIte, List.setIfInBounds_toArray, List.set_cons_zero, List.set_cons_succ] at hK ⊢
        simp only [e8, e10] at hK ⊢
        refine wpOp_skip rfl (by kernel_rfl) ?_
        go_simp
        exact hK _ (Below.refl _ _)
      · with_reducible refine DoesN.plain (s := 17) (v := undef) ?_ ?_
        · rfl
        intro f wz K hb hd hK
        have e8 : f 8 = .bool true := plainAt (s := 13) (cs := []) (hd 8 (by decide)) rfl
        have e11 : f 11 = undef := plainAt (s := 16) (cs := []) (hd 11 (by decide)) rfl
        simp only [setN, upd, Nat.reduceAdd, Nat.reduceEqDiff, reduceIte, List.setIfInBounds_toArray, List.set_cons_zero, List.set_cons_succ] at hK ⊢
        simp only [e8, e11] at hK ⊢
        refine wpOp_skip rfl (by kernel_rfl) ?_
        go_simp
        exact hK _ (Below.refl _ _)
      · with_reducible refine DoesN.plain (s := 18) (v := undef) ?_ ?_
        · rfl
        intro f wz K hb hd hK
        have e8 : f 8 = .bool true := plainAt (s := 13) (cs := []) (hd 8 (by decide)) rfl
        simp only [setN, upd, Nat.reduceAdd, Nat.reduceEqDiff, reduceIte, List.setIfInBounds_toArray, List.set_cons_zero, List.set_cons_succ] at hK ⊢
        simp only [e8] at hK ⊢
        refine wpOp_skip rfl (by kernel_rfl) ?_
        go_simp
        exact hK _ (Below.refl _ _)
      · with_reducible refine DoesN.plain (s := 19) (v := undef) ?_ ?_
        · rfl
        intro f wz K hb hd hK
        have e8 : f 8 = .bool true := plainAt (s := 13) (cs := []) (hd 8 (by decide)) rfl
        have e13 : f 13 = undef := plainAt (s := 18) (cs := []) (hd 13 (by decide)) rfl
        simp only [setN, upd, Nat.reduceAdd, Nat.reduceEqDiff, reduceIte, List.setIfInBounds_toArray, List.set_cons_zero, List.set_cons_succ] at hK ⊢
        simp only [e8, e13] at hK ⊢
        refine wpOp_skip rfl (by kernel_rfl) ?_
        go_simp
        exact hK _ (Below.refl _ _)
      · with_reducible refine DoesN.plain (s := 20) (v := undef) ?_ ?_
        · rfl
        intro f wz K hb hd hK
        have e8 : f 8 = .bool true := plainAt (s := 13) (cs := []) (hd 8 (by decide)) rfl
        have e14 : f 14 = undef := plainAt (s := 19) (cs := []) (hd 14 (by decide)) rfl
        simp only [setN, upd, Nat.reduceAdd, Nat.reduceEqDiff, reduceIte, List.setIfInBounds_toArray, List.set_cons_zero, List.set_cons_succ] at hK ⊢
        simp only [e8, e14] at hK ⊢
        refine wpOp_skip rfl (by kernel_rfl) ?_
        go_simp
        exact hK _ (Below.refl _ _)
      · with_reducible refine DoesN.plain (s := 21) (v := undef) ?_ ?_
        · rfl
        intro f wz K hb hd hK
        have e8 : f 8 = .bool true := plainAt (s := 13) (cs := []) (hd 8 (by decide)) rfl
        have e15 : f 15 = undef := plainAt (s := 20) (cs := []) (hd 15 (by decide)) rfl
        simp only [setN, upd, Nat.reduceAdd, Nat.reduceEqDiff, reduceIte, List.setIfInBounds_toArray, List.set_cons_zero, List.set_cons_succ] at hK ⊢
        simp only [e8, e15] at hK ⊢
        refine wpOp_skip rfl (by kernel_rfl) ?_
        go_simp
        exact hK _ (Below.refl _ _)
      · with_reducible refine DoesN.plain (s := 22) (v := undef) ?_ ?_
        · rfl
        intro f wz K hb hd hK
        have e8 : f 8 = .bool true := plainAt (s := 13) (cs := []) (hd 8 (by decide)) rfl
        have e12 : f 12 = undef := plainAt (s := 17) (cs := []) (hd 12 (by decide)) rfl
        have e16 : f 16 = undef := plainAt (s := 21) (cs := []) (hd 16 (by decide)) rfl
        simp only [setN, upd, Nat.reduceAdd, Nat.reduceEqDiff, reduceIte, List.setIfInBounds_toArray, List.set_cons_zero, List.set_cons_succ] at hK ⊢
        simp only [e8, e12, e16] at hK ⊢
        refine wpOp_skip rfl (by kernel_rfl) ?_
        go_simp
        exact hK _ (Below.refl _ _)
      · with_reducible refine DoesN.plain (s := 23) (v := .bool true) ?_ ?_
        · rfl
        intro f wz K hb hd hK
        have e8 : f 8 = .bool true := plainAt (s := 13) (cs := []) (hd 8 (by decide)) rfl
        have e17 : f 17 = undef := plainAt (s := 22) (cs := []) (hd 17 (by decide)) rfl
        simp only [setN, upd, Nat.reduceAdd, Nat.reduceEqDiff, reduceIte, List.setIfInBounds_toArray, List.set_cons_zero, List.set_cons_succ] at hK ⊢
        simp only [e8, e17] at hK ⊢
        refine wpOp_do rfl (by kernel_rfl) ?_
        unfold Oper.wp execOp
        go_simp
        exact hK _ (Below.refl _ _)
    · intro f wE hbE hv hp hne ho
      have h0 : f 0 = .agg #[.int .i64 op, .string (S a), .string (S b), .int .i64 n, .int .i64 c, .string (S t), .int .i64 m] := plainAt (s := 5) (cs := []) (hv 0) rfl
      have h1 : f 1 = .bool true := plainAt (s := 6) (cs := []) (hv 1) rfl
      have h2 : f 2 = .bool false := plainAt (s := 7) (cs := []) (hv 2) rfl
      have h3 : f 3 = .bool false := plainAt (s := 8) (cs := []) (hv 3) rfl
      have h4 : f 4 = .agg #[.int .i64 op', .string (S a'), .string (S b'), .int .i64 n', .int .i64 c', .string (S t'), .int .i64 m'] := plainAt (s := 9) (cs := []) (hv 4) rfl
      have h5 : f 5 = .bool false := plainAt (s := 10) (cs := []) (hv 5) rfl
      have h6 : f 6 = .bool true := plainAt (s := 11) (cs := []) (hv 6) rfl
      have h7 : f 7 = .bool true := plainAt (s := 12) (cs := []) (hv 7) rfl
      have h8 : f 8 = .bool true := plainAt (s := 13) (cs := []) (hv 8) rfl
      have h9 : f 9 = undef := plainAt (s := 14) (cs := []) (hv 9) rfl
      have h10 : f 10 = undef := plainAt (s := 15) (cs := []) (hv 10) rfl
      have h11 : f 11 = undef := plainAt (s := 16) (cs := []) (hv 11) rfl
      have h12 : f 12 = undef := plainAt (s := 17) (cs := []) (hv 12) rfl
      have h13 : f 13 = undef := plainAt (s := 18) (cs := []) (hv 13) rfl
      have h14 : f 14 = undef := plainAt (s := 19) (cs := []) (hv 14) rfl
      have h15 : f 15 = undef := plainAt (s := 20) (cs := []) (hv 15) rfl
      have h16 : f 16 = undef := plainAt (s := 21) (cs := []) (hv 16) rfl
      have h17 : f 17 = undef := plainAt (s := 22) (cs := []) (hv 17) rfl
      have h18 : f 18 = .bool true := plainAt (s := 23) (cs := []) (hv 18) rfl
      simp only [setN, Nat.reduceAdd, List.setIfInBounds_toArray, List.set_cons_zero, List.set_cons_succ]
      simp only [h0, h1, h2, h3, h4, h5, h6, h7, h8, h9, h10, h11, h12, h13, h14, h15, h16, h17, h18]
      clear h0 h1 h2 h3 h4 h5 h6 h7 h8 h9 h10 h11 h12 h13 h14 h15 h16 h17 h18
      have HE := hide (unhide HF _ _ (unhide HLW) hbE)
      clear hbE hv hp hne ho
      go_wp2_with fail
      go_ret
      exact ⟨rfl, unhide HE⟩
  by_cases hk : kx = ky
  · have k1 : (kx != ky) = false := by simp [hk]
    have k2 : (kx == ky) = true := by simp [hk]
    rw [decide_eq_true hk]
    clear hk
    rw [show (true && true && true && (U1 || U2)) = (U1 || U2) by simp]
    go_enter Tryd.func12, Tryd.ntmps12
    go_upto_region 1 with fail
    try rw [hW]
    clear hW
    refine regN [.val 5 (Res.plain (.agg #[.int .i64 op, .string (S a), .string (S b), .int .i64 n, .int .i64 c, .string (S t), .int .i64 m]) []), .val 6 (Res.plain (.bool true) []), .val 7 (Res.plain (.bool false) []), .val 8 (Res.plain (.bool false) []), .val 9 (Res.plain (.agg #[.int .i64 op', .string (S a'), .string (S b'), .int .i64 n', .int .i64 c', .string (S t'), .int .i64 m']) []), .val 10 (Res.plain (.bool true) []), .val 11 (Res.plain (.bool false) []), .val 12 (Res.plain (.bool false) []), .val 13 (Res.plain (.bool false) []), .val 14 (Res.plain (.pointer (some ⟨w.heap.size, 0, none⟩)) []), .val 15 (Res.plain (.pointer (some ⟨w.heap.size, 0, none⟩)) []), .val 16 (Res.plain (.int .i64 op) []), .val 17 (Res.plain (.int .i64 kx) []), .val 18 (Res.plain (.pointer (some ⟨w.heap.size + 1, 0, none⟩)) []), .val 19 (Res.plain (.pointer (some ⟨w.heap.size + 1, 0, none⟩)) []), .val 20 (Res.plain (.int .i64 op') []), .val 21 (Res.plain (.int .i64 ky) []), .val 22 (Res.plain (.bool false) []), .val 23 (Res.plain (.bool false) [])] (fun i => if i = 1 then [0] else if i = 2 then [1] else if i = 3 then [2] else if i = 4 then [3] else if i = 5 then [3, 4] else if i = 6 then [3, 5] else if i = 7 then [3, 6] else if i = 8 then [7] else if i = 9 then [8] else if i = 10 then [8, 9] else if i = 11 then [8, 10] else if i = 12 then [8, 11] else if i = 13 then [8] else if i = 14 then [8, 13] else if i = 15 then [8, 14] else if i = 16 then [8, 15] else if i = 17 then [8, 12, 16] else if i = 18 then [8, 17] else []) ?_ ?_ ?_ ?_ ?_ ?_ ?_ (fun i hi => ?_) ?_
    · kernel_rfl
    · rfl
    · kernel_rfl
    · kernel_rfl
    · kernel_rfl
    · kernel_rfl
    · kernel_rfl
    · have hc : i = 0 ∨ i = 1 ∨ i = 2 ∨ i = 3 ∨ i = 4 ∨ i = 5 ∨ i = 6 ∨ i = 7 ∨ i = 8 ∨ i = 9 ∨ i = 10 ∨ i = 11 ∨ i = 12 ∨ i = 13 ∨ i = 14 ∨ i = 15 ∨ i = 16 ∨ i = 17 ∨ i = 18 := by have : i < 19 := hi; omega
      clear hi
      rcases hc with rfl | rfl | rfl | rfl | rfl | rfl | rfl | rfl | rfl | rfl | rfl | rfl | rfl | rfl | rfl | rfl | rfl | rfl | rfl
      · with_reducible refine DoesN.plain (s := 5) (v := .agg #[.int .i64 op, .string (S a), .string (S b), .int .i64 n, .int .i64 c, .string (S t), .int .i64 m]) ?_ ?_
        · rfl
        intro f wz K hb hd hK
        obtain ⟨p0, p1, p2, p3, p4, p5, p6⟩ := cells7 ((hb.block _ (block_lt HXB)).trans HXB)
        simp only [setN, upd, Nat.reduceAdd, Nat.reduceEqDiff, reduceIte, List.setIfInBounds_toArray, List.set_cons_zero, List.set_cons_succ] at hK ⊢
        refine wpOp_do rfl (by kernel_rfl) ?_
        unfold Oper.wp execOp
        go_simp
        exact hK _ (Below.refl _ _)
      · with_reducible refine DoesN.plain (s := 6) (v := .bool true) ?_ ?_
        · rfl
        intro f wz K hb hd hK
        have e0 : f 0 = .agg #[.int .i64 op, .string (S a), .string (S b), .int .i64 n, .int .i64 c, .string (S t), .int .i64 m] := plainAt (s := 5) (cs := []) (hd 0 (by decide)) rfl
        simp only [setN, upd, Nat.reduceAdd, Nat.reduceEqDiff, reduceIte, List.setIfInBounds_toArray, List.set_cons_zero, List.set_cons_succ] at hK ⊢
        simp only [e0] at hK ⊢
        refine wpOp_do rfl (by kernel_rfl) ?_
        unfold Oper.wp execOp
        go_simp
        refine (unhide HPX _).mono ?_
        rintro e w' ⟨rfl, hb'⟩
        exact hK _ hb'
      · with_reducible refine DoesN.plain (s := 7) (v := .bool false) ?_ ?_
        · rfl
        intro f wz K hb hd hK
        have e1 : f 1 = .bool true := plainAt (s := 6) (cs := []) (hd 1 (by decide)) rfl
        simp only [setN, upd, Nat.reduceAdd, Nat.reduceEqDiff, reduceIte, List.setIfInBounds_toArray, List.set_cons_zero, List.set_cons_succ] at hK ⊢
        simp only [e1] at hK ⊢
        refine wpOp_do rfl (by kernel_rfl) ?_
        unfold Oper.wp execOp
        go_simp
        exact hK _ (Below.refl _ _)
      · with_reducible refine DoesN.plain (s := 8) (v := .bool false) ?_ ?_
        · rfl
        intro f wz K hb hd hK
        have e2 : f 2 = .bool false := plainAt (s := 7) (cs := []) (hd 2 (by decide)) rfl
        simp only [setN, upd, Nat.reduceAdd, Nat.reduceEqDiff, reduceIte, List.setIfInBounds_toArray, List.set_cons_zero, List.set_cons_succ] at hK ⊢
        simp only [e2] at hK ⊢
        refine wpOp_do rfl (by kernel_rfl) ?_
        unfold Oper.wp execOp
        go_simp
        exact hK _ (Below.refl _ _)
      · with_reducible refine DoesN.plain (s := 9) (v := .agg #[.int .i64 op', .string (S a'), .string (S b'), .int .i64 n', .int .i64 c', .string (S t'), .int .i64 m']) ?_ ?_
        · rfl
        intro f wz K hb hd hK
        have e3 : f 3 = .bool false := plainAt (s := 8) (cs := []) (hd 3 (by decide)) rfl
        obtain ⟨p0, p1, p2, p3, p4, p5, p6⟩ := cells7 ((hb.block _ (block_lt HYB)).trans HYB)
        simp only [setN, upd, Nat.reduceAdd, Nat.reduceEqDiff, reduceIte, List.setIfInBounds_toArray, List.set_cons_zero, List.set_cons_succ] at hK ⊢
        simp only [e3] at hK ⊢
        refine wpOp_do rfl (by kernel_rfl) ?_
        unfold Oper.wp execOp
        go_simp
        exact hK _ (Below.refl _ _)
      · with_reducible refine DoesN.plain (s := 10) (v := .bool true) ?_ ?_
        · rfl
        intro f wz K hb hd hK
        have e3 : f 3 = .bool false := plainAt (s := 8) (cs := []) (hd 3 (by decide)) rfl
        have e4 : f 4 = .agg #[.int .i64 op', .string (S a'), .string (S b'), .int .i64 n', .int .i64 c', .string (S t'), .int .i64 m'] := plainAt (s := 9) (cs := []) (hd 4 (by decide)) rfl
        simp only [setN, upd, Nat.reduceAdd, Nat.reduceEqDiff, reduceIte, List.setIfInBounds_toArray, List.set_cons_zero, List.set_cons_succ] at hK ⊢
        simp only [e3, e4] at hK ⊢
        refine wpOp_do rfl (by kernel_rfl) ?_
        unfold Oper.wp execOp
        go_simp
        refine (unhide HPY _).mono ?_
        rintro e w' ⟨rfl, hb'⟩
        exact hK _ hb'
      · with_reducible refine DoesN.plain (s := 11) (v := .bool false) ?_ ?_
        · rfl
        intro f wz K hb hd hK
        have e3 : f 3 = .bool false := plainAt (s := 8) (cs := []) (hd 3 (by decide)) rfl
        have e5 : f 5 = .bool true := plainAt (s := 10) (cs := []) (hd 5 (by decide)) rfl
        simp only [setN, upd, Nat.reduceAdd, Nat.reduceEqDiff, reduceIte, List.setIfInBounds_toArray, List.set_cons_zero, List.set_cons_succ] at hK ⊢
        simp only [e3, e5] at hK ⊢
        refine wpOp_do rfl (by kernel_rfl) ?_
        unfold Oper.wp execOp
        go_simp
        exact hK _ (Below.refl _ _)
      · with_reducible refine DoesN.plain (s := 12) (v := .bool false) ?_ ?_
        · rfl
        intro f wz K hb hd hK
        have e3 : f 3 = .bool false := plainAt (s := 8) (cs := []) (hd 3 (by decide)) rfl
        have e6 : f 6 = .bool false := plainAt (s := 11) (cs := []) (hd 6 (by decide)) rfl
        simp only [setN, upd, Nat.reduceAdd, Nat.reduceEqDiff, reduceIte, List.setIfInBounds_toArray, List.set_cons_zero, List.set_cons_succ] at hK ⊢
        simp only [e3, e6] at hK ⊢
        refine wpOp_do rfl (by kernel_rfl) ?_
        unfold Oper.wp execOp
        go_simp
        exact hK _ (Below.refl _ _)
      · with_reducible refine DoesN.plain (s := 13) (v := .bool false) ?_ ?_
        · rfl
        intro f wz K hb hd hK
        have e7 : f 7 = .bool false := plainAt (s := 12) (cs := []) (hd 7 (by decide)) rfl
        simp only [setN, upd, Nat.reduceAdd, Nat.reduceEqDiff, reduceIte, List.setIfInBounds_toArray, List.set_cons_zero, List.set_cons_succ] at hK ⊢
        simp only [e7] at hK ⊢
        refine wpOp_do rfl (by kernel_rfl) ?_
        unfold Oper.wp execOp
        go_simp
        exact hK _ (Below.refl _ _)
      · with_reducible refine DoesN.plain (s := 14) (v := .pointer (some ⟨w.heap.size, 0, none⟩)) ?_ ?_
        · rfl
        intro f wz K hb hd hK
        have e8 : f 8 = .bool false := plainAt (s := 13) (cs := []) (hd 8 (by decide)) rfl
        simp only [setN, upd, Nat.reduceAdd, Nat.reduceEqDiff, reduceIte, List.setIfInBounds_toArray, List.set_cons_zero, List.set_cons_succ] at hK ⊢
        simp only [e8] at hK ⊢
        refine wpOp_do rfl (by kernel_rfl) ?_
        unfold Oper.wp execOp
        go_simp
        exact hK _ (Below.refl _ _)
      · with_reducible refine DoesN.plain (s := 15) (v := .pointer (some ⟨w.heap.size, 0, none⟩)) ?_ ?_
        · rfl
        intro f wz K hb hd hK
        have e8 : f 8 = .bool false := plainAt (s := 13) (cs := []) (hd 8 (by decide)) rfl
        have e9 : f 9 = .pointer (some ⟨w.heap.size, 0, none⟩) := plainAt (s := 14) (cs := []) (hd 9 (by decide)) rfl
        simp only [setN, upd, Nat.reduceAdd, Nat.reduceEqDiff, reduceIte, List.setIfInBounds_toArray, List.set_cons_zero, List.set_cons_succ] at hK ⊢
        simp only [e8, e9] at hK ⊢
        refine wpOp_do rfl (by kernel_rfl) ?_
        unfold Oper.wp execOp
        go_simp
        exact hK _ (Below.refl _ _)
      · with_reducible refine DoesN.plain (s := 16) (v := .int .i64 op) ?_ ?_
        · rfl
        intro f wz K hb hd hK
        have e8 : f 8 = .bool false := plainAt (s := 13) (cs := []) (hd 8 (by decide)) rfl
        have e10 : f 10 = .pointer (some ⟨w.heap.size, 0, none⟩) := plainAt (s := 15) (cs := []) (hd 10 (by decide)) rfl
        obtain ⟨p0, p1, p2, p3, p4, p5, p6⟩ := cells7 ((hb.block _ (block_lt HXB)).trans HXB)
        simp only [setN, upd, Nat.reduceAdd, Nat.reduceEqDiff, reduceIte, List.setIfInBounds_toArray, List.set_cons_zero, List.set_cons_succ] at hK ⊢
        simp only [e8, e10] at hK ⊢
        refine wpOp_do rfl (by kernel_rfl) ?_
        unfold Oper.wp execOp
        go_simp
        exact hK _ (Below.refl _ _)
      · with_reducible refine DoesN.plain (s := 17) (v := .int .i64 kx) ?_ ?_
        · rfl
        intro f wz K hb hd hK
        have e8 : f 8 = .bool false := plainAt (s := 13) (cs := []) (hd 8 (by decide)) rfl
        have e11 : f 11 = .int .i64 op := plainAt (s := 16) (cs := []) (hd 11 (by decide)) rfl
        simp only [setN, upd, Nat.reduceAdd, Nat.reduceEqDiff, reduceIte, List.setIfInBounds_toArray, List.set_cons_zero, List.set_cons_succ] at hK ⊢
        simp only [e8, e11] at hK ⊢
        refine wpOp_do rfl (by kernel_rfl) ?_
        unfold Oper.wp execOp
        go_simp
        refine (unhide HKX _ ?_).mono ?_
        · exact hb
        rintro e w' ⟨rfl, hb'⟩
        exact hK _ hb'
      · with_reducible refine DoesN.plain (s := 18) (v := .pointer (some ⟨w.heap.size + 1, 0, none⟩)) ?_ ?_
        · rfl
        intro f wz K hb hd hK
        have e8 : f 8 = .bool false := plainAt (s := 13) (cs := []) (hd 8 (by decide)) rfl
        simp only [setN, upd, Nat.reduceAdd, Nat.reduceEqDiff, reduceIte, List.setIfInBounds_toArray, List.set_cons_zero, List.set_cons_succ] at hK ⊢
        simp only [e8] at hK ⊢
        refine wpOp_do rfl (by kernel_rfl) ?_
        unfold Oper.wp execOp
        go_simp
        exact hK _ (Below.refl _ _)
      · with_reducible refine DoesN.plain (s := 19) (v := .pointer (some ⟨w.heap.size + 1, 0, none⟩)) ?_ ?_
        · rfl
        intro f wz K hb hd hK
        have e8 : f 8 = .bool false := plainAt (s := 13) (cs := []) (hd 8 (by decide)) rfl
        have e13 : f 13 = .pointer (some ⟨w.heap.size + 1, 0, none⟩) := plainAt (s := 18) (cs := []) (hd 13 (by decide)) rfl
        simp only [setN, upd, Nat.reduceAdd, Nat.reduceEqDiff, reduceIte, List.setIfInBounds_toArray, List.set_cons_zero, List.set_cons_succ] at hK ⊢
        simp only [e8, e13] at hK ⊢
        refine wpOp_do rfl (by kernel_rfl) ?_
        unfold Oper.wp execOp
        go_simp
        exact hK _ (Below.refl _ _)
      · with_reducible refine DoesN.plain (s := 20) (v := .int .i64 op') ?_ ?_
        · rfl
        intro f wz K hb hd hK
        have e8 : f 8 = .bool false := plainAt (s := 13) (cs := []) (hd 8 (by decide)) rfl
        have e14 : f 14 = .pointer (some ⟨w.heap.size + 1, 0, none⟩) := plainAt (s := 19) (cs := []) (hd 14 (by decide)) rfl
        obtain ⟨p0, p1, p2, p3, p4, p5, p6⟩ := cells7 ((hb.block _ (block_lt HYB)).trans HYB)
        simp only [setN, upd, Nat.reduceAdd, Nat.reduceEqDiff, reduceIte, List.setIfInBounds_toArray, List.set_cons_zero, List.set_cons_succ] at hK ⊢
        simp only [e8, e14] at hK ⊢
        refine wpOp_do rfl (by kernel_rfl) ?_
        unfold Oper.wp execOp
        go_simp
        exact hK _ (Below.refl _ _)
      · with_reducible refine DoesN.plain (s := 21) (v := .int .i64 ky) ?_ ?_
        · rfl
        intro f wz K hb hd hK
        have e8 : f 8 = .bool false := plainAt (s := 13) (cs := []) (hd 8 (by decide)) rfl
        have e15 : f 15 = .int .i64 op' := plainAt (s := 20) (cs := []) (hd 15 (by decide)) rfl
        simp only [setN, upd, Nat.reduceAdd, Nat.reduceEqDiff, reduceIte, List.setIfInBounds_toArray, List.set_cons_zero, List.set_cons_succ] at hK ⊢
        simp only [e8, e15] at hK ⊢
        refine wpOp_do rfl (by kernel_rfl) ?_
        unfold Oper.wp execOp
        go_simp
        refine (unhide HKY _ ?_).mono ?_
        · exact hb
        rintro e w' ⟨rfl, hb'⟩
        exact hK _ hb'
      · with_reducible refine DoesN.plain (s := 22) (v := .bool false) ?_ ?_
        · rfl
        intro f wz K hb hd hK
        have e8 : f 8 = .bool false := plainAt (s := 13) (cs := []) (hd 8 (by decide)) rfl
        have e12 : f 12 = .int .i64 kx := plainAt (s := 17) (cs := []) (hd 12 (by decide)) rfl
        have e16 : f 16 = .int .i64 ky := plainAt (s := 21) (cs := []) (hd 16 (by decide)) rfl
        simp only [setN, upd, Nat.reduceAdd, Nat.reduceEqDiff, reduceIte, List.setIfInBounds_toArray, List.set_cons_zero, List.set_cons_succ] at hK ⊢
        simp only [e8, e12, e16] at hK ⊢
        refine wpOp_do rfl (by kernel_rfl) ?_
        unfold Oper.wp execOp
        go_simp
        exact hK _ (Below.refl _ _)
      · with_reducible refine DoesN.plain (s := 23) (v := .bool false) ?_ ?_
        · rfl
        intro f wz K hb hd hK
        have e8 : f 8 = .bool false := plainAt (s := 13) (cs := []) (hd 8 (by decide)) rfl
        have e17 : f 17 = .bool false := plainAt (s := 22) (cs := []) (hd 17 (by decide)) rfl
        simp only [setN, upd, Nat.reduceAdd, Nat.reduceEqDiff, reduceIte, List.setIfInBounds_toArray, List.set_cons_zero, List.set_cons_succ] at hK ⊢
        simp only [e8, e17] at hK ⊢
        refine wpOp_do rfl (by kernel_rfl) ?_
        unfold Oper.wp execOp
        go_simp
        exact hK _ (Below.refl _ _)
    · intro f wE hbE hv hp hne ho
      have h0 : f 0 = .agg #[.int .i64 op, .string (S a), .string (S b), .int .i64 n, .int .i64 c, .string (S t), .int .i64 m] := plainAt (s := 5) (cs := []) (hv 0) rfl
      have h1 : f 1 = .bool true := plainAt (s := 6) (cs := []) (hv 1) rfl
      have h2 : f 2 = .bool false := plainAt (s := 7) (cs := []) (hv 2) rfl
      have h3 : f 3 = .bool false := plainAt (s := 8) (cs := []) (hv 3) rfl
      have h4 : f 4 = .agg #[.int .i64 op', .string (S a'), .string (S b'), .int .i64 n', .int .i64 c', .string (S t'), .int .i64 m'] := plainAt (s := 9) (cs := []) (hv 4) rfl
      have h5 : f 5 = .bool true := plainAt (s := 10) (cs := []) (hv 5) rfl
      have h6 : f 6 = .bool false := plainAt (s := 11) (cs := []) (hv 6) rfl
      have h7 : f 7 = .bool false := plainAt (s := 12) (cs := []) (hv 7) rfl
      have h8 : f 8 = .bool false := plainAt (s := 13) (cs := []) (hv 8) rfl
      have h9 : f 9 = .pointer (some ⟨w.heap.size, 0, none⟩) := plainAt (s := 14) (cs := []) (hv 9) rfl
      have h10 : f 10 = .pointer (some ⟨w.heap.size, 0, none⟩) := plainAt (s := 15) (cs := []) (hv 10) rfl
      have h11 : f 11 = .int .i64 op := plainAt (s := 16) (cs := []) (hv 11) rfl
      have h12 : f 12 = .int .i64 kx := plainAt (s := 17) (cs := []) (hv 12) rfl
      have h13 : f 13 = .pointer (some ⟨w.heap.size + 1, 0, none⟩) := plainAt (s := 18) (cs := []) (hv 13) rfl
      have h14 : f 14 = .pointer (some ⟨w.heap.size + 1, 0, none⟩) := plainAt (s := 19) (cs := []) (hv 14) rfl
      have h15 : f 15 = .int .i64 op' := plainAt (s := 20) (cs := []) (hv 15) rfl
      have h16 : f 16 = .int .i64 ky := plainAt (s := 21) (cs := []) (hv 16) rfl
      have h17 : f 17 = .bool false := plainAt (s := 22) (cs := []) (hv 17) rfl
      have h18 : f 18 = .bool false := plainAt (s := 23) (cs := []) (hv 18) rfl
      simp only [setN, Nat.reduceAdd, List.setIfInBounds_toArray, List.set_cons_zero, List.set_cons_succ]
      simp only [h0, h1, h2, h3, h4, h5, h6, h7, h8, h9, h10, h11, h12, h13, h14, h15, h16, h17, h18]
      clear h0 h1 h2 h3 h4 h5 h6 h7 h8 h9 h10 h11 h12 h13 h14 h15 h16 h17 h18
      have HE := hide (unhide HF _ _ (unhide HLW) hbE)
      have hx2 := (hbE.block _ (block_lt HXB)).trans HXB
      have hy2 := (hbE.block _ (block_lt HYB)).trans HYB
      obtain ⟨p0, p1, p2, p3, p4, p5, p6⟩ := cells7 hx2
      obtain ⟨q0, q1, q2, q3, q4, q5, q6⟩ := cells7 hy2
      have HXB2 := hide hx2
      have HYB2 := hide hy2
      clear hbE hv hp hne ho hx2 hy2 HXB HYB HPX HPY HKX HKY
      go_wp2_with fail
      refine (unhide HUX _).mono ?_
      rintro e w2 ⟨rfl, hb2⟩
      cases U1
      · obtain ⟨u0, u1, u2, u3, u4, u5, u6⟩ := cells7 ((hb2.block _ (block_lt (unhide HXB2))).trans (unhide HXB2))
        obtain ⟨v0, v1, v2, v3, v4, v5, v6⟩ := cells7 ((hb2.block _ (block_lt (unhide HYB2))).trans (unhide HYB2))
        have HE2 := hide (unhide HF _ _ (unhide HE) hb2)
        clear hb2 p0 p1 p2 p3 p4 p5 p6 q0 q1 q2 q3 q4 q5 q6
        go_wp2_with fail
        refine (unhide HUY _).mono ?_
        rintro e w3 ⟨rfl, hb3⟩
        have HE3 := hide (unhide HF _ _ (unhide HE2) hb3)
        clear hb3
        go_wp2_with fail
        go_ret
        exact ⟨rfl, unhide HE3⟩
      · have HE2 := hide (unhide HF _ _ (unhide HE) hb2)
        clear hb2
        go_wp2_with fail
        go_ret
        exact ⟨rfl, unhide HE2⟩
  · have k1 : (kx != ky) = true := by simp [hk]
    have k2 : (kx == ky) = false := by simp [hk]
    rw [decide_eq_false hk]
    clear hk
    rw [show (true && true && false && (U1 || U2)) = false by simp]
    go_enter Tryd.func12, Tryd.ntmps12
    go_upto_region 1 with fail
    try rw [hW]
    clear hW
    refine regN [.val 5 (Res.plain (.agg #[.int .i64 op, .string (S a), .string (S b), .int .i64 n, .int .i64 c, .string (S t), .int .i64 m]) []), .val 6 (Res.plain (.bool true) []), .val 7 (Res.plain (.bool false) []), .val 8 (Res.plain (.bool false) []), .val 9 (Res.plain (.agg #[.int .i64 op', .string (S a'), .string (S b'), .int .i64 n', .int .i64 c', .string (S t'), .int .i64 m']) []), .val 10 (Res.plain (.bool true) []), .val 11 (Res.plain (.bool false) []), .val 12 (Res.plain (.bool false) []), .val 13 (Res.plain (.bool false) []), .val 14 (Res.plain (.pointer (some ⟨w.heap.size, 0, none⟩)) []), .val 15 (Res.plain (.pointer (some ⟨w.heap.size, 0, none⟩)) []), .val 16 (Res.plain (.int .i64 op) []), .val 17 (Res.plain (.int .i64 kx) []), .val 18 (Res.plain (.pointer (some ⟨w.heap.size + 1, 0, none⟩)) []), .val 19 (Res.plain (.pointer (some ⟨w.heap.size + 1, 0, none⟩)) []), .val 20 (Res.plain (.int .i64 op') []), .val 21 (Res.plain (.int .i64 ky) []), .val 22 (Res.plain (.bool true) []), .val 23 (Res.plain (.bool true) [])] (fun i => if i = 1 then [0] else if i = 2 then [1] else if i = 3 then [2] else if i = 4 then [3] else if i = 5 then [3, 4] else if i = 6 then [3, 5] else if i = 7 then [3, 6] else if i = 8 then [7] else if i = 9 then [8] else if i = 10 then [8, 9] else if i = 11 then [8, 10] else if i = 12 then [8, 11] else if i = 13 then [8] else if i = 14 then [8, 13] else if i = 15 then [8, 14] else if i = 16 then [8, 15] else if i = 17 then [8, 12, 16] else if i = 18 then [8, 17] else []) ?_ ?_ ?_ ?_ ?_ ?_ ?_ (fun i hi => ?_) ?_
    · kernel_rfl
    · rfl
    · kernel_rfl
    · kernel_rfl
    · kernel_rfl
    · kernel_rfl
    · kernel_rfl
    · have hc : i = 0 ∨ i = 1 ∨ i = 2 ∨ i = 3 ∨ i = 4 ∨ i = 5 ∨ i = 6 ∨ i = 7 ∨ i = 8 ∨ i = 9 ∨ i = 10 ∨ i = 11 ∨ i = 12 ∨ i = 13 ∨ i = 14 ∨ i = 15 ∨ i = 16 ∨ i = 17 ∨ i = 18 := by have : i < 19 := hi; omega
      clear hi
      rcases hc with rfl | rfl | rfl | rfl | rfl | rfl | rfl | rfl | rfl | rfl | rfl | rfl | rfl | rfl | rfl | rfl | rfl | rfl | rfl
      · with_reducible refine DoesN.plain (s := 5) (v := .agg #[.int .i64 op, .string (S a), .string (S b), .int .i64 n, .int .i64 c, .string (S t), .int .i64 m]) ?_ ?_
        · rfl
        intro f wz K hb hd hK
        obtain ⟨p0, p1, p2, p3, p4, p5, p6⟩ := cells7 ((hb.block _ (block_lt HXB)).trans HXB)
        simp only [setN, upd, Nat.reduceAdd, Nat.reduceEqDiff, reduceIte, List.setIfInBounds_toArray, List.set_cons_zero, List.set_cons_succ] at hK ⊢
        refine wpOp_do rfl (by kernel_rfl) ?_
        unfold Oper.wp execOp
        go_simp
        exact hK _ (Below.refl _ _)
      · with_reducible refine DoesN.plain (s := 6) (v := .bool true) ?_ ?_
        · rfl
        intro f wz K hb hd hK
        have e0 : f 0 = .agg #[.int .i64 op, .string (S a), .string (S b), .int .i64 n, .int .i64 c, .string (S t), .int .i64 m] := plainAt (s := 5) (cs := []) (hd 0 (by decide)) rfl
        simp only [setN, upd, Nat.reduceAdd, Nat.reduceEqDiff, reduceIte, List.setIfInBounds_toArray, List.set_cons_zero, List.set_cons_succ] at hK ⊢
        simp only [e0] at hK ⊢
        refine wpOp_do rfl (by kernel_rfl) ?_
        unfold Oper.wp execOp
        go_simp
        refine (unhide HPX _).mono ?_
        rintro e w' ⟨rfl, hb'⟩
        exact hK _ hb'
      · with_reducible refine DoesN.plain (s := 7) (v := .bool false) ?_ ?_
        · rfl
        intro f wz K hb hd hK
        have e1 : f 1 = .bool true := plainAt (s := 6) (cs := []) (hd 1 (by decide)) rfl
        simp only [setN, upd, Nat.reduceAdd, Nat.reduceEqDiff, reduceIte, List.setIfInBounds_toArray, List.set_cons_zero, List.set_cons_succ] at hK ⊢
        simp only [e1] at hK ⊢
        refine wpOp_do rfl (by kernel_rfl) ?_
        unfold Oper.wp execOp
        go_simp
        exact hK _ (Below.refl _ _)
      · with_reducible refine DoesN.plain (s := 8) (v := .bool false) ?_ ?_
        · rfl
        intro f wz K hb hd hK
        have e2 : f 2 = .bool false := plainAt (s := 7) (cs := []) (hd 2 (by decide)) rfl
        simp only [setN, upd, Nat.reduceAdd, Nat.reduceEqDiff, reduceIte, List.setIfInBounds_toArray, List.set_cons_zero, List.set_cons_succ] at hK ⊢
        simp only [e2] at hK ⊢
        refine wpOp_do rfl (by kernel_rfl) ?_
        unfold Oper.wp execOp
        go_simp
        exact hK _ (Below.refl _ _)
      · with_reducible refine DoesN.plain (s := 9) (v := .agg #[.int .i64 op', .string (S a'), .string (S b'), .int .i64 n', .int .i64 c', .string (S t'), .int .i64 m']) ?_ ?_
        · rfl
        intro f wz K hb hd hK
        have e3 : f 3 = .bool false := plainAt (s := 8) (cs := []) (hd 3 (by decide)) rfl
        obtain ⟨p0, p1, p2, p3, p4, p5, p6⟩ := cells7 ((hb.block _ (block_lt HYB)).trans HYB)
        simp only [setN, upd, Nat.reduceAdd, Nat.reduceEqDiff, reduceIte, List.setIfInBounds_toArray, List.set_cons_zero, List.set_cons_succ] at hK ⊢
        simp only [e3] at hK ⊢
        refine wpOp_do rfl (by kernel_rfl) ?_
        unfold Oper.wp execOp
        go_simp
        exact hK _ (Below.refl _ _)
      · with_reducible refine DoesN.plain (s := 10) (v := .bool true) ?_ ?_
        · rfl
        intro f wz K hb hd hK
        have e3 : f 3 = .bool false := plainAt (s := 8) (cs := []) (hd 3 (by decide)) rfl
        have e4 : f 4 = .agg #[.int .i64 op', .string (S a'), .string (S b'), .int .i64 n', .int .i64 c', .string (S t'), .int .i64 m'] := plainAt (s := 9) (cs := []) (hd 4 (by decide)) rfl
        simp only [setN, upd, Nat.reduceAdd, Nat.reduceEqDiff, reduceIte, List.setIfInBounds_toArray, List.set_cons_zero, List.set_cons_succ] at hK ⊢
        simp only [e3, e4] at hK ⊢
        refine wpOp_do rfl (by kernel_rfl) ?_
        unfold Oper.wp execOp
        go_simp
        refine (unhide HPY _).mono ?_
        rintro e w' ⟨rfl, hb'⟩
        exact hK _ hb'
      · with_reducible refine DoesN.plain (s := 11) (v := .bool false) ?_ ?_
        · rfl
        intro f wz K hb hd hK
        have e3 : f 3 = .bool false := plainAt (s := 8) (cs := []) (hd 3 (by decide)) rfl
        have e5 : f 5 = .bool true := plainAt (s := 10) (cs := []) (hd 5 (by decide)) rfl
        simp only [setN, upd, Nat.reduceAdd, Nat.reduceEqDiff, reduceIte, List.setIfInBounds_toArray, List.set_cons_zero, List.set_cons_succ] at hK ⊢
        simp only [e3, e5] at hK ⊢
        refine wpOp_do rfl (by kernel_rfl) ?_
        unfold Oper.wp execOp
        go_simp
        exact hK _ (Below.refl _ _)
      · with_reducible refine DoesN.plain (s := 12) (v := .bool false) ?_ ?_
        · rfl
        intro f wz K hb hd hK
        have e3 : f 3 = .bool false := plainAt (s := 8) (cs := []) (hd 3 (by decide)) rfl
        have e6 : f 6 = .bool false := plainAt (s := 11) (cs := []) (hd 6 (by decide)) rfl
        simp only [setN, upd, Nat.reduceAdd, Nat.reduceEqDiff, reduceIte, List.setIfInBounds_toArray, List.set_cons_zero, List.set_cons_succ] at hK ⊢
        simp only [e3, e6] at hK ⊢
        refine wpOp_do rfl (by kernel_rfl) ?_
        unfold Oper.wp execOp
        go_simp
        exact hK _ (Below.refl _ _)
      · with_reducible refine DoesN.plain (s := 13) (v := .bool false) ?_ ?_
        · rfl
        intro f wz K hb hd hK
        have e7 : f 7 = .bool false := plainAt (s := 12) (cs := []) (hd 7 (by decide)) rfl
        simp only [setN, upd, Nat.reduceAdd, Nat.reduceEqDiff, reduceIte, List.setIfInBounds_toArray, List.set_cons_zero, List.set_cons_succ] at hK ⊢
        simp only [e7] at hK ⊢
        refine wpOp_do rfl (by kernel_rfl) ?_
        unfold Oper.wp execOp
        go_simp
        exact hK _ (Below.refl _ _)
      · with_reducible refine DoesN.plain (s := 14) (v := .pointer (some ⟨w.heap.size, 0, none⟩)) ?_ ?_
        · rfl
        intro f wz K hb hd hK
        have e8 : f 8 = .bool false := plainAt (s := 13) (cs := []) (hd 8 (by decide)) rfl
        simp only [setN, upd, Nat.reduceAdd, Nat.reduceEqDiff, reduceIte, List.setIfInBounds_toArray, List.set_cons_zero, List.set_cons_succ] at hK ⊢
        simp only [e8] at hK ⊢
        refine wpOp_do rfl (by kernel_rfl) ?_
        unfold Oper.wp execOp
        go_simp
        exact hK _ (Below.refl _ _)
      · with_reducible refine DoesN.plain (s := 15) (v := .pointer (some ⟨w.heap.size, 0, none⟩)) ?_ ?_
        · rfl
        intro f wz K hb hd hK
        have e8 : f 8 = .bool false := plainAt (s := 13) (cs := []) (hd 8 (by decide)) rfl
        have e9 : f 9 = .pointer (some ⟨w.heap.size, 0, none⟩) := plainAt (s := 14) (cs := []) (hd 9 (by decide)) rfl
        simp only [setN, upd, Nat.reduceAdd, Nat.reduceEqDiff, reduceIte, List.setIfInBounds_toArray, List.set_cons_zero, List.set_cons_succ] at hK ⊢
        simp only [e8, e9] at hK ⊢
        refine wpOp_do rfl (by kernel_rfl) ?_
        unfold Oper.wp execOp
        go_simp
        exact hK _ (Below.refl _ _)
      · with_reducible refine DoesN.plain (s := 16) (v := .int .i64 op) ?_ ?_
        · rfl
        intro f wz K hb hd hK
        have e8 : f 8 = .bool false := plainAt (s := 13) (cs := []) (hd 8 (by decide)) rfl
        have e10 : f 10 = .pointer (some ⟨w.heap.size, 0, none⟩) := plainAt (s := 15) (cs := []) (hd 10 (by decide)) rfl
        obtain ⟨p0, p1, p2, p3, p4, p5, p6⟩ := cells7 ((hb.block _ (block_lt HXB)).trans HXB)
        simp only [setN, upd, Nat.reduceAdd, Nat.reduceEqDiff, reduceIte, List.setIfInBounds_toArray, List.set_cons_zero, List.set_cons_succ] at hK ⊢
        simp only [e8, e10] at hK ⊢
        refine wpOp_do rfl (by kernel_rfl) ?_
        unfold Oper.wp execOp
        go_simp
        exact hK _ (Below.refl _ _)
      · with_reducible refine DoesN.plain (s := 17) (v := .int .i64 kx) ?_ ?_
        · rfl
        intro f wz K hb hd hK
        have e8 : f 8 = .bool false := plainAt (s := 13) (cs := []) (hd 8 (by decide)) rfl
        have e11 : f 11 = .int .i64 op := plainAt (s := 16) (cs := []) (hd 11 (by decide)) rfl
        simp only [setN, upd, Nat.reduceAdd, Nat.reduceEqDiff, reduceIte, List.setIfInBounds_toArray, List.set_cons_zero, List.set_cons_succ] at hK ⊢
        simp only [e8, e11] at hK ⊢
        refine wpOp_do rfl (by kernel_rfl) ?_
        unfold Oper.wp execOp
        go_simp
        refine (unhide HKX _ ?_).mono ?_
        · exact hb
        rintro e w' ⟨rfl, hb'⟩
        exact hK _ hb'
      · with_reducible refine DoesN.plain (s := 18) (v := .pointer (some ⟨w.heap.size + 1, 0, none⟩)) ?_ ?_
        · rfl
        intro f wz K hb hd hK
        have e8 : f 8 = .bool false := plainAt (s := 13) (cs := []) (hd 8 (by decide)) rfl
        simp only [setN, upd, Nat.reduceAdd, Nat.reduceEqDiff, reduceIte, List.setIfInBounds_toArray, List.set_cons_zero, List.set_cons_succ] at hK ⊢
        simp only [e8] at hK ⊢
        refine wpOp_do rfl (by kernel_rfl) ?_
        unfold Oper.wp execOp
        go_simp
        exact hK _ (Below.refl _ _)
      · with_reducible refine DoesN.plain (s := 19) (v := .pointer (some ⟨w.heap.size + 1, 0, none⟩)) ?_ ?_
        · rfl
        intro f wz K hb hd hK
        have e8 : f 8 = .bool false := plainAt (s := 13) (cs := []) (hd 8 (by decide)) rfl
        have e13 : f 13 = .pointer (some ⟨w.heap.size + 1, 0, none⟩) := plainAt (s := 18) (cs := []) (hd 13 (by decide)) rfl
        simp only [setN, upd, Nat.reduceAdd, Nat.reduceEqDiff, reduceIte, List.setIfInBounds_toArray, List.set_cons_zero, List.set_cons_succ] at hK ⊢
        simp only [e8, e13] at hK ⊢
        refine wpOp_do rfl (by kernel_rfl) ?_
        unfold Oper.wp execOp
        go_simp
        exact hK _ (Below.refl _ _)
      · with_reducible refine DoesN.plain (s := 20) (v := .int .i64 op') ?_ ?_
        · rfl
        intro f wz K hb hd hK
        have e8 : f 8 = .bool false := plainAt (s := 13) (cs := []) (hd 8 (by decide)) rfl
        have e14 : f 14 = .pointer (some ⟨w.heap.size + 1, 0, none⟩) := plainAt (s := 19) (cs := []) (hd 14 (by decide)) rfl
        obtain ⟨p0, p1, p2, p3, p4, p5, p6⟩ := cells7 ((hb.block _ (block_lt HYB)).trans HYB)
        simp only [setN, upd, Nat.reduceAdd, Nat.reduceEqDiff, reduceIte, List.setIfInBounds_toArray, List.set_cons_zero, List.set_cons_succ] at hK ⊢
        simp only [e8, e14] at hK ⊢
        refine wpOp_do rfl (by kernel_rfl) ?_
        unfold Oper.wp execOp
        go_simp
        exact hK _ (Below.refl _ _)
      · with_reducible refine DoesN.plain (s := 21) (v := .int .i64 ky) ?_ ?_
        · rfl
        intro f wz K hb hd hK
        have e8 : f 8 = .bool false := plainAt (s := 13) (cs := []) (hd 8 (by decide)) rfl
        have e15 : f 15 = .int .i64 op' := plainAt (s := 20) (cs := []) (hd 15 (by decide)) rfl
        simp only [setN, upd, Nat.reduceAdd, Nat.reduceEqDiff, reduceIte, List.setIfInBounds_toArray, List.set_cons_zero, List.set_cons_succ] at hK ⊢
        simp only [e8, e15] at hK ⊢
        refine wpOp_do rfl (by kernel_rfl) ?_
        unfold Oper.wp execOp
        go_simp
        refine (unhide HKY _ ?_).mono ?_
        · exact hb
        rintro e w' ⟨rfl, hb'⟩
        exact hK _ hb'
      · with_reducible refine DoesN.plain (s := 22) (v := .bool true) ?_ ?_
        · rfl
        intro f wz K hb hd hK
        have e8 : f 8 = .bool false := plainAt (s := 13) (cs := []) (hd 8 (by decide)) rfl
        have e12 : f 12 = .int .i64 kx := plainAt (s := 17) (cs := []) (hd 12 (by decide)) rfl
        have e16 : f 16 = .int .i64 ky := plainAt (s := 21) (cs := []) (hd 16 (by decide)) rfl
        simp only [setN, upd, Nat.reduceAdd, Nat.reduceEqDiff, reduceIte, List.setIfInBounds_toArray, List.set_cons_zero, List.set_cons_succ] at hK ⊢
        simp only [e8, e12, e16] at hK ⊢
        refine wpOp_do rfl (by kernel_rfl) ?_
        unfold Oper.wp execOp
        go_simp
        exact hK _ (Below.refl _ _)
      · with_reducible refine DoesN.plain (s := 23) (v := .bool true) ?_ ?_
        · rfl
        intro f wz K hb hd hK
        have e8 : f 8 = .bool false := plainAt (s := 13) (cs := []) (hd 8 (by decide)) rfl
        have e17 : f 17 = .bool true := plainAt (s := 22) (cs := []) (hd 17 (by decide)) rfl
        simp only [setN, upd, Nat.reduceAdd, Nat.reduceEqDiff, reduceIte, List.setIfInBounds_toArray, List.set_cons_zero, List.set_cons_succ] at hK ⊢
        simp only [e8, e17] at hK ⊢
        refine wpOp_do rfl (by kernel_rfl) ?_
        unfold Oper.wp execOp
        go_simp
        exact hK _ (Below.refl _ _)
    · intro f wE hbE hv hp hne ho
      have h0 : f 0 = .agg #[.int .i64 op, .string (S a), .string (S b), .int .i64 n, .int .i64 c, .string (S t), .int .i64 m] := plainAt (s := 5) (cs := []) (hv 0) rfl
      have h1 : f 1 = .bool true := plainAt (s := 6) (cs := []) (hv 1) rfl
      have h2 : f 2 = .bool false := plainAt (s := 7) (cs := []) (hv 2) rfl
      have h3 : f 3 = .bool false := plainAt (s := 8) (cs := []) (hv 3) rfl
      have h4 : f 4 = .agg #[.int .i64 op', .string (S a'), .string (S b'), .int .i64 n', .int .i64 c', .string (S t'), .int .i64 m'] := plainAt (s := 9) (cs := []) (hv 4) rfl
      have h5 : f 5 = .bool true := plainAt (s := 10) (cs := []) (hv 5) rfl
      have h6 : f 6 = .bool false := plainAt (s := 11) (cs := []) (hv 6) rfl
      have h7 : f 7 = .bool false := plainAt (s := 12) (cs := []) (hv 7) rfl
      have h8 : f 8 = .bool false := plainAt (s := 13) (cs := []) (hv 8) rfl
      have h9 : f 9 = .pointer (some ⟨w.heap.size, 0, none⟩) := plainAt (s := 14) (cs := []) (hv 9) rfl
      have h10 : f 10 = .pointer (some ⟨w.heap.size, 0, none⟩) := plainAt (s := 15) (cs := []) (hv 10) rfl
      have h11 : f 11 = .int .i64 op := plainAt (s := 16) (cs := []) (hv 11) rfl
      have h12 : f 12 = .int .i64 kx := plainAt (s := 17) (cs := []) (hv 12) rfl
      have h13 : f 13 = .pointer (some ⟨w.heap.size + 1, 0, none⟩) := plainAt (s := 18) (cs := []) (hv 13) rfl
      have h14 : f 14 = .pointer (some ⟨w.heap.size + 1, 0, none⟩) := plainAt (s := 19) (cs := []) (hv 14) rfl
      have h15 : f 15 = .int .i64 op' := plainAt (s := 20) (cs := []) (hv 15) rfl
      have h16 : f 16 = .int .i64 ky := plainAt (s := 21) (cs := []) (hv 16) rfl
      have h17 : f 17 = .bool true := plainAt (s := 22) (cs := []) (hv 17) rfl
      have h18 : f 18 = .bool true := plainAt (s := 23) (cs := []) (hv 18) rfl
      simp only [setN, Nat.reduceAdd, List.setIfInBounds_toArray, List.set_cons_zero, List.set_cons_succ]
      simp only [h0, h1, h2, h3, h4, h5, h6, h7, h8, h9, h10, h11, h12, h13, h14, h15, h16, h17, h18]
      clear h0 h1 h2 h3 h4 h5 h6 h7 h8 h9 h10 h11 h12 h13 h14 h15 h16 h17 h18
      have HE := hide (unhide HF _ _ (unhide HLW) hbE)
      clear hbE hv hp hne ho
      go_wp2_with fail
      go_ret
      exact ⟨rfl, unhide HE⟩
end Go.Proofs.YteaiidcconggcaaDoor
/- Law 14's awake. -/
namespace Go.Proofs.YteaiidcconggcaaDoor
open Go.RowKit
set_option linter.unusedVariables false
set_option maxRecDepth 100000

theorem step_any {w : World} (op k : Int) : Calls Tryd.prog 26 #[.int .i64 op, .int .i64 k] w fun e w' => e = .returned (stV (⟨op, [97], [], 0⟩, ⟨k, [], 0⟩)) ∧ Below w.heap.size w w' := by
  unfold stV
  have HB := hide (fun o : Obj => under_box (w := w) o)
  go_enter Tryd.func26, Tryd.ntmps26
  go_wp2_with fail
  exact bodyPost_ret (v := .agg #[.int .i64 op, .string (S [97]), .string (S []), .int .i64 0, .int .i64 k, .string (S []), .int .i64 0]) (by simp [results, Tryd.results26, go_sem]; exact ⟨rfl, rfl⟩) rfl ⟨rfl, unhide HB _⟩
set_option maxHeartbeats 6400000 in
theorem qawake_any {w : World} (hw : MD w) : Calls Tryd.prog 7 #[] w fun e w' => e = .returned (.bool true) ∧ Below w.heap.size w w' := by
  have HST := hide (fun (wz : World) (op k : Int) => step_any (w := wz) op k)
  have HF := hide (fun (wz w' : World) (h1 : Below w.heap.size w wz) (h2 : Below wz.heap.size wz w') => h1.trans (h2.mono h1.size))
  have HC1 : Hid (∀ wz, Below w.heap.size w wz → Calls Tryd.prog 12 #[stV (⟨8, [97], [], 0⟩, ⟨1, [], 0⟩), stV (⟨10, [97], [], 0⟩, ⟨2, [], 0⟩)] wz fun e w' => e = .returned (.bool true) ∧ Below wz.heap.size wz w') := fun wz hb => by
    have := conflict_any (hw.later hb) (⟨8, [97], [], 0⟩, ⟨1, [], 0⟩) (⟨10, [97], [], 0⟩, ⟨2, [], 0⟩) (by decide) (by decide)
    rwa [show conM (⟨8, [97], [], 0⟩, ⟨1, [], 0⟩) (⟨10, [97], [], 0⟩, ⟨2, [], 0⟩) = true by decide +kernel] at this
  have HC2 : Hid (∀ wz, Below w.heap.size w wz → Calls Tryd.prog 12 #[stV (⟨8, [97], [], 0⟩, ⟨2, [], 0⟩), stV (⟨10, [97], [], 0⟩, ⟨1, [], 0⟩)] wz fun e w' => e = .returned (.bool false) ∧ Below wz.heap.size wz w') := fun wz hb => by
    have := conflict_any (hw.later hb) (⟨8, [97], [], 0⟩, ⟨2, [], 0⟩) (⟨10, [97], [], 0⟩, ⟨1, [], 0⟩) (by decide) (by decide)
    rwa [show conM (⟨8, [97], [], 0⟩, ⟨2, [], 0⟩) (⟨10, [97], [], 0⟩, ⟨1, [], 0⟩) = false by decide +kernel] at this
  have HP : Hid (∀ wz : World, Calls Tryd.prog 19 #[stV (⟨10, [97], [], 0⟩, ⟨1, [], 0⟩)] wz fun e w' => e = .returned (.bool true) ∧ Below wz.heap.size wz w') := fun wz => by
    have := possible_any (w := wz) (⟨10, [97], [], 0⟩, ⟨1, [], 0⟩) (by decide)
    rwa [show posM (⟨10, [97], [], 0⟩, ⟨1, [], 0⟩) = true by decide +kernel] at this
  clear hw
  go_enter Tryd.func7, Tryd.ntmps7
  go_wp2_with fail
  refine (unhide HST _ 8 1).mono ?_
  rintro e w1 ⟨rfl, hb1⟩
  have HE1 := hide (unhide HF _ _ (Below.refl _ _) hb1)
  clear hb1
  go_wp2_with fail
  refine (unhide HST _ 10 2).mono ?_
  rintro e w2 ⟨rfl, hb2⟩
  have HE2 := hide (unhide HF _ _ (unhide HE1) hb2)
  clear hb2
  go_wp2_with fail
  refine (unhide HC1 _ (unhide HE2)).mono ?_
  rintro e w3 ⟨rfl, hb3⟩
  have HE3 := hide (unhide HF _ _ (unhide HE2) hb3)
  clear hb3
  go_wp2_with fail
  refine (unhide HST _ 8 2).mono ?_
  rintro e w4 ⟨rfl, hb4⟩
  have HE4 := hide (unhide HF _ _ (unhide HE3) hb4)
  clear hb4
  go_wp2_with fail
  refine (unhide HST _ 10 1).mono ?_
  rintro e w5 ⟨rfl, hb5⟩
  have HE5 := hide (unhide HF _ _ (unhide HE4) hb5)
  clear hb5
  go_wp2_with fail
  refine (unhide HC2 _ (unhide HE5)).mono ?_
  rintro e w6 ⟨rfl, hb6⟩
  have HE6 := hide (unhide HF _ _ (unhide HE5) hb6)
  clear hb6
  go_wp2_with fail
  refine (unhide HST _ 10 1).mono ?_
  rintro e w7 ⟨rfl, hb7⟩
  have HE7 := hide (unhide HF _ _ (unhide HE6) hb7)
  clear hb7
  go_wp2_with fail
  refine (unhide HP _).mono ?_
  rintro e w8 ⟨rfl, hb8⟩
  have HE8 := hide (unhide HF _ _ (unhide HE7) hb8)
  clear hb8
  go_wp2_with fail
  go_ret
  exact ⟨rfl, unhide HE8⟩
end Go.Proofs.YteaiidcconggcaaDoor
/- The contract of Among, with the place: is there one of some steps with which a step conflicts. -/
namespace Go.Proofs.YteaiidcconggcaaDoor
open Go.RowKit
set_option linter.unusedVariables false
set_option maxRecDepth 100000

set_option maxHeartbeats 12800000 in
theorem among_all {w : World} (hw : MD w) (y : Stp) (hop : okOp y.1.op) {l : List Stp} {v : Value} (hl : Row7 w v l) (hops : ∀ z ∈ l, okOp z.1.op) (hll : l.length ≤ 1000) :
    Calls Tryd.prog 21 #[stV y, v] w fun e w' => ∃ j : Int, e = .returned (.int .i64 j) ∧ (j < 0 ↔ ∀ z ∈ l, conM y z = false) ∧ (j = -1 ∨ 0 ≤ j ∧ j < l.length) ∧ Below w.heap.size w w' := by
  have HCO := hide (fun (wz : World) (hb : Below w.heap.size w wz) (k : Nat) (hk : k < l.length) => conflict_any (hw.later hb) y (l[k]'hk) hop (hops _ (List.getElem_mem hk)))
  obtain ⟨la, lc, rfl, hlc, hlm⟩ := hl.shape
  have HROW := hide hl
  obtain ⟨cf, hcf⟩ : ∃ cf : Stp → Bool, (fun z => conM y z) = cf := ⟨_, rfl⟩
  have hcf' : ∀ z, conM y z = cf z := fun z => by rw [← hcf]
  simp only [hcf'] at HCO ⊢
  obtain ⟨⟨op, a, b, n⟩, ⟨c, t, m⟩⟩ := y
  unfold stV at *
  dsimp only at *
  obtain ⟨W, hW⟩ : ∃ W, w.alloc (.cells #[.int .i64 op, .string (S a), .string (S b), .int .i64 n, .int .i64 c, .string (S t), .int .i64 m] 41) = W := ⟨_, rfl⟩
  have HYB : Hid (W.heap[w.heap.size]? = some (.cells #[.int .i64 op, .string (S a), .string (S b), .int .i64 n, .int .i64 c, .string (S t), .int .i64 m] 41 (0, 0))) := by show _ = _; rw [← hW]; exact heap_alloc_new w _
  have HLW : Hid (Below w.heap.size w W) := by show Below _ _ _; rw [← hW]; exact under_box _
  clear hl hops hw hcf hcf' hop
  go_enter Tryd.func21, Tryd.ntmps21
  go_upto_region 1 with fail
  try rw [hW]
  clear hW
  go_wp2_with fail
  go_loopw [9, 5, 6] (fun i _ _ wr => ∃ k : Nat, k ≤ l.length ∧ i = .int .i64 (k : Int) ∧ (∀ j (hj : j < l.length), j < k → cf (l[j]'hj) = false) ∧ Below W.heap.size W wr) (fun i _ _ _ => l.length - (intOf i).toNat)
  case atStart => exact ⟨0, Nat.zero_le _, rfl, fun j hj h => by omega, Below.refl _ _⟩
  case round =>
    obtain ⟨k, hk, rfl, hno, hlow⟩ := hrel
    have HNO := hide hno
    by_cases hlt : k < l.length
    · have hlw := (unhide HLW).trans (hlow.mono (unhide HLW).size)
      obtain ⟨bb, off, rfl, hbl, e0, e1, e2, e3, e4, e5, e6⟩ := (unhide HROW).at k hlt
      rw [← hlw.cell (p := ⟨bb, off + k * 7, none⟩) hbl] at e0
      rw [← hlw.cell (p := ⟨bb, off + k * 7 + 1, none⟩) hbl] at e1
      rw [← hlw.cell (p := ⟨bb, off + k * 7 + 2, none⟩) hbl] at e2
      rw [← hlw.cell (p := ⟨bb, off + k * 7 + 3, none⟩) hbl] at e3
      rw [← hlw.cell (p := ⟨bb, off + k * 7 + 4, none⟩) hbl] at e4
      rw [← hlw.cell (p := ⟨bb, off + k * 7 + 5, none⟩) hbl] at e5
      rw [← hlw.cell (p := ⟨bb, off + k * 7 + 6, none⟩) hbl] at e6
      have HCK := hide (fun (wz : World) (hb : Below w.heap.size w wz) => unhide HCO wz hb k hlt)
      have HIN := hide (List.getElem_mem hlt)
      have HNX : Hid (cf (l[k]'hlt) = false → ∀ j (hj : j < l.length), j < k + 1 → cf (l[j]'hj) = false) := fun h j hj hjk => by
        by_cases e : j = k
        · subst e; exact h
        · exact unhide HNO j hj (by omega)
      generalize l[k]'hlt = q at *
      obtain ⟨⟨q1, q2, q3, q4⟩, ⟨q5, q6, q7⟩⟩ := q
      dsimp only at *
      have hi0 : (0 : Int) ≤ (k : Int) := by omega
      have hi1 : (k : Int) < ((l.length : Nat) : Int) := by omega
      have hne : wr.heap.size ≠ bb := by have := hlw.size; omega
      obtain ⟨W2, hW2⟩ : ∃ W2, wr.alloc (.cells #[.int .i64 q1, .string (S q2), .string (S q3), .int .i64 q4, .int .i64 q5, .string (S q6), .int .i64 q7] 41) = W2 := ⟨_, rfl⟩
      have hb2 : Below wr.heap.size wr W2 := by rw [← hW2]; exact under_box _
      have hc2 : W2.heap[wr.heap.size]? = some (.cells #[.int .i64 q1, .string (S q2), .string (S q3), .int .i64 q4, .int .i64 q5, .string (S q6), .int .i64 q7] 41 (0, 0)) := by rw [← hW2]; exact heap_alloc_new wr _
      have hl2 := hlow.trans (hb2.mono hlow.size)
      have HL2 := hide hl2
      have HYC := hide ((hl2.block _ (block_lt (unhide HYB))).trans (unhide HYB))
      have HC2 := hide hc2
      clear hlw hlow hno hb2 hc2 hl2
      go_upto_region 4 with fail
      try rw [hW2]
      clear hW2 e0 e1 e2 e3 e4 e5 e6
      obtain ⟨p0, p1, p2, p3, p4, p5, p6⟩ := cells7 (unhide HYC)
      obtain ⟨s0, s1, s2, s3, s4, s5, s6⟩ := cells7 (unhide HC2)
      go_wp2_with fail
      refine (unhide HCK _ ((unhide HLW).trans ((unhide HL2).mono (unhide HLW).size))).mono ?_
      rintro e w3 ⟨rfl, hb2⟩
      have HL3 := hide ((unhide HL2).trans (hb2.mono (unhide HL2).size))
      obtain ⟨CC, hCC⟩ : ∃ CC, cf (⟨q1, q2, q3, q4⟩, ⟨q5, q6, q7⟩) = CC := ⟨_, rfl⟩
      have HCC := hide hCC
      simp only [hCC]
      clear hb2 hCC s0 s1 s2 s3 s4 s5 s6 p0 p1 p2 p3 p4 p5 p6
      cases CC
      · go_wp2_with fail
        go_roundw
        case rel => exact ⟨k + 1, by omega, by go_num, unhide HNX (unhide HCC), unhide HL3⟩
        case measure => simp [intOf]; omega
      · go_wp2_with fail
        go_ret
        refine ⟨_, rfl, ⟨fun h => by omega, fun h => ?_⟩, Or.inr ⟨by omega, by omega⟩, (unhide HLW).trans ((unhide HL3).mono (unhide HLW).size)⟩
        have := h _ (unhide HIN)
        rw [unhide HCC] at this
        cases this
    · have hkn : k = l.length := by omega
      subst hkn
      have hi1 : ¬ ((l.length : Nat) : Int) < ((l.length : Nat) : Int) := by omega
      have HL3 := hide hlow
      clear hlow hno
      go_wp2_with fail
      go_ret
      have hall : ∀ z ∈ l, cf z = false := fun z hz => by
        obtain ⟨j, hj, rfl⟩ := List.getElem_of_mem hz
        exact unhide HNO j hj hj
      exact ⟨_, rfl, ⟨fun _ a b h => hall (a, b) h, fun _ => by decide⟩, Or.inl rfl, (unhide HLW).trans ((unhide HL3).mono (unhide HLW).size)⟩
/- Of one step: 0, or -1. -/
theorem among_one {w : World} (hw : MD w) (y z : Stp) (hop : okOp y.1.op) (hz : okOp z.1.op) {v : Value} (hl : Row7 w v [z]) :
    Calls Tryd.prog 21 #[stV y, v] w fun e w' => e = .returned (.int .i64 (if conM y z = true then 0 else -1)) ∧ Below w.heap.size w w' := by
  refine (among_all hw y hop hl (fun x hx => by rw [List.mem_singleton.mp hx]; exact hz) (by simp)).mono ?_
  rintro e w' ⟨j, rfl, h1, h2, hb⟩
  refine ⟨?_, hb⟩
  by_cases h : conM y z = true
  · rw [if_pos h]
    have : ¬ j < 0 := fun hj => by
      have := h1.1 hj z (List.mem_singleton.mpr rfl)
      rw [h] at this
      cases this
    simp at h2
    have : j = 0 := by omega
    rw [this]
  · rw [if_neg h]
    have hn : j < 0 := h1.2 fun x hx => by rw [List.mem_singleton.mp hx]; simpa using h
    have : j = -1 := by omega
    rw [this]
set_option maxHeartbeats 1600000 in
theorem lyes_any {w : World} (b : Bool) : Calls Tryd.prog 22 #[.bool b] w fun e w' => e = .returned (.int .i64 (if b = true then 1 else 0)) ∧ Below w.heap.size w w' := by
  cases b <;> (go_enter Tryd.func22, Tryd.ntmps22; go_wp2_with fail; go_ret; exact ⟨rfl, Below.refl _ _⟩)
end Go.Proofs.YteaiidcconggcaaDoor
/- Steps none of which conflicts with another one: in any order they are legal, and come to the same. -/
namespace Go.Proofs.YteaiidcconggcaaDoor
open Go.RowKit
set_option linter.unusedVariables false
set_option maxRecDepth 100000

theorem conM_symm (x y : Stp) : conM x y = conM y x := by
  unfold conM
  rw [Bool.or_comm (upsM x y), Bool.and_comm (posM x) (posM y)]
  congr 2
  rw [decide_eq_decide]
  exact ⟨Eq.symm, Eq.symm⟩
/- Room for so many steps more. -/
def Room (s : VS) (k : Nat) : Prop := s.kind = 3 → 0 ≤ s.n ∧ s.n + 1048576 * (k : Int) ≤ 1152921504606846976
theorem Room.now {s : VS} {k : Nat} (h : Room s k) : s.kind = 3 → 0 ≤ s.n ∧ s.n ≤ 1152921504606846976 := fun e => by
  have := h e
  omega
theorem Room.next {s : VS} {k : Nat} (h : Room s (k + 1)) {x : Stp} (hx : x.1.may) (lx : x.2 ∈ answers s x.1) : Room (apply2 s x.1 x.2) k := by
  intro e
  rw [apply_kind] at e
  obtain ⟨h1, h2⟩ := h e
  have kx := ans_kind lx
  have hox := MC.may_op hx
  have hn := fun h => may_n hx h
  obtain ⟨_, _, x3, _⟩ := ops_of hox
  obtain ⟨⟨op, a, b, n⟩, r⟩ := x
  dsimp only at *
  by_cases hc : mchanges op n r.code = false
  · rw [ap_same hc]
    omega
  have hc1 : mchanges op n r.code = true := by simpa using hc
  rw [apOp kx hc1]
  rcases x3 (by omega) with rfl | rfl | rfl
  · have := hn (Or.inl rfl)
    rw [if_neg (by decide), if_pos (by decide)]
    show 0 ≤ wrap64 (s.n + n) ∧ wrap64 (s.n + n) + _ ≤ _
    unfold wrap64
    omega
  · have := hn (Or.inr rfl)
    have hr1 : r.code = 1 := by simpa [mchanges] using hc1
    rw [ans6 e] at lx
    have hle : n ≤ s.n := by simpa using (okR_one (List.mem_singleton.mp lx)).1 hr1
    rw [if_neg (by decide), if_neg (by decide), if_pos rfl]
    show 0 ≤ wrap64 (s.n - n) ∧ wrap64 (s.n - n) + _ ≤ _
    unfold wrap64
    omega
  · simp [mchanges] at hc1
/- All are legal in a state, and none conflicts with another one. -/
structure Calm (s : VS) (l : List Stp) : Prop where
  may : ∀ x ∈ l, x.1.may
  ok : ∀ x ∈ l, x.2 ∈ answers s x.1
  free : l.Pairwise fun x y => conM x y = false
theorem calm_ups {s : VS} (hm : s.kind = 3 → 0 ≤ s.n) {x y : Stp} (hx : okOp x.1.op) (hy : okOp y.1.op) (lx : x.2 ∈ answers s x.1) (ly : y.2 ∈ answers s y.1) (h : conM x y = false) : upsM x y = false ∧ upsM y x = false := by
  have p1 := pos_legal (x := x) hm hx lx
  have p2 := pos_legal (x := y) hm hy ly
  have hkk : kd x = kd y := (ans_kind lx).trans (ans_kind ly).symm
  unfold conM at h
  rw [p1, p2, decide_eq_true hkk] at h
  constructor
  · cases g : upsM x y <;> simp [g] at h ⊢
  · cases g : upsM y x <;> simp [g] at h ⊢
theorem Calm.next {s : VS} {x : Stp} {l : List Stp} {k : Nat} (h : Calm s (x :: l)) (hf : s.fit) (hr : Room s (k + 1)) : Calm (apply2 s x.1 x.2) l := by
  obtain ⟨h1, h2⟩ := List.pairwise_cons.mp h.free
  refine ⟨fun y hy => h.may y (List.mem_cons_of_mem _ hy), fun y hy => ?_, h2⟩
  have lx := h.ok x (List.mem_cons_self ..)
  have ly := h.ok y (List.mem_cons_of_mem _ hy)
  have hmx := h.may x (List.mem_cons_self ..)
  have hmy := h.may y (List.mem_cons_of_mem _ hy)
  exact half hf hr.now hmx hmy lx ly (calm_ups (fun e => (hr.now e).1) (MC.may_op hmx) (MC.may_op hmy) lx ly (h1 y hy)).1
/- One behind the other they are legal. -/
theorem Calm.runs {s : VS} {l : List Stp} (h : Calm s l) (hf : s.fit) (hr : Room s l.length) : ∀ k (hk : k < l.length), legal (runSt s (l.take k)) (l[k]'hk).1 (l[k]'hk).2 = true := by
  induction l generalizing s with
  | nil => intro k hk; simp at hk
  | cons x t ih =>
    intro k hk
    have hn := h.next hf (by simpa using hr)
    cases k with
    | zero => exact legal_mem.2 (h.ok x (List.mem_cons_self ..))
    | succ k =>
      have := ih hn (hf.apply (MC.may_op (h.may x (List.mem_cons_self ..))) _) (Room.next (by simpa using hr) (h.may x (List.mem_cons_self ..)) (h.ok x (List.mem_cons_self ..))) k (by simpa using hk)
      simpa [runSt] using this
theorem Calm.perm {s : VS} {l m : List Stp} (h : Calm s l) (hp : l.Perm m) : Calm s m :=
  ⟨fun x hx => h.may x (hp.mem_iff.2 hx), fun x hx => h.ok x (hp.mem_iff.2 hx), (hp.pairwise_iff (fun {x y} e => by rw [conM_symm]; exact e)).1 h.free⟩
/- In whatever order they come to the same. -/
theorem Calm.same {s : VS} {l m : List Stp} (h : Calm s l) (hf : s.fit) (hr : Room s l.length) (hp : l.Perm m) : runSt s l = runSt s m := by
  induction hp generalizing s with
  | nil => rfl
  | cons x _ ih => exact ih (h.next hf (by simpa using hr)) (hf.apply (MC.may_op (h.may x (List.mem_cons_self ..))) _) (Room.next (by simpa using hr) (h.may x (List.mem_cons_self ..)) (h.ok x (List.mem_cons_self ..)))
  | swap x y t =>
    have hx := h.may x (by simp)
    have hy := h.may y (by simp)
    have lx := h.ok x (by simp)
    have ly := h.ok y (by simp)
    have hxy := (List.pairwise_cons.mp h.free).1 x (List.mem_cons_self ..)
    have hu := calm_ups (fun e => (hr.now e).1) (MC.may_op hy) (MC.may_op hx) ly lx hxy
    show runSt (apply2 (apply2 s y.1 y.2) x.1 x.2) t = runSt (apply2 (apply2 s x.1 x.2) y.1 y.2) t
    rw [both hf hy hx ly lx hu.1 hu.2]
  | trans p1 _ ih1 ih2 =>
    rw [ih1 h hf hr]
    exact ih2 (h.perm p1) hf (by rw [← p1.length_eq]; exact hr)
end Go.Proofs.YteaiidcconggcaaDoor
