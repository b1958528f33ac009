/- The contract of the reference's Put. -/
import Derived.Test.YtbggjkokfbcbcaaDRef2
import Derived.Test.YtbggjkokfbcbcaaDAwake
namespace Go.Proofs.Ytbggjkokfbcbcaa
open Go.RowKit
set_option linter.unusedVariables false

/- A block of five cells. -/
theorem cells5 {w : World} {N : Nat} {a b c d e : Value} {t : TypeId} (h : w.heap[N]? = some (.cells #[a, b, c, d, e] t (0, 0))) :
    w.cell? ⟨N, 0, none⟩ = some a ∧ w.cell? ⟨N, 1, none⟩ = some b ∧ w.cell? ⟨N, 2, none⟩ = some c ∧ w.cell? ⟨N, 3, none⟩ = some d ∧ w.cell? ⟨N, 4, none⟩ = some e := by
  refine ⟨?_, ?_, ?_, ?_, ?_⟩ <;> rw [block_cell h] <;> rfl
theorem frozen5 {w : World} {N : Nat} {a : Array Value} {t : TypeId} (h : w.heap[N]? = some (.cells a t (0, 0))) :
    w.frozen? ⟨N, 0, none⟩ = false ∧ w.frozen? ⟨N, 1, none⟩ = false ∧ w.frozen? ⟨N, 2, none⟩ = false ∧ w.frozen? ⟨N, 3, none⟩ = false ∧ w.frozen? ⟨N, 4, none⟩ = false := ⟨block_frozen h _, block_frozen h _, block_frozen h _, block_frozen h _, block_frozen h _⟩
def put5 (w : World) (N : Nat) (a b c d e : Value) : World := ((((w.setCell ⟨N, 0, none⟩ a).setCell ⟨N, 1, none⟩ b).setCell ⟨N, 2, none⟩ c).setCell ⟨N, 3, none⟩ d).setCell ⟨N, 4, none⟩ e
theorem put5_same {w : World} {N : Nat} {a b c d e a' b' c' d' e' : Value} {t : TypeId} (h : w.heap[N]? = some (.cells #[a, b, c, d, e] t (0, 0))) : (put5 w N a' b' c' d' e').heap[N]? = some (.cells #[a', b', c', d', e'] t (0, 0)) := by
  have h1 := heap_setCell_same w N 0 _ _ a' h
  have h2 := heap_setCell_same _ N 1 _ _ b' h1
  have h3 := heap_setCell_same _ N 2 _ _ c' h2
  have h4 := heap_setCell_same _ N 3 _ _ d' h3
  have h5 := heap_setCell_same _ N 4 _ _ e' h4
  unfold put5
  simpa [Array.setIfInBounds] using h5
theorem put5_other {w : World} {N : Nat} (a b c d e : Value) {k : Nat} (hk : k ≠ N) : (put5 w N a b c d e).heap[k]? = w.heap[k]? := by
  unfold put5
  rw [heap_setCell_other _ ⟨N, 4, none⟩ k _ hk, heap_setCell_other _ ⟨N, 3, none⟩ k _ hk, heap_setCell_other _ ⟨N, 2, none⟩ k _ hk, heap_setCell_other _ ⟨N, 1, none⟩ k _ hk, heap_setCell_other _ ⟨N, 0, none⟩ k _ hk]
theorem put5_size {w : World} {N : Nat} (a b c d e : Value) : (put5 w N a b c d e).heap.size = w.heap.size := by simp [put5]
theorem below_put5 {B : Nat} {u w : World} (h : Below B u w) {N : Nat} (hN : B ≤ N) (a b c d e : Value) : Below B u (put5 w N a b c d e) :=
  ((((h.setCell (p := ⟨N, 0, none⟩) hN a).setCell (p := ⟨N, 1, none⟩) hN b).setCell (p := ⟨N, 2, none⟩) hN c).setCell (p := ⟨N, 3, none⟩) hN d).setCell (p := ⟨N, 4, none⟩) hN e

theorem two_new {w w1 : World} {o1 o2 : Obj} (hb : Below ((w.alloc o1).alloc o2).heap.size ((w.alloc o1).alloc o2) w1) : w1.heap[w.heap.size]? = some o1 ∧ w1.heap[w.heap.size + 1]? = some o2 ∧ w.heap.size + 2 ≤ w1.heap.size ∧ Below w.heap.size w w1 := by
  refine ⟨(hb.block w.heap.size (by simp; omega)).trans ?_, (hb.block (w.heap.size + 1) (by simp)).trans ?_, by have := hb.size; simp at this; omega, ?_⟩
  · exact (Below.heap_alloc (w.alloc o1) o2 w.heap.size (by simp)).trans (heap_alloc_new w o1)
  · have := heap_alloc_new (w.alloc o1) o2
    rwa [World.size_alloc] at this
  · exact (((Below.refl _ _).alloc (Nat.le_refl _) _).alloc (by simp) _).trans (hb.mono (by simp; omega))
theorem read5 {w : World} {N : Nat} {a b c d e : Value} {t : TypeId} (h : w.heap[N]? = some (.cells #[a, b, c, d, e] t (0, 0))) (o : Obj) : (w.alloc o).cell? ⟨N, 0, none⟩ = some a ∧ (w.alloc o).cell? ⟨N, 1, none⟩ = some b ∧ (w.alloc o).cell? ⟨N, 2, none⟩ = some c ∧ (w.alloc o).cell? ⟨N, 3, none⟩ = some d ∧ (w.alloc o).cell? ⟨N, 4, none⟩ = some e :=
  cells5 ((Below.heap_alloc w o N (block_lt h)).trans h)

set_option maxHeartbeats 3200000 in
theorem rput_any {base : Nat} {w : World} {lv cv : Value} {d : Dev} (h : RIs base w lv cv d) (i : Int) (s : List UInt8) (hl : d.left < 9223372036854775808) (hc : d.calls < 4611686018427387904) (hn : d.W.length ≤ 1099511627) (hB : base ≤ w.heap.size) :
    Calls Try.prog 12 #[RV lv cv d, .int .i64 i, .string (S s)] w fun e w' => ∃ cv', e = .returned (.tuple #[RV lv cv' (d.write i s), .int .i64 (d.writeE i s)]) ∧ RIs base w' lv cv' (d.write i s) ∧ (∀ k, cv'.ownBlock = some k → cv.ownBlock = some k ∨ w.heap.size ≤ k) ∧ Below w.heap.size w w' := by
  obtain ⟨i0, hi, hz0, hz1, hz2⟩ := info_parts info_rwrite
  obtain ⟨a0, c0, rfl, ha0⟩ := ownsRow_slice h.sec
  obtain ⟨a1, c1, rfl, ha1⟩ := ownsRow_slice h.loo
  have HH := hide h
  have hsz : (S s).size = s.length := rfl
  have HCALL := hide (fun w => rcall_any a0 d.L.length c0 a1 d.W.length c1 d w hl hc)
  have HFI := hide (fun w => fill_any s w)
  by_cases hno : d.no i ∨ 64 < s.length
  · have e1 : d.write i s = d := by unfold Dev.write; rw [if_pos hno]
    have e2 : d.writeE i s = 4 := by unfold Dev.writeE; rw [if_pos hno]
    rw [e1, e2]
    have hno2 : i < 0 ∨ (0 ≤ i ∧ (d.L.length : Int) ≤ i) ∨ (0 ≤ i ∧ i < (d.L.length : Int) ∧ 64 < s.length) := by unfold Dev.no at hno; omega
    have HFIN : Hid (∀ (e : Ending) (w' : World), e = .returned (.tuple #[RV (.slice a0 d.L.length c0) (.slice a1 d.W.length c1) d, .int .i64 4]) → Below w.heap.size w w' → ∃ cv', e = .returned (.tuple #[RV (.slice a0 d.L.length c0) cv' d, .int .i64 4]) ∧ RIs base w' (.slice a0 d.L.length c0) cv' d ∧ (∀ k, cv'.ownBlock = some k → (Value.slice a1 d.W.length c1).ownBlock = some k ∨ w.heap.size ≤ k) ∧ Below w.heap.size w w') :=
      fun e w' he hb => ⟨_, he, (unhide HH).later hb, fun k hk => Or.inl hk, hb⟩
    unfold RV at HFIN ⊢
    generalize rleft d = z at *
    clear h hno e1 e2 HCALL HFI ha0 ha1
    rcases hno2 with h1 | ⟨h1, h2⟩ | ⟨h1, h2, h3⟩
    all_goals
      go_enter Try.func12, Try.ntmps12
      go_wp2
      exact bodyPost_ret (v := .tuple #[.agg #[.slice a0 d.L.length c0, .slice a1 d.W.length c1, .int .i64 z, .bool d.down, .int .i64 (d.calls : Int)], .int .i64 4]) (by simp [results, Try.results12, go_sem]) rfl (unhide HFIN _ _ rfl (((Below.refl _ _).alloc (Nat.le_refl _) _).alloc (by simp) _))
  · have hin1 : 0 ≤ i := by unfold Dev.no at hno; omega
    have hin2 : i < (d.L.length : Int) := by unfold Dev.no at hno; omega
    have h64 : ¬64 < s.length := by omega
    have h64' : s.length ≤ 64 := by omega
    by_cases ho : d.out
    · have e1 : d.write i s = d.begin := by unfold Dev.write; rw [if_neg hno, if_pos ho]
      have e2 : d.writeE i s = 16 := by unfold Dev.writeE; rw [if_neg hno, if_pos ho]
      have e3 : d.begin.L = d.L ∧ d.begin.W = d.W := by unfold Dev.begin; rw [if_pos ho]; exact ⟨rfl, rfl⟩
      rw [e1, e2]
      rw [decide_eq_true ho] at HCALL
      have HFIN : Hid (∀ (e : Ending) (w' : World), e = .returned (.tuple #[RV (.slice a0 d.L.length c0) (.slice a1 d.W.length c1) d.begin, .int .i64 16]) → Below w.heap.size w w' → ∃ cv', e = .returned (.tuple #[RV (.slice a0 d.L.length c0) cv' d.begin, .int .i64 16]) ∧ RIs base w' (.slice a0 d.L.length c0) cv' d.begin ∧ (∀ k, cv'.ownBlock = some k → (Value.slice a1 d.W.length c1).ownBlock = some k ∨ w.heap.size ≤ k) ∧ Below w.heap.size w w') :=
        fun e w' he hb => ⟨_, he, by
          have := (unhide HH).later hb
          exact ⟨by rw [e3.1]; exact this.sec, by rw [e3.2]; exact this.loo⟩, fun k hk => Or.inl hk, hb⟩
      generalize hdb : d.begin = db at *
      unfold RV at HFIN HCALL ⊢
      generalize rleft db = zb at *
      generalize rleft d = z at *
      clear h hno e1 e2 e3 HFI ha0 ha1 hdb ho
      go_enter Try.func12, Try.ntmps12
      go_wp2_with fail
      refine (unhide HCALL _).mono ?_
      rintro e w1 ⟨rfl, hb1⟩
      obtain ⟨hx1, hx2, hs1, hb2⟩ := two_new hb1
      obtain ⟨p0, p1, p2, p3, p4⟩ := cells5 hx2
      obtain ⟨f0, f1, f2, f3, f4⟩ := frozen5 hx2
      have HX := hide hx2
      have HB := hide hb2
      obtain ⟨N, hN⟩ : ∃ N, w.heap.size + 1 = N := ⟨_, rfl⟩
      have hNlt : N < w1.heap.size := by omega
      have hNlo : w.heap.size ≤ N := by omega
      rw [hN] at p0 p1 p2 p3 p4 f0 f1 f2 f3 f4 HX ⊢
      have HNN := hide hN
      clear hb1 hx1 hx2 hb2 HCALL hN
      go_wp2_with fail
      have hq := put5_same (a' := .slice a0 d.L.length c0) (b' := .slice a1 d.W.length c1) (c' := .int .i64 zb) (d' := .bool db.down) (e' := .int .i64 (db.calls : Int)) (unhide HX)
      obtain ⟨q0, q1, q2, q3, q4⟩ := read5 hq (.cells #[.slice a0 d.L.length c0, .slice a1 d.W.length c1, .int .i64 zb, .bool db.down, .int .i64 (db.calls : Int)] 31)
      have hb3 : Below w.heap.size w ((put5 w1 N (.slice a0 d.L.length c0) (.slice a1 d.W.length c1) (.int .i64 zb) (.bool db.down) (.int .i64 (db.calls : Int))).alloc (.cells #[.slice a0 d.L.length c0, .slice a1 d.W.length c1, .int .i64 zb, .bool db.down, .int .i64 (db.calls : Int)] 31)) := (below_put5 (unhide HB) (by omega) _ _ _ _ _).alloc (by rw [put5_size]; omega) _
      unfold put5 at q0 q1 q2 q3 q4 hb3
      exact bodyPost_ret (v := .tuple #[.agg #[.slice a0 d.L.length c0, .slice a1 d.W.length c1, .int .i64 zb, .bool db.down, .int .i64 (db.calls : Int)], .int .i64 16]) (by simp [results, Try.results12, go_sem, q0, q1, q2, q3, q4]) rfl (unhide HFIN _ _ rfl hb3)
    · have e2 : d.writeE i s = 0 := by unfold Dev.writeE; rw [if_neg hno, if_neg ho]
      have e1 : d.write i s = { d.begin with W := d.W ++ [(i.toNat, whole s)] } := by unfold Dev.write; rw [if_neg hno, if_neg ho]
      have e3 : d.begin.L = d.L := by unfold Dev.begin; rw [if_neg ho]
      have hin : (i.toNat : Int) = i := by omega
      obtain ⟨D, hD⟩ : ∃ D, d.write i s = D := ⟨_, rfl⟩
      have hDW : wrs D.W = wrs d.W ++ [.int .i64 i, .string (S (whole s))] := by rw [← hD, e1]; show wrs (d.W ++ [(i.toNat, whole s)]) = _; rw [wrs_append]; simp [wrs, hin]
      have hDl : D.W.length = d.W.length + 1 := by rw [← hD, e1]; simp
      have hDL : D.L = d.L := by rw [← hD, e1]; exact e3
      have hRV : RV (.slice a0 d.L.length c0) (.slice a1 d.W.length c1) d.begin = .agg #[.slice a0 d.L.length c0, .slice a1 d.W.length c1, .int .i64 (rleft D), .bool D.down, .int .i64 (D.calls : Int)] := by rw [← hD, e1]; rfl
      rw [e2, hD]
      rw [decide_eq_false ho, hRV] at HCALL
      have HFIN : Hid (∀ (e : Ending) (v' : Value) (w' : World), e = .returned (.tuple #[RV (.slice a0 d.L.length c0) v' D, .int .i64 0]) → w'.ownsRow w.heap.size 68 2 v' (d.W.length + 1) (wrs d.W ++ [.int .i64 i, .string (S (whole s))]) → Below w.heap.size w w' → ∃ cv', e = .returned (.tuple #[RV (.slice a0 d.L.length c0) cv' D, .int .i64 0]) ∧ RIs base w' (.slice a0 d.L.length c0) cv' D ∧ (∀ k, cv'.ownBlock = some k → (Value.slice a1 d.W.length c1).ownBlock = some k ∨ w.heap.size ≤ k) ∧ Below w.heap.size w w') :=
        fun e v' w' he hrow hb => ⟨v', he, ⟨by rw [hDL]; exact ownsRow_later (unhide HH).sec hb, by rw [hDW, hDl]; exact ownsRow_less hrow hB⟩, fun k hk => Or.inr (hrow.lt k hk).1, hb⟩
      have hfiE := (unhide HFI)
      obtain ⟨zs, hzs⟩ : ∃ zs, whole s = zs := ⟨_, rfl⟩
      rw [hzs] at HFI HFIN
      unfold RV at HFIN HCALL ⊢
      generalize rleft d = z at *
      generalize rleft D = zb at *
      generalize D.down = db at *
      generalize D.calls = dc at *
      have HLO := hide h.loo
      clear h hno e1 e2 e3 ha0 ha1 ho hDW hDl hDL hRV hD hfiE hzs hin
      go_enter Try.func12, Try.ntmps12
      go_wp2_with fail
      refine (unhide HCALL _).mono ?_
      rintro e w1 ⟨rfl, hb1⟩
      obtain ⟨hx1, hx2, hs1, hb2⟩ := two_new hb1
      obtain ⟨X, hX⟩ : ∃ X : Obj, X = .cells #[.slice a0 d.L.length c0, .slice a1 d.W.length c1, .int .i64 zb, .bool db, .int .i64 (dc : Int)] 31 (0, 0) := ⟨_, rfl⟩
      have hbX : Below w1.heap.size w1 (w1.alloc X) := (Below.refl _ _).alloc (Nat.le_refl _) _
      obtain ⟨ga, gc, w2, hrun1, ho2, hb3⟩ := run_copy_all (P := Try.prog) (w1.alloc X) base 29 29 68 i0 (.agg #[.int .i64 0, .string ⟨#[]⟩]) 2 24 under_rwrites hi hz0 hz1 hz2 rfl (by decide) (.slice a1 d.W.length c1) d.W.length (wrs d.W) (ownsRow_later (ownsRow_later (unhide HLO) hb2) hbX) (wrs_one d.W) (by unfold maxLen; omega) (by omega)
      have hs3 := hb3.size
      simp only [World.size_alloc] at hs3 ho2 hb3 hrun1
      obtain ⟨v3, w3, hrun2, ho3, hg3, _⟩ := run_append_fresh (P := Try.prog) (w2.alloc (.cells #[.int .i64 i, .string (S zs)] 68)) (w1.heap.size + 1) 29 29 68 i0 (.agg #[.int .i64 0, .string ⟨#[]⟩]) 2 24 under_rwrites hi hz0 hz1 hz2 rfl (by decide) (.slice (some ga) d.W.length gc) d.W.length (wrs d.W) (ho2.alloc _) ⟨w2.heap.size, 0, none⟩ 1 1 [.int .i64 i, .string (S zs)] rfl (fun j x hx => by exact cell_two_new _ _ _ _ j x hx) (by intro u hu; simp at hu; rcases hu with rfl | rfl <;> rfl) (by unfold maxLen; omega) (by omega) (by simp; omega)
      have hb4 : Below (w1.heap.size + 1) (w1.alloc X) w3 := (hb3.alloc (by omega) _).grown hg3 (by simp; omega) (fun j hj => (ho2.lt j hj).1)
      obtain ⟨M, hM⟩ : ∃ M, w.heap.size = M := ⟨_, rfl⟩
      obtain ⟨N, hN⟩ : ∃ N, M + 1 = N := ⟨_, rfl⟩
      obtain ⟨Y, hY⟩ : ∃ Y, w1.heap.size = Y := ⟨_, rfl⟩
      rw [hM] at hx1 hx2 hs1 hb2
      rw [hN] at hx2
      rw [hY] at hs1 hs3 ho2 hb3 hrun1 ho3 hb4
      have hzY : (w1.alloc X).heap[Y]? = some X := by rw [← hY]; exact heap_alloc_new w1 X
      have hz3 : w3.heap[Y]? = some X := (hb4.block Y (by omega)).trans hzY
      have hn3 : w3.heap[N]? = some _ := (hb4.block N (by omega)).trans ((hbX.block N (by omega)).trans hx2)
      have hm1 : w1.heap[M]? = some _ := hx1
      obtain ⟨p0, p1, p2, p3, p4⟩ := cells5 hm1
      obtain ⟨a3, c3, rfl, _⟩ := ownsRow_slice ho3
      rw [hX] at hz3
      obtain ⟨r0, r1, r2, r3, r4⟩ := cells5 hz3
      obtain ⟨g0, g1, g2, g3, g4⟩ := frozen5 hz3
      obtain ⟨t0, t1, t2, t3, t4⟩ := cells5 hn3
      obtain ⟨f0, f1, f2, f3, f4⟩ := frozen5 hn3
      have HRUN1 := hide hrun1
      have HRUN2 := hide hrun2
      have HB4 := hide hb4
      have HB2 := hide hb2
      have HO3 := hide ho3
      have HZ3 := hide hz3
      have HN3 := hide hn3
      have hMlt : M < w1.heap.size := by omega
      have pa : ∀ o o', ((w1.alloc o).alloc o').cell? ⟨M, 1, none⟩ = some (.slice a1 d.W.length c1) := fun o o' => ((((Below.refl _ w1).alloc (Nat.le_refl _) o).alloc (by simp) o').cell (p := ⟨M, 1, none⟩) hMlt).trans p1
      have hne : N ≠ Y := by omega
      have hne' : Y ≠ N := by omega
      subst hX
      clear hrun1 hrun2 ho2 hb3 ho3 hg3 hb4 hz3 hn3 hm1 hx1 hx2 hb1 hbX hzY HCALL HLO hb2
      rw [hM, hN]
      go_wp2_with (first | (at_builtin; refine wpList_append_is rfl _ _ 29 rfl _ _ _ _ rfl rfl (unhide HRUN1) ?_) | fail)
      clear HRUN1 pa
      go_wp2_with fail
      refine (unhide HFI w2).mono ?_
      rintro e wq ⟨rfl, rfl⟩
      go_wp2_with (first | (at_builtin; refine wpList_append_is rfl _ _ 29 rfl _ _ _ _ rfl rfl (unhide HRUN2) ?_) | fail)
      clear HRUN2
      go_wp2_with fail
      have hn4 : (w3.setCell ⟨Y, 1, none⟩ (.slice a3 (d.W.length + 1) c3)).heap[N]? = some _ := (heap_setCell_other w3 ⟨Y, 1, none⟩ N _ hne).trans (unhide HN3)
      have hq := put5_same (a' := .slice a0 d.L.length c0) (b' := .slice a3 (d.W.length + 1) c3) (c' := .int .i64 zb) (d' := .bool db) (e' := .int .i64 (dc : Int)) hn4
      obtain ⟨q0, q1, q2, q3, q4⟩ := cells5 hq
      have hb5 : Below w.heap.size w (put5 (w3.setCell ⟨Y, 1, none⟩ (.slice a3 (d.W.length + 1) c3)) N (.slice a0 d.L.length c0) (.slice a3 (d.W.length + 1) c3) (.int .i64 zb) (.bool db) (.int .i64 (dc : Int))) := by
        rw [hM]
        refine below_put5 (Below.setCell (p := ⟨Y, 1, none⟩) ?_ (show M ≤ Y by omega) _) (by omega) _ _ _ _ _
        exact ((unhide HB2).alloc (by omega) _).trans ((unhide HB4).mono (by omega))
      have hrow : (put5 (w3.setCell ⟨Y, 1, none⟩ (.slice a3 (d.W.length + 1) c3)) N (.slice a0 d.L.length c0) (.slice a3 (d.W.length + 1) c3) (.int .i64 zb) (.bool db) (.int .i64 (dc : Int))).ownsRow w.heap.size 68 2 (.slice a3 (d.W.length + 1) c3) (d.W.length + 1) (wrs d.W ++ [.int .i64 i, .string (S zs)]) := by
        refine ownsRow_less (ownsRow_same (unhide HO3) fun k hk => ?_) (by omega)
        have := ((unhide HO3).lt k hk).1
        rw [put5_other _ _ _ _ _ (by omega), heap_setCell_other w3 ⟨Y, 1, none⟩ k _ (show k ≠ Y by omega)]
      unfold put5 at q0 q1 q2 q3 q4 hb5 hrow
      exact bodyPost_ret (v := .tuple #[.agg #[.slice a0 d.L.length c0, .slice a3 (d.W.length + 1) c3, .int .i64 zb, .bool db, .int .i64 (dc : Int)], .int .i64 0]) (by simp [results, Try.results12, go_sem, q0, q1, q2, q3, q4]) rfl (unhide HFIN _ _ _ rfl hrow hb5)
end Go.Proofs.Ytbggjkokfbcbcaa
