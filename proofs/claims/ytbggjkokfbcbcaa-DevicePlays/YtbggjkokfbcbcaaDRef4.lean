/- The contract of the reference's Flush. -/
import Derived.Test.YtbggjkokfbcbcaaDRef3
namespace Go.Proofs.Ytbggjkokfbcbcaa
open Go.RowKit
set_option linter.unusedVariables false

set_option maxHeartbeats 3200000 in
theorem rflush_any {base : Nat} {w : World} {lv cv : Value} {d : Dev} (h : RIs base w lv cv d) (hok : d.Ok) (hl : d.left < 9223372036854775808) (hc : d.calls < 4611686018427387904) (hn : d.W.length ≤ 1099511627) (hm : d.L.length ≤ 1099511627) (hB : base ≤ w.heap.size) :
    Calls Try.prog 14 #[RV lv cv d] w fun e w' => ∃ lv' cv', e = .returned (.tuple #[RV lv' cv' d.flush, .int .i64 d.flushE]) ∧ RIs base w' lv' cv' d.flush ∧ (∀ k, lv'.ownBlock = some k → lv.ownBlock = some k ∨ w.heap.size ≤ k) ∧ (∀ k, cv'.ownBlock = some k → cv.ownBlock = some k ∨ w.heap.size ≤ k) ∧ Below w.heap.size w w' := by
  obtain ⟨a0, c0, rfl, ha0⟩ := ownsRow_slice h.sec
  obtain ⟨a1, c1, rfl, ha1⟩ := ownsRow_slice h.loo
  have HH := hide h
  have HCALL := hide (fun w => rcall_any a0 d.L.length c0 a1 d.W.length c1 d w hl hc)
  by_cases ho : d.out
  · have e1 : d.flush = d.begin := by unfold Dev.flush; rw [if_pos ho]
    have e2 : d.flushE = 16 := by unfold Dev.flushE; rw [if_pos ho]
    have e3 : d.begin.L = d.L ∧ d.begin.W = d.W := by unfold Dev.begin; rw [if_pos ho]; exact ⟨rfl, rfl⟩
    rw [e1, e2]
    rw [decide_eq_true ho] at HCALL
    have HFIN : Hid (∀ (e : Ending) (w' : World), e = .returned (.tuple #[RV (.slice a0 d.L.length c0) (.slice a1 d.W.length c1) d.begin, .int .i64 16]) → Below w.heap.size w w' → ∃ lv' cv', e = .returned (.tuple #[RV lv' cv' d.begin, .int .i64 16]) ∧ RIs base w' lv' cv' d.begin ∧ (∀ k, lv'.ownBlock = some k → (Value.slice a0 d.L.length c0).ownBlock = some k ∨ w.heap.size ≤ k) ∧ (∀ k, cv'.ownBlock = some k → (Value.slice a1 d.W.length c1).ownBlock = some k ∨ w.heap.size ≤ k) ∧ Below w.heap.size w w') :=
      fun e w' he hb => ⟨_, _, he, by
        have := (unhide HH).later hb
        exact ⟨by rw [e3.1]; exact this.sec, by rw [e3.2]; exact this.loo⟩, fun k hk => Or.inl hk, fun k hk => Or.inl hk, hb⟩
    generalize hdb : d.begin = db at *
    unfold RV at HFIN HCALL ⊢
    generalize rleft db = zb at *
    generalize rleft d = z at *
    clear h e1 e2 e3 ha0 ha1 hdb ho hok
    go_enter Try.func14, Try.ntmps14
    go_wp2_with fail
    refine (unhide HCALL _).mono ?_
    rintro e w1 ⟨rfl, hb1⟩
    obtain ⟨hx1, hx2, hs1, hb2⟩ := two_new hb1
    obtain ⟨p0, p1, p2, p3, p4⟩ := cells5 hx2
    obtain ⟨f0, f1, f2, f3, f4⟩ := frozen5 hx2
    have HX := hide hx2
    have HB := hide hb2
    obtain ⟨N, hN⟩ : ∃ N, w.heap.size + 1 = N := ⟨_, rfl⟩
    have hNlt : N < w1.heap.size := by omega
    have hNlo : w.heap.size ≤ N := by omega
    rw [hN] at p0 p1 p2 p3 p4 f0 f1 f2 f3 f4 HX ⊢
    have HNN := hide hN
    clear hb1 hx1 hx2 hb2 HCALL hN
    go_wp2_with fail
    have hq := put5_same (a' := .slice a0 d.L.length c0) (b' := .slice a1 d.W.length c1) (c' := .int .i64 zb) (d' := .bool db.down) (e' := .int .i64 (db.calls : Int)) (unhide HX)
    obtain ⟨q0, q1, q2, q3, q4⟩ := read5 hq (.cells #[.slice a0 d.L.length c0, .slice a1 d.W.length c1, .int .i64 zb, .bool db.down, .int .i64 (db.calls : Int)] 31)
    have hb3 : Below w.heap.size w ((put5 w1 N (.slice a0 d.L.length c0) (.slice a1 d.W.length c1) (.int .i64 zb) (.bool db.down) (.int .i64 (db.calls : Int))).alloc (.cells #[.slice a0 d.L.length c0, .slice a1 d.W.length c1, .int .i64 zb, .bool db.down, .int .i64 (db.calls : Int)] 31)) := (below_put5 (unhide HB) (by omega) _ _ _ _ _).alloc (by rw [put5_size]; omega) _
    unfold put5 at q0 q1 q2 q3 q4 hb3
    exact bodyPost_ret (v := .tuple #[.agg #[.slice a0 d.L.length c0, .slice a1 d.W.length c1, .int .i64 zb, .bool db.down, .int .i64 (db.calls : Int)], .int .i64 16]) (by simp [results, Try.results14, go_sem, q0, q1, q2, q3, q4]) rfl (unhide HFIN _ _ rfl hb3)
  · have e1 : d.flush = { d.begin with L := lay d.L d.W, W := [] } := by unfold Dev.flush; rw [if_neg ho]
    have e2 : d.flushE = 0 := by unfold Dev.flushE; rw [if_neg ho]
    obtain ⟨D, hD⟩ : ∃ D, d.flush = D := ⟨_, rfl⟩
    have hDW : D.W = [] := by rw [← hD, e1]
    have hDL : D.L = lay d.L d.W := by rw [← hD, e1]
    have hRV : RV (.slice a0 d.L.length c0) (.slice a1 d.W.length c1) d.begin = .agg #[.slice a0 d.L.length c0, .slice a1 d.W.length c1, .int .i64 (rleft D), .bool D.down, .int .i64 (D.calls : Int)] := by rw [← hD, e1]; rfl
    rw [e2, hD]
    rw [decide_eq_false ho, hRV] at HCALL
    have HFIN : Hid (∀ (e : Ending) (v' : Value) (w' : World), e = .returned (.tuple #[RV v' (.slice none 0 0) D, .int .i64 0]) → w'.ownsRow w.heap.size 9 1 v' d.L.length (secs (lay d.L d.W)) → Below w.heap.size w w' → ∃ lv' cv', e = .returned (.tuple #[RV lv' cv' D, .int .i64 0]) ∧ RIs base w' lv' cv' D ∧ (∀ k, lv'.ownBlock = some k → (Value.slice a0 d.L.length c0).ownBlock = some k ∨ w.heap.size ≤ k) ∧ (∀ k, cv'.ownBlock = some k → (Value.slice a1 d.W.length c1).ownBlock = some k ∨ w.heap.size ≤ k) ∧ Below w.heap.size w w') :=
      fun e v' w' he hrow hb => ⟨v', _, he, ⟨by rw [hDL, lay_length]; exact ownsRow_less hrow hB, by rw [hDW]; exact World.ownsRow_nil _ _ _ _⟩, fun k hk => Or.inr (hrow.lt k hk).1, fun k hk => (by cases hk), hb⟩
    have HLAST := hide (fun wx (hb : Below w.heap.size w wx) => last_any (ownsRow_later h.sec hb) (ownsRow_later h.loo hb) hok.has (by omega) (by omega))
    unfold RV at HFIN HCALL ⊢
    generalize rleft d = z at *
    generalize rleft D = zb at *
    generalize D.down = db at *
    generalize D.calls = dc at *
    clear h e1 e2 ha0 ha1 ho hDW hDL hRV hD hok
    go_enter Try.func14, Try.ntmps14
    go_wp2_with fail
    refine (unhide HCALL _).mono ?_
    rintro e w1 ⟨rfl, hb1⟩
    obtain ⟨hx1, hx2, hs1, hb2⟩ := two_new hb1
    obtain ⟨M, hM⟩ : ∃ M, w.heap.size = M := ⟨_, rfl⟩
    obtain ⟨N, hN⟩ : ∃ N, M + 1 = N := ⟨_, rfl⟩
    obtain ⟨Y, hY⟩ : ∃ Y, w1.heap.size = Y := ⟨_, rfl⟩
    rw [hM] at hx1 hx2 hs1 hb2
    rw [hN] at hx2
    rw [hY] at hs1
    have hMlt : M < w1.heap.size := by omega
    obtain ⟨p0, p1, p2, p3, p4⟩ := cells5 hx1
    have pa0 : ∀ o, (w1.alloc o).cell? ⟨M, 0, none⟩ = some (.slice a0 d.L.length c0) := fun o => (((Below.refl _ w1).alloc (Nat.le_refl _) o).cell (p := ⟨M, 0, none⟩) hMlt).trans p0
    have pa1 : ∀ o, (w1.alloc o).cell? ⟨M, 1, none⟩ = some (.slice a1 d.W.length c1) := fun o => (((Below.refl _ w1).alloc (Nat.le_refl _) o).cell (p := ⟨M, 1, none⟩) hMlt).trans p1
    have HB2 := hide hb2
    have HX2 := hide hx2
    have HL2 := hide (fun o => unhide HLAST (w1.alloc o) (by rw [hM]; exact hb2.alloc (by omega) o))
    clear hb1 hx1 hx2 hb2 HCALL HLAST
    rw [hM, hN]
    go_wp2_with fail
    refine (unhide HL2 _).mono ?_
    rintro e w2 ⟨v2, rfl, ho2, hb3⟩
    have hs3 := hb3.size
    rw [World.size_alloc, hY] at hs3
    have hz := (hb3.block w1.heap.size (by simp)).trans (heap_alloc_new w1 _)
    rw [hY] at hz
    have hn2 := (hb3.block N (by simp; omega)).trans ((Below.heap_alloc w1 _ N (by omega)).trans (unhide HX2))
    obtain ⟨a3, c3, rfl, _⟩ := ownsRow_slice ho2
    obtain ⟨r0, r1, r2, r3, r4⟩ := cells5 hz
    obtain ⟨g0, g1, g2, g3, g4⟩ := frozen5 hz
    obtain ⟨t0, t1, t2, t3, t4⟩ := cells5 hn2
    obtain ⟨f0, f1, f2, f3, f4⟩ := frozen5 hn2
    have hne : N ≠ Y := by omega
    have hne' : Y ≠ N := by omega
    rw [World.size_alloc, hY] at ho2 hb3
    have HO2 := hide ho2
    have HB3 := hide hb3
    have HN2 := hide hn2
    clear pa0 pa1 p0 p1 p2 p3 p4 hz hn2 ho2 hb3 HL2 HX2
    go_wp2_with fail
    have hn4 : ((w2.setCell ⟨Y, 0, none⟩ (.slice a3 d.L.length c3)).setCell ⟨Y, 1, none⟩ (.slice none 0 0)).heap[N]? = some _ := (heap_setCell_other _ ⟨Y, 1, none⟩ N _ hne).trans ((heap_setCell_other w2 ⟨Y, 0, none⟩ N _ hne).trans (unhide HN2))
    have hq := put5_same (a' := .slice a3 d.L.length c3) (b' := .slice none 0 0) (c' := .int .i64 zb) (d' := .bool db) (e' := .int .i64 (dc : Int)) hn4
    obtain ⟨q0, q1, q2, q3, q4⟩ := cells5 hq
    have hb5 : Below w.heap.size w (put5 ((w2.setCell ⟨Y, 0, none⟩ (.slice a3 d.L.length c3)).setCell ⟨Y, 1, none⟩ (.slice none 0 0)) N (.slice a3 d.L.length c3) (.slice none 0 0) (.int .i64 zb) (.bool db) (.int .i64 (dc : Int))) := by
      rw [hM]
      refine below_put5 (Below.setCell (p := ⟨Y, 1, none⟩) (Below.setCell (p := ⟨Y, 0, none⟩) ?_ (show M ≤ Y by omega) _) (show M ≤ Y by omega) _) (by omega) _ _ _ _ _
      exact ((unhide HB2).alloc (by omega) _).trans ((unhide HB3).mono (by omega))
    have hrow : (put5 ((w2.setCell ⟨Y, 0, none⟩ (.slice a3 d.L.length c3)).setCell ⟨Y, 1, none⟩ (.slice none 0 0)) N (.slice a3 d.L.length c3) (.slice none 0 0) (.int .i64 zb) (.bool db) (.int .i64 (dc : Int))).ownsRow w.heap.size 9 1 (.slice a3 d.L.length c3) d.L.length (secs (lay d.L d.W)) := by
      refine ownsRow_less (ownsRow_same (unhide HO2) fun k hk => ?_) (by omega)
      have := ((unhide HO2).lt k hk).1
      rw [put5_other _ _ _ _ _ (by omega), heap_setCell_other _ ⟨Y, 1, none⟩ k _ (show k ≠ Y by omega), heap_setCell_other w2 ⟨Y, 0, none⟩ k _ (show k ≠ Y by omega)]
    unfold put5 at q0 q1 q2 q3 q4 hb5 hrow
    exact bodyPost_ret (v := .tuple #[.agg #[.slice a3 d.L.length c3, .slice none 0 0, .int .i64 zb, .bool db, .int .i64 (dc : Int)], .int .i64 0]) (by simp [results, Try.results14, go_sem, q0, q1, q2, q3, q4]) rfl (unhide HFIN _ _ _ rfl hrow hb5)
end Go.Proofs.Ytbggjkokfbcbcaa
