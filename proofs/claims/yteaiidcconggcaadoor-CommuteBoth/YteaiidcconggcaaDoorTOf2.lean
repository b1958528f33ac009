/- The law's Of: some call that may be asked. -/
import Derived.Test.YteaiidcconggcaaDoorBundleT7
import Derived.Test.YteaiidcconggcaaDoorBundleA8
namespace Go.Proofs.YteaiidcconggcaaDoor
open Go.RowKit
set_option linter.unusedVariables false
set_option maxRecDepth 100000

theorem put4c_cells {w : World} {N : Nat} {a0 b0 c0 d0 : Value} {t : TypeId} (h : w.heap[N]? = some (.cells #[a0, b0, c0, d0] t (0, 0))) (a b c d : Value) : (put4c w N a b c d).heap[N]? = some (.cells #[a, b, c, d] t (0, 0)) := by
  have f1 := heap_setCell_same w N 0 _ _ a h
  have f2 := heap_setCell_same _ N 1 _ _ b f1
  have f3 := heap_setCell_same _ N 2 _ _ c f2
  have f4 := heap_setCell_same _ N 3 _ _ d f3
  unfold put4c put3
  simpa [Array.setIfInBounds] using f4
theorem cell4 {w : World} {N : Nat} {a b c d : Value} {t : TypeId} (h : w.heap[N]? = some (.cells #[a, b, c, d] t (0, 0))) : w.cell? ⟨N, 0, none⟩ = some a ∧ w.cell? ⟨N, 1, none⟩ = some b ∧ w.cell? ⟨N, 2, none⟩ = some c ∧ w.cell? ⟨N, 3, none⟩ = some d ∧ ∀ j, w.frozen? ⟨N, j, none⟩ = false := by
  refine ⟨?_, ?_, ?_, ?_, fun j => block_frozen h j⟩ <;> rw [block_cell h] <;> rfl
theorem cell3 {w : World} {N : Nat} {a b c : Value} {t : TypeId} (h : w.heap[N]? = some (.cells #[a, b, c] t (0, 0))) : w.cell? ⟨N, 0, none⟩ = some a ∧ w.cell? ⟨N, 1, none⟩ = some b ∧ w.cell? ⟨N, 2, none⟩ = some c ∧ ∀ j, w.frozen? ⟨N, j, none⟩ = false := by
  refine ⟨?_, ?_, ?_, fun j => block_frozen h j⟩ <;> rw [block_cell h] <;> rfl

structure Ofx (w : World) (kd n : Int) (sl : Value) (tS tC tR tX : TypeId) (N : Nat) (op : Int) (ca cb : ByteArray) (cn : Int) (V : MC) (wr : World) : Prop where
  low : Below w.heap.size w wr
  st : wr.heap[w.heap.size]? = some (.cells #[.int .i64 kd, .int .i64 n, sl] tS (0, 0))
  c : wr.heap[w.heap.size + 1]? = some (.cells #[.int .i64 op, .string ca, .string cb, .int .i64 cn] tC (0, 0))
  res : wr.heap[w.heap.size + 1 + 1]? = some (.cells #[.int .i64 0, .string ⟨#[]⟩, .string ⟨#[]⟩, .int .i64 0] tR (0, 0))
  x : wr.heap[N]? = some (.cells #[.int .i64 V.op, .string (S V.a), .string (S V.b), .int .i64 V.n] tX (0, 0))
  far : w.heap.size + 1 + 1 < N
section
variable {w wr w' : World} {kd n op cn : Int} {sl : Value} {tS tC tR tX : TypeId} {N : Nat} {ca cb : ByteArray} {V : MC}
theorem Ofx.later (h : Ofx w kd n sl tS tC tR tX N op ca cb cn V wr) (hb : Below wr.heap.size wr w') : Ofx w kd n sl tS tC tR tX N op ca cb cn V w' :=
  ⟨h.low.trans (hb.mono h.low.size), (hb.block _ (block_lt h.st)).trans h.st, (hb.block _ (block_lt h.c)).trans h.c, (hb.block _ (block_lt h.res)).trans h.res, (hb.block _ (block_lt h.x)).trans h.x, h.far⟩
theorem Ofx.drew (h : Ofx w kd n sl tS tC tR tX N op ca cb cn V wr) : Ofx w kd n sl tS tC tR tX N op ca cb cn V wr.drew := h.later ((Below.refl _ _).drew)
theorem Ofx.cells (w : World) (kd n op cn : Int) (sl : Value) (tS tC tR tX : TypeId) (N : Nat) (ca cb : ByteArray) (V : MC) :
    (∀ w1, Ofx w kd n sl tS tC tR tX N op ca cb cn V w1 → w1.cell? ⟨w.heap.size, 0, none⟩ = some (.int .i64 kd)) ∧ (∀ w1, Ofx w kd n sl tS tC tR tX N op ca cb cn V w1 → w1.cell? ⟨N, 0, none⟩ = some (.int .i64 V.op)) :=
  ⟨fun w1 h => (cell3 h.st).1, fun w1 h => (cell4 h.x).1⟩
/- The call's op is written. -/
theorem Ofx.setOp (h : Ofx w kd n sl tS tC tR tX N op ca cb cn V wr) (o : Int) : Ofx w kd n sl tS tC tR tX N o ca cb cn V (wr.setCell ⟨w.heap.size + 1, 0, none⟩ (.int .i64 o)) := by
  have ho (j : Nat) (hj : j ≠ w.heap.size + 1) : (wr.setCell ⟨w.heap.size + 1, 0, none⟩ (.int .i64 o)).heap[j]? = wr.heap[j]? := heap_setCell_other _ ⟨w.heap.size + 1, 0, none⟩ _ _ hj
  have hf := h.far
  refine ⟨⟨h.low.os, h.low.tape, h.low.output, by simpa using h.low.size, fun j hj => by rw [ho _ (by omega)]; exact h.low.block j hj⟩, by rw [ho _ (by omega)]; exact h.st, ?_, by rw [ho _ (by omega)]; exact h.res, by rw [ho _ (by omega)]; exact h.x, hf⟩
  have := heap_setCell_same wr (w.heap.size + 1) 0 _ _ (.int .i64 o) h.c
  simpa [Array.setIfInBounds] using this
/- The new call is written. -/
theorem Ofx.put (h : Ofx w kd n sl tS tC tR tX N op ca cb cn V wr) (V' : MC) : Ofx w kd n sl tS tC tR tX N op ca cb cn V' (put4c wr N (.int .i64 V'.op) (.string (S V'.a)) (.string (S V'.b)) (.int .i64 V'.n)) := by
  have hf := h.far
  exact ⟨⟨h.low.os, h.low.tape, h.low.output, by rw [put4c_size]; exact h.low.size, fun j hj => by rw [put4c_other _ _ _ _ _ (by omega)]; exact h.low.block j hj⟩, by rw [put4c_other _ _ _ _ _ (by omega)]; exact h.st, by rw [put4c_other _ _ _ _ _ (by omega)]; exact h.c, by rw [put4c_other _ _ _ _ _ (by omega)]; exact h.res, put4c_cells h.x _ _ _ _, hf⟩
theorem Ofx.done (h : Ofx w kd n sl tS tC tR tX N op ca cb cn V wr) (a b c d : Value) : (put4c wr (w.heap.size + 1 + 1) a b c d).cell? ⟨w.heap.size + 1 + 1, 0, none⟩ = some a ∧ (put4c wr (w.heap.size + 1 + 1) a b c d).cell? ⟨w.heap.size + 1 + 1, 1, none⟩ = some b ∧ (put4c wr (w.heap.size + 1 + 1) a b c d).cell? ⟨w.heap.size + 1 + 1, 2, none⟩ = some c ∧ (put4c wr (w.heap.size + 1 + 1) a b c d).cell? ⟨w.heap.size + 1 + 1, 3, none⟩ = some d ∧ Below w.heap.size w (put4c wr (w.heap.size + 1 + 1) a b c d) := by
  obtain ⟨g0, g1, g2, g3, _⟩ := cell4 (put4c_cells h.res a b c d)
  exact ⟨g0, g1, g2, g3, ⟨h.low.os, h.low.tape, h.low.output, by rw [put4c_size]; exact h.low.size, fun j hj => by rw [put4c_other _ _ _ _ _ (by omega)]; exact h.low.block j hj⟩⟩
end

set_option maxHeartbeats 12800000 in
theorem of_any {w : World} {v : Value} {s : VS} (h : StAt w v s) (op : Int) (ca cb : ByteArray) (cn : Int) (hop : I64 op) (hn : I64 cn) (hca : ca.size ≤ maxLen) (hcb : cb.size ≤ maxLen) :
    Calls Tryd.prog 10 #[v, .agg #[.int .i64 op, .string ca, .string cb, .int .i64 cn]] w fun e w' => ∃ V : MC, e = .returned (mcV V) ∧ V.may ∧ Below w.heap.size w w' := by
  have HTI := hide (fun (w1 : World) (o : Int) (ho : I64 o) => mtidy_any (w := w1) o ca cb cn ho hn hca hcb)
  have HKI := hide (fun (w1 : World) (o : Int) (ho : okOp o) => rkind_any (w := w1) o ho)
  obtain ⟨k0, rfl, hr⟩ := h
  obtain ⟨a, c, rfl, hc, hm⟩ := hr.shape
  obtain ⟨kd, n, rows⟩ := s
  dsimp only at *
  clear hr
  go_enter Tryd.func10, Tryd.ntmps10
  go_wp2_with fail
  refine (unhide HTI _ op hop).mono ?_
  rintro e w1 ⟨V, rfl, hV, hb⟩
  unfold mcV
  have HST : Hid (Ofx w kd n (.slice a rows.length c) 38 24 29 29 w1.heap.size op ca cb cn V (w1.alloc (.cells #[.int .i64 V.op, .string (S V.a), .string (S V.b), .int .i64 V.n] 29))) := by
    have hx := (B3.start w (.cells #[.int .i64 kd, .int .i64 n, .slice a rows.length c] 38) (.cells #[.int .i64 op, .string ca, .string cb, .int .i64 cn] 24) (.cells #[.int .i64 0, .string ⟨#[]⟩, .string ⟨#[]⟩, .int .i64 0] 29)).below hb
    obtain ⟨g1, g2, g3⟩ := hx.heap
    have hs := hx.size
    exact ⟨hx.low.alloc hx.low.size _, (Below.heap_alloc _ _ _ (by omega)).trans g1, (Below.heap_alloc _ _ _ (by omega)).trans g2, (Below.heap_alloc _ _ _ (by omega)).trans g3, heap_alloc_new w1 _, by omega⟩
  have HV0 := hide hV
  have HOP0 := hide hop
  clear hb hV hop
  go_wp2_with fail
  obtain ⟨cS, cX⟩ : (∀ (o : Int) (U : MC) wz, Ofx w kd n (.slice a rows.length c) 38 24 29 29 w1.heap.size o ca cb cn U wz → wz.cell? ⟨w.heap.size, 0, none⟩ = some (.int .i64 kd)) ∧ (∀ (o : Int) (U : MC) wz, Ofx w kd n (.slice a rows.length c) 38 24 29 29 w1.heap.size o ca cb cn U wz → wz.cell? ⟨w1.heap.size, 0, none⟩ = some (.int .i64 U.op)) := ⟨fun o U => (Ofx.cells w kd n o cn _ _ _ _ _ w1.heap.size ca cb U).1, fun o U => (Ofx.cells w kd n o cn _ _ _ _ _ w1.heap.size ca cb U).2⟩
  go_loopw [8] (fun i wr => ∃ (k : Nat) (o : Int) (U : MC), k ≤ 17 ∧ i = .int .i64 (k : Int) ∧ U.may ∧ I64 o ∧ Ofx w kd n (.slice a rows.length c) 38 24 29 29 w1.heap.size o ca cb cn U wr) (fun i _ => 17 - (intOf i).toNat)
  case atStart => exact ⟨0, op, V, by omega, rfl, unhide HV0, unhide HOP0, unhide HST⟩
  case round =>
    obtain ⟨k, o, U, hk, rfl, hU, ho, hx⟩ := hrel
    have HU := hide hU
    have hUop := MC.may_op hU
    clear hU ho HST HV0 HOP0
    by_cases hlt : k < 17
    · have hi1 : (k : Int) < 17 := by omega
      have dS := cS o U
      have dX := cX o U
      have hxd := hx.drew
      have HKU := hide (fun wz => unhide HKI wz U.op hUop)
      obtain ⟨K, hK⟩ : ∃ K, (mfact U.op).kind = K := ⟨_, rfl⟩
      rw [hK] at HKU
      clear hK cS cX HKI
      go_wp2_with fail
      go_region_held3 (fun w' => Ofx w kd n (.slice a rows.length c) 38 24 29 29 w1.heap.size o ca cb cn U w') (with_reducible (first | exact hxd | exact hx | (refine Ofx.later ?_ (by assumption) <;> assumption)))
        (first | (go_at_call 11; refine (unhide HKU _).mono ?_; rintro e wm ⟨rfl, hbm⟩) | fail)
      have hxm : Ofx w kd n (.slice a rows.length c) 38 24 29 29 w1.heap.size o ca cb cn U wm := by assumption
      clear hbm hx hxd HKU dS dX
      by_cases hk2 : K = kd
      · have e1 : (K == kd) = true := by rw [beq_iff_eq]; exact hk2
        obtain ⟨d0, d1, d2, d3, _⟩ := cell4 hxm.x
        obtain ⟨y0, y1, y2, y3, fz⟩ := cell4 hxm.res
        obtain ⟨z0, z1, z2, z3, zl⟩ := hxm.done (.int .i64 U.op) (.string (S U.a)) (.string (S U.b)) (.int .i64 U.n)
        unfold put4c put3 at z0 z1 z2 z3 zl
        have ZL := hide zl
        clear zl hxm hk2
        go_wp2_with fail
        exact bodyPost_ret (v := .agg #[.int .i64 U.op, .string (S U.a), .string (S U.b), .int .i64 U.n]) (by simp [results, Tryd.results10, go_sem, z0, z1, z2, z3]) rfl ⟨U, rfl, unhide HU, unhide ZL⟩
      · have e1 : (K == kd) = false := by rw [beq_eq_false_iff_ne]; exact hk2
        obtain ⟨p, hp⟩ : ∃ p, U.op + 1 = p := ⟨_, rfl⟩
        have hpI : I64 p := by unfold I64; unfold okOp at hUop; omega
        have hwp : IntKind.i64.wrap (U.op + 1) = p := by rw [IntKind.wrap_i64]; unfold okOp at hUop; omega
        obtain ⟨d0, _⟩ := cell4 hxm.x
        obtain ⟨y0, y1, y2, y3, fz⟩ := cell4 hxm.c
        have hxo := hxm.setOp p
        have HXO := hide hxo
        have HPI := hide hpI
        clear hxm hk2 hpI hxo hp
        go_upto_region 7 with fail
        obtain ⟨w3, hw3⟩ : ∃ w3, wm.setCell ⟨w.heap.size + 1, 0, none⟩ (.int .i64 p) = w3 := ⟨_, rfl⟩
        rw [hw3] at HXO ⊢
        clear hw3 y0 y1 y2 y3 fz d0
        obtain ⟨y0, y1, y2, y3, _⟩ := cell4 (unhide HXO).c
        go_wp2_with fail
        refine (unhide HTI _ p (unhide HPI)).mono ?_
        rintro e w4 ⟨U2, rfl, hU2, hb4⟩
        have hx4 := (unhide HXO).later hb4
        obtain ⟨q0, q1, q2, q3, fq⟩ := cell4 hx4.x
        have HXP := hide (hx4.put U2)
        have HU2 := hide hU2
        unfold put4c put3 at HXP
        clear hx4 hb4 hU2 HXO HTI y0 y1 y2 y3
        unfold mcV
        go_wp2_with fail
        go_roundw
        case rel => exact ⟨k + 1, p, U2, by omega, by go_num, unhide HU2, unhide HPI, unhide HXP⟩
        case measure => simp [intOf]; omega
    · have hi1 : ¬ (k : Int) < 17 := by omega
      obtain ⟨d0, d1, d2, d3, _⟩ := cell4 hx.x
      obtain ⟨y0, y1, y2, y3, fz⟩ := cell4 hx.res
      obtain ⟨z0, z1, z2, z3, zl⟩ := hx.done (.int .i64 U.op) (.string (S U.a)) (.string (S U.b)) (.int .i64 U.n)
      unfold put4c put3 at z0 z1 z2 z3 zl
      have ZL := hide zl
      clear zl hx cS cX HKI HTI
      go_wp2_with fail
      exact bodyPost_ret (v := .agg #[.int .i64 U.op, .string (S U.a), .string (S U.b), .int .i64 U.n]) (by simp [results, Tryd.results10, go_sem, z0, z1, z2, z3]) rfl ⟨U, rfl, unhide HU, unhide ZL⟩
end Go.Proofs.YteaiidcconggcaaDoor
