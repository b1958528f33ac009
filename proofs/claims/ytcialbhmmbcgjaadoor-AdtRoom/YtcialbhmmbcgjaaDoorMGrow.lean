/- By how many rows a call's object grows; the document's. -/
import Derived.Test.YtcialbhmmbcgjaaDoorMChange
namespace Go.Proofs.YtcialbhmmbcgjaaDoor
open Go.RowKit
set_option linter.unusedVariables false
set_option maxRecDepth 100000

theorem mgrowth_no (op n code : Int) (h : ¬ okOp op) : mchanges op n code = false ∧ mgrowth op n code = 0 := by
  unfold okOp at h
  have e : mchanges op n code = false := by unfold mchanges; rw [if_neg (by omega), if_neg (by omega), if_neg (by omega)]
  exact ⟨e, by unfold mgrowth; rw [e]; rfl⟩
theorem mgrowth_pick (op n code : Int) (h : mchanges op n code = true) : mgrowth op n code = (if op = 8 ∨ op = 11 ∨ op = 14 ∨ op = 16 then 1 else if op = 9 ∨ op = 12 ∨ op = 15 ∨ op = 17 then -1 else 0) := by unfold mgrowth; rw [if_pos h]
theorem mgrowth_zero (op n code : Int) (h : mchanges op n code = false) : mgrowth op n code = 0 := by unfold mgrowth; rw [h]; rfl

theorem two_kept {w w1 : World} {a b c d : Value} {t : TypeId} {o : Obj} (hb : Below ((w.alloc (.cells #[a, b, c, d] t)).alloc o).heap.size ((w.alloc (.cells #[a, b, c, d] t)).alloc o) w1) :
    w1.cell? ⟨w.heap.size, 0, none⟩ = some a ∧ w1.cell? ⟨w.heap.size, 1, none⟩ = some b ∧ w1.cell? ⟨w.heap.size, 2, none⟩ = some c ∧ w1.cell? ⟨w.heap.size, 3, none⟩ = some d := by
  have hx : ((w.alloc (.cells #[a, b, c, d] t)).alloc o).heap[w.heap.size]? = some (.cells #[a, b, c, d] t (0, 0)) := (Below.heap_alloc _ o _ (by simp)).trans (heap_alloc_new w _)
  have hy := (hb.block w.heap.size (by simp; omega)).trans hx
  refine ⟨?_, ?_, ?_, ?_⟩ <;> rw [block_cell hy] <;> rfl

set_option maxHeartbeats 6400000 in
theorem mgrowth_any {w : World} (c : MC) (r : MR) : Calls Tryd.prog 54 #[mcV c, mrV r] w fun e w' => e = .returned (.int .i64 (mgrowth c.op c.n r.code)) ∧ Below w.heap.size w w' := by
  have HC := hide (fun (w1 : World) => mchanges_any (w := w1) c r)
  obtain ⟨op, a, b, n⟩ := c
  obtain ⟨code, t, m⟩ := r
  unfold mcV mrV at *
  dsimp only at *
  have HF := hide (mtwo_boxes w)
  have HNO := hide (mgrowth_no op n code)
  have HZ := hide (mgrowth_zero op n code)
  have HP := hide (mgrowth_pick op n code)
  by_cases hch : mchanges op n code = true
  · have hop : okOp op := Classical.byContradiction fun h => by rw [(unhide HNO h).1] at hch; cases hch
    rw [unhide HP hch]
    rw [hch] at HC
    clear hch HNO HZ HP
    rcases op_cases hop with rfl | rfl | rfl | rfl | rfl | rfl | rfl | rfl | rfl | rfl | rfl | rfl | rfl | rfl | rfl | rfl | rfl
    all_goals
      clear hop
      go_enter Tryd.func54, Tryd.ntmps54
      go_wp2_with fail
      refine (unhide HC _).mono ?_
      rintro e w1 ⟨rfl, hb⟩
      obtain ⟨hc0, hc1, hc2, hc3⟩ := two_kept hb
      have HB := hide hb
      clear hb
      go_wp2_with fail
      go_ret
      exact ⟨rfl, (unhide HF _ _).trans ((unhide HB).mono (by simp; omega))⟩
  · have hch' : mchanges op n code = false := by simpa using hch
    rw [unhide HZ hch']
    rw [hch'] at HC
    clear hch hch' HNO HZ HP
    go_enter Tryd.func54, Tryd.ntmps54
    go_wp2_with fail
    refine (unhide HC _).mono ?_
    rintro e w1 ⟨rfl, hb⟩
    have HB := hide hb
    clear hb
    go_wp2_with fail
    go_ret
    exact ⟨rfl, (unhide HF _ _).trans ((unhide HB).mono (by simp; omega))⟩
set_option maxHeartbeats 6400000 in
theorem rgrowth_any {w : World} (c : MC) (r : MR) : Calls Tryd.prog 22 #[mcV c, mrV r] w fun e w' => e = .returned (.int .i64 (mgrowth c.op c.n r.code)) ∧ Below w.heap.size w w' := by
  have HC := hide (fun (w1 : World) => rchanges_any (w := w1) c r)
  obtain ⟨op, a, b, n⟩ := c
  obtain ⟨code, t, m⟩ := r
  unfold mcV mrV at *
  dsimp only at *
  have HF := hide (mtwo_boxes w)
  have HNO := hide (mgrowth_no op n code)
  have HZ := hide (mgrowth_zero op n code)
  have HP := hide (mgrowth_pick op n code)
  by_cases hch : mchanges op n code = true
  · have hop : okOp op := Classical.byContradiction fun h => by rw [(unhide HNO h).1] at hch; cases hch
    rw [unhide HP hch]
    rw [hch] at HC
    clear hch HNO HZ HP
    rcases op_cases hop with rfl | rfl | rfl | rfl | rfl | rfl | rfl | rfl | rfl | rfl | rfl | rfl | rfl | rfl | rfl | rfl | rfl
    all_goals
      clear hop
      go_enter Tryd.func22, Tryd.ntmps22
      go_wp2_with fail
      refine (unhide HC _).mono ?_
      rintro e w1 ⟨rfl, hb⟩
      obtain ⟨hc0, hc1, hc2, hc3⟩ := two_kept hb
      have HB := hide hb
      clear hb
      go_wp2_with fail
      go_ret
      exact ⟨rfl, (unhide HF _ _).trans ((unhide HB).mono (by simp; omega))⟩
  · have hch' : mchanges op n code = false := by simpa using hch
    rw [unhide HZ hch']
    rw [hch'] at HC
    clear hch hch' HNO HZ HP
    go_enter Tryd.func22, Tryd.ntmps22
    go_wp2_with fail
    refine (unhide HC _).mono ?_
    rintro e w1 ⟨rfl, hb⟩
    have HB := hide hb
    clear hb
    go_wp2_with fail
    go_ret
    exact ⟨rfl, (unhide HF _ _).trans ((unhide HB).mono (by simp; omega))⟩
end Go.Proofs.YtcialbhmmbcgjaaDoor
