/- What a call changes, by how many rows; the document's. -/
import Derived.Test.YteaiidcconggcaaDoorMFacts
namespace Go.Proofs.YteaiidcconggcaaDoor
open Go.RowKit
set_option linter.unusedVariables false
set_option maxRecDepth 100000

def mchanges (op n code : Int) : Bool :=
  if op = 2 ∨ op = 5 ∨ op = 14 ∨ op = 16 then true
  else if op = 3 then !decide (n = 0)
  else if op = 6 ∨ op = 8 ∨ op = 9 ∨ op = 11 ∨ op = 12 ∨ op = 15 ∨ op = 17 then decide (code = 1)
  else false
def mgrowth (op n code : Int) : Int :=
  if mchanges op n code = true then (if op = 8 ∨ op = 11 ∨ op = 14 ∨ op = 16 then 1 else if op = 9 ∨ op = 12 ∨ op = 15 ∨ op = 17 then -1 else 0) else 0
def mcV (c : MC) : Value := .agg #[.int .i64 c.op, .string (S c.a), .string (S c.b), .int .i64 c.n]
def mrV (r : MR) : Value := .agg #[.int .i64 r.code, .string (S r.text), .int .i64 r.n]
theorem mtwo_boxes (w : World) (o o' : Obj) : Below w.heap.size w ((w.alloc o).alloc o') := ((Below.refl _ _).alloc (Nat.le_refl _) _).alloc (by simp) _

set_option maxHeartbeats 6400000 in
theorem mchanges_any {w : World} (c : MC) (r : MR) : Calls Tryd.prog 47 #[mcV c, mrV r] w fun e w' => e = .returned (.bool (mchanges c.op c.n r.code)) ∧ Below w.heap.size w w' := by
  obtain ⟨op, a, b, n⟩ := c
  obtain ⟨code, t, m⟩ := r
  unfold mcV mrV
  dsimp only
  have HF := hide (mtwo_boxes w)
  have hn : (n != 0) = !decide (n = 0) := by by_cases h : n = 0 <;> simp [h]
  have hc : (code == 1) = decide (code = 1) := by by_cases h : code = 1 <;> simp [h]
  by_cases h : okOp op
  · rcases op_cases h with rfl | rfl | rfl | rfl | rfl | rfl | rfl | rfl | rfl | rfl | rfl | rfl | rfl | rfl | rfl | rfl | rfl
    all_goals
      clear h
      unfold mchanges
      go_enter Tryd.func47, Tryd.ntmps47
      go_wp2_with fail
      go_ret
      exact ⟨by first | rfl | exact ret_bool hn | exact ret_bool hc, unhide HF _ _⟩
  · unfold okOp at h
    have e : mchanges op n code = false := by unfold mchanges; rw [if_neg (by omega), if_neg (by omega), if_neg (by omega)]
    rw [e]
    have e1 : ¬ op = 1 := by omega
    have e2 : ¬ op = 2 := by omega
    have e3 : ¬ op = 3 := by omega
    have e4 : ¬ op = 4 := by omega
    have e5 : ¬ op = 5 := by omega
    have e6 : ¬ op = 6 := by omega
    have e7 : ¬ op = 7 := by omega
    have e8 : ¬ op = 8 := by omega
    have e9 : ¬ op = 9 := by omega
    have e10 : ¬ op = 10 := by omega
    have e11 : ¬ op = 11 := by omega
    have e12 : ¬ op = 12 := by omega
    have e13 : ¬ op = 13 := by omega
    have e14 : ¬ op = 14 := by omega
    have e15 : ¬ op = 15 := by omega
    have e16 : ¬ op = 16 := by omega
    have e17 : ¬ op = 17 := by omega
    clear h e
    go_enter Tryd.func47, Tryd.ntmps47
    go_wp2_with fail
    go_ret
    exact ⟨rfl, unhide HF _ _⟩
set_option maxHeartbeats 6400000 in
theorem rchanges_any {w : World} (c : MC) (r : MR) : Calls Tryd.prog 56 #[mcV c, mrV r] w fun e w' => e = .returned (.bool (mchanges c.op c.n r.code)) ∧ Below w.heap.size w w' := by
  obtain ⟨op, a, b, n⟩ := c
  obtain ⟨code, t, m⟩ := r
  unfold mcV mrV
  dsimp only
  have HF := hide (mtwo_boxes w)
  have hn : (n != 0) = !decide (n = 0) := by by_cases h : n = 0 <;> simp [h]
  have hc : (code == 1) = decide (code = 1) := by by_cases h : code = 1 <;> simp [h]
  by_cases h : okOp op
  · rcases op_cases h with rfl | rfl | rfl | rfl | rfl | rfl | rfl | rfl | rfl | rfl | rfl | rfl | rfl | rfl | rfl | rfl | rfl
    all_goals
      clear h
      unfold mchanges
      go_enter Tryd.func56, Tryd.ntmps56
      go_wp2_with fail
      go_ret
      exact ⟨by first | rfl | exact ret_bool hn | exact ret_bool hc, unhide HF _ _⟩
  · have e : mchanges op n code = false := by unfold okOp at h; unfold mchanges; rw [if_neg (by omega), if_neg (by omega), if_neg (by omega)]
    rw [e]
    have e1 : ¬ op = 1 := by unfold okOp at h; omega
    have e2 : ¬ op = 2 := by unfold okOp at h; omega
    have e3 : ¬ op = 3 := by unfold okOp at h; omega
    have e4 : ¬ op = 4 := by unfold okOp at h; omega
    have e5 : ¬ op = 5 := by unfold okOp at h; omega
    have e7 : ¬ op = 7 := by unfold okOp at h; omega
    have e10 : ¬ op = 10 := by unfold okOp at h; omega
    have e13 : ¬ op = 13 := by unfold okOp at h; omega
    have e14 : ¬ op = 14 := by unfold okOp at h; omega
    have e16 : ¬ op = 16 := by unfold okOp at h; omega
    clear e
    by_cases hl : 1 ≤ op
    · have hm : ¬ op ≤ 17 := by unfold okOp at h; omega
      clear h
      go_enter Tryd.func56, Tryd.ntmps56
      go_wp2_with fail
      go_ret
      exact ⟨rfl, unhide HF _ _⟩
    · clear h
      go_enter Tryd.func56, Tryd.ntmps56
      go_wp2_with fail
      go_ret
      exact ⟨rfl, unhide HF _ _⟩
end Go.Proofs.YteaiidcconggcaaDoor
