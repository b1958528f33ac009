/- The table of ops: facts, Word, Kind. -/
import Derived.Test.YteaiidcconggcaaDoorMMath
import Derived.Test.YteaiidcconggcaaDoorDBase
import Derived.Test.YteaiidcconggcaaDoorALess
namespace Go.Proofs.YteaiidcconggcaaDoor
open Go.RowKit
set_option linter.unusedVariables false
set_option maxRecDepth 100000

/- The program's table lies in its block. -/
def MD (w : World) : Prop := ∀ k, (h : k < mfacts.length) → w.cell? ⟨0, k * 5, none⟩ = some (.string (S (mfacts[k]'h).word)) ∧ w.cell? ⟨0, k * 5 + 1, none⟩ = some (.int .i64 (mfacts[k]'h).kind) ∧ w.cell? ⟨0, k * 5 + 2, none⟩ = some (.bool (mfacts[k]'h).a) ∧ w.cell? ⟨0, k * 5 + 3, none⟩ = some (.bool (mfacts[k]'h).b) ∧ w.cell? ⟨0, k * 5 + 4, none⟩ = some (.bool (mfacts[k]'h).n)
theorem MD.pos {w : World} (h : MD w) : 0 < w.heap.size := cell_lt (h 0 (by decide)).1
theorem MD.later {w w' : World} (h : MD w) (hb : Below w.heap.size w w') : MD w' := fun k hk => by
  have e := fun o => hb.cell (p := ⟨0, o, none⟩) h.pos
  rw [e, e, e, e, e]
  exact h k hk
def mfV (f : MF) : Value := .agg #[.string (S f.word), .int .i64 f.kind, .bool f.a, .bool f.b, .bool f.n]

set_option maxHeartbeats 1600000 in
theorem facts_any {w : World} (hw : MD w) (op : Int) : Calls Tryd.prog 46 #[.int .i64 op] w fun e w' => e = .returned (mfV (mfact op)) ∧ Below w.heap.size w w' := by
  have hp := hw.pos
  unfold mfact
  by_cases h0 : op < 0
  · rw [if_pos (Or.inl h0)]
    go_enter Tryd.func46, Tryd.ntmps46
    go_wp2_with fail
    exact bodyPost_ret (v := mfV mnone) (by simp [results, Tryd.results46, go_sem]; rfl) rfl ⟨rfl, (Below.refl _ _).alloc (Nat.le_refl _) _⟩
  by_cases h8 : 17 < op
  · rw [if_pos (Or.inr h8)]
    go_enter Tryd.func46, Tryd.ntmps46
    go_wp2_with fail
    exact bodyPost_ret (v := mfV mnone) (by simp [results, Tryd.results46, go_sem]; rfl) rfl ⟨rfl, (Below.refl _ _).alloc (Nat.le_refl _) _⟩
  rw [if_neg (by omega)]
  obtain ⟨k, rfl⟩ : ∃ k : Nat, op = (k : Int) := ⟨op.toNat, by omega⟩
  rw [Int.toNat_natCast]
  have hk : k < mfacts.length := by show k < 18; omega
  obtain ⟨c0, c1, c2, c3, c4⟩ := hw k hk
  have hg : mfacts.getD k mnone = mfacts[k]'hk := by simp [List.getD, hk]
  rw [hg]
  generalize mfacts[k]'hk = x at *
  have hk0 : (0 : Int) ≤ (k : Int) := by omega
  have hk8 : (k : Int) < 18 := by omega
  clear hg hw hk
  go_enter Tryd.func46, Tryd.ntmps46
  go_wp2_with fail
  exact bodyPost_ret (v := mfV x) (by simp [results, Tryd.results46, go_sem]; rfl) rfl ⟨rfl, (Below.refl _ _).alloc (Nat.le_refl _) _⟩

theorem mkind_any {w : World} (hw : MD w) (op : Int) : Calls Tryd.prog 28 #[.int .i64 op] w fun e w' => e = .returned (.int .i64 (mfact op).kind) ∧ Below w.heap.size w w' := by
  have HF := hide (facts_any hw op)
  generalize mfact op = x at *
  unfold mfV at HF
  have hfd : ∀ w, (Instr.field 90 (.agg #[.string (S x.word), .int .i64 x.kind, .bool x.a, .bool x.b, .bool x.n]) 1).run Tryd.prog w = .ok (.int .i64 x.kind) w := fun _ => by kernel_rfl
  clear hw
  go_enter Tryd.func28, Tryd.ntmps28
  go_wp2_with fail
  refine (unhide HF).mono ?_
  rintro e w1 ⟨rfl, hb⟩
  go_wp2_with fail
  go_ret
  exact ⟨rfl, hb⟩
/- The op of a word. -/
def opFrom (y : List UInt8) : Nat → Nat → Int
  | 0, _ => 0
  | f + 1, k => if (mfact k).word = y then (k : Int) else opFrom y f (k + 1)
def opOf (y : List UInt8) : Int := opFrom y 18 0
theorem opFrom_step (y : List UInt8) (k : Nat) (hk : k < 18) : opFrom y (18 - k) k = if (mfact k).word = y then (k : Int) else opFrom y (18 - (k + 1)) (k + 1) := by
  have e : 18 - k = (18 - (k + 1)) + 1 := by omega
  rw [e]; rfl

end Go.Proofs.YteaiidcconggcaaDoor
