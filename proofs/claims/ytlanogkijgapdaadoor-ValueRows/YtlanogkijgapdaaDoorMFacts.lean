/- The table of ops: facts, Word, Kind. -/
import Derived.Test.YtlanogkijgapdaaDoorMMath
import Derived.Test.YtlanogkijgapdaaDoorDBase
import Derived.Test.YtlanogkijgapdaaDoorALess
namespace Go.Proofs.YtlanogkijgapdaaDoor
open Go.RowKit
set_option linter.unusedVariables false
set_option maxRecDepth 100000

/- The program's table lies in its block. -/
def MD (w : World) : Prop := ∀ k, (h : k < mfacts.length) → w.cell? ⟨0, k * 5, none⟩ = some (.string (S (mfacts[k]'h).word)) ∧ w.cell? ⟨0, k * 5 + 1, none⟩ = some (.int .i64 (mfacts[k]'h).kind) ∧ w.cell? ⟨0, k * 5 + 2, none⟩ = some (.bool (mfacts[k]'h).a) ∧ w.cell? ⟨0, k * 5 + 3, none⟩ = some (.bool (mfacts[k]'h).b) ∧ w.cell? ⟨0, k * 5 + 4, none⟩ = some (.bool (mfacts[k]'h).n)
theorem MD.pos {w : World} (h : MD w) : 0 < w.heap.size := cell_lt (h 0 (by decide)).1
theorem MD.later {w w' : World} (h : MD w) (hb : Below w.heap.size w w') : MD w' := fun k hk => by
  have e := fun o => hb.cell (p := ⟨0, o, none⟩) h.pos
  rw [e, e, e, e, e]
  exact h k hk
def mfV (f : MF) : Value := .agg #[.string (S f.word), .int .i64 f.kind, .bool f.a, .bool f.b, .bool f.n]

/- The op of a word. -/
def opFrom (y : List UInt8) : Nat → Nat → Int
  | 0, _ => 0
  | f + 1, k => if (mfact k).word = y then (k : Int) else opFrom y f (k + 1)
def opOf (y : List UInt8) : Int := opFrom y 18 0
theorem opFrom_step (y : List UInt8) (k : Nat) (hk : k < 18) : opFrom y (18 - k) k = if (mfact k).word = y then (k : Int) else opFrom y (18 - (k + 1)) (k + 1) := by
  have e : 18 - k = (18 - (k + 1)) + 1 := by omega
  rw [e]; rfl

end Go.Proofs.YtlanogkijgapdaaDoor
