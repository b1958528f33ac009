/- The law's Tidy: some call that may be asked. -/
import Derived.Test.YtlanogkijgapdaaDoorMCheck
import Derived.Test.YtlanogkijgapdaaDoorAOpen
import Derived.Test.YtlanogkijgapdaaDoorCCut
import Derived.Test.YtlanogkijgapdaaDoorVBase
import Derived.Sort.AtCall
namespace Go.Proofs.YtlanogkijgapdaaDoor
open Go.RowKit
set_option linter.unusedVariables false
set_option maxRecDepth 100000

def MC.may (c : MC) : Prop := c.check = 0 ∧ I64 c.n
theorem MC.may_op {c : MC} (h : c.may) : okOp c.op := by
  have h0 := h.1
  unfold MC.check at h0
  by_cases e : okOp c.op
  · exact e
  · rw [if_pos e] at h0; exact absurd h0 (by decide)
theorem MC.may_len {c : MC} (h : c.may) : c.a.length ≤ 24 ∧ c.b.length ≤ 24 := by
  have h0 := h.1
  unfold MC.check at h0
  rw [if_neg (by simpa using MC.may_op h)] at h0
  split at h0
  · exact absurd h0 (by decide)
  · split at h0
    · exact absurd h0 (by decide)
    · omega
theorem may_of {op : Int} {a b : List UInt8} {n : Int} (h : okOp op) (hn : I64 n) (ha : a.length ≤ 24) (hb : b.length ≤ 24) (h1 : a = [] ∨ hasA op = true) (h2 : b = [] ∨ hasB op = true) (h3 : n = 0 ∨ hasN op = true) (h4 : ¬ (op = 5 ∨ op = 6) ∨ (1 ≤ n ∧ n ≤ 1048576)) : MC.may ⟨op, a, b, n⟩ := by
  refine ⟨?_, hn⟩
  unfold MC.check
  dsimp only
  rw [if_neg (by simpa using h), if_neg, if_neg (by omega), if_neg (by omega)]
  rintro (⟨h5, h6⟩ | ⟨h5, h6⟩ | ⟨h5, h6⟩)
  · rcases h1 with h1 | h1
    · exact h5 h1
    · rw [h1] at h6; cases h6
  · rcases h2 with h2 | h2
    · exact h5 h2
    · rw [h2] at h6; cases h6
  · rcases h3 with h3 | h3
    · exact h5 h3
    · rw [h3] at h6; cases h6

end Go.Proofs.YtlanogkijgapdaaDoor
