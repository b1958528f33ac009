/- The document's Apply: its rows are the call's own, or the state's own. -/
import Derived.Test.YteaiidcconggcaaDoorBundleT10
namespace Go.Proofs.YteaiidcconggcaaDoor
open Go.RowKit
set_option linter.unusedVariables false
set_option maxRecDepth 100000

theorem rapply_new {w : World} {s : VS} {sa : Option Addr} {sc : Nat} {c : MC} (h : w.ownsRow 0 77 2 (.slice sa s.rows.length sc) s.rows.length (R9 s.rows)) (hs : s.rows.length ≤ 1000) (hop : okOp c.op) (hcb : c.op ≠ 11 → c.b = []) (hf : s.fit) (r : MR) :
    Calls Tryd.prog 37 #[.agg #[.int .i64 s.kind, .int .i64 s.n, .slice sa s.rows.length sc], mcV c, mrV r] w fun e w' => ∃ ka kc, e = .returned (.agg #[.int .i64 (apply2 s c r).kind, .int .i64 (apply2 s c r).n, .slice ka (apply2 s c r).rows.length kc]) ∧ w'.ownsRow 0 77 2 (.slice ka (apply2 s c r).rows.length kc) (apply2 s c r).rows.length (R9 (apply2 s c r).rows) ∧ (∀ k, (Value.slice ka (apply2 s c r).rows.length kc).ownBlock = some k → w.heap.size ≤ k ∨ (Value.slice sa s.rows.length sc).ownBlock = some k) ∧ Below w.heap.size w w' := by
  have hat : StAt w (.agg #[.int .i64 s.kind, .int .i64 s.n, .slice sa s.rows.length sc]) s := ⟨_, rfl, Row2.of_own h⟩
  have key : Calls Tryd.prog 37 #[.agg #[.int .i64 s.kind, .int .i64 s.n, .slice sa s.rows.length sc], mcV c, mrV r] w fun e w' => ∃ v', e = .returned v' ∧ (StOwn w.heap.size 77 w' v' (apply2 s c r) ∨ (v' = .agg #[.int .i64 s.kind, .int .i64 s.n, .slice sa s.rows.length sc] ∧ apply2 s c r = s)) ∧ Below w.heap.size w w' := by
    by_cases hk : (mfact c.op).kind = s.kind
    · exact rapply_eq hat hs hop hcb hf r hk
    · rw [show apply2 s c r = s by unfold apply2 applyBy; rw [if_pos (Or.inl hk)]]
      exact rapply_ne hat hop r hk
  refine key.mono fun e w' hh => ?_
  obtain ⟨v', rfl, hor, hb⟩ := hh
  rcases hor with ⟨kk, rfl, ho⟩ | ⟨rfl, hs2⟩
  · obtain ⟨ka, kc, rfl, _⟩ := ownsRow_slice ho
    exact ⟨ka, kc, rfl, ownsRow_less ho (Nat.zero_le _), fun k hk => Or.inl (ho.lt k hk).1, hb⟩
  · rw [hs2]
    exact ⟨sa, sc, rfl, ownsRow_below h hb, fun k hk => Or.inr hk, hb⟩
end Go.Proofs.YteaiidcconggcaaDoor
