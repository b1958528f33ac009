/- A raw row of calls, as a law is handed it; an answer whose code is turned is none of all answers. -/
import Derived.Test.YteaiidcconggcaaDoorBundleT6
import Derived.Test.YteaiidcconggcaaDoorAOpen
import Derived.Test.YteaiidcconggcaaDoorVOpen
import Derived.Lib.SmallJoins
namespace Go.Proofs.YteaiidcconggcaaDoor
open Go.RowKit Go.ChangeShapes Go.WideShapes
set_option linter.unusedVariables false
set_option maxRecDepth 100000

def RCall (w : World) (a : Option Addr) (i : Nat) (op : Int) (ca cb : ByteArray) (cn : Int) : Prop :=
  (∃ b off, a = some ⟨b, off, none⟩ ∧ b < w.heap.size ∧ w.cell? ⟨b, off + i * 4, none⟩ = some (.int .i64 op) ∧ w.cell? ⟨b, off + i * 4 + 1, none⟩ = some (.string ca) ∧ w.cell? ⟨b, off + i * 4 + 2, none⟩ = some (.string cb) ∧ w.cell? ⟨b, off + i * 4 + 3, none⟩ = some (.int .i64 cn)) ∧ I64 op ∧ I64 cn ∧ ca.size ≤ maxLen ∧ cb.size ≤ maxLen
def RCalls (w : World) (a : Option Addr) (len : Nat) : Prop := ∀ i, i < len → ∃ op ca cb cn, RCall w a i op ca cb cn
theorem open_calls {H : Type} {enc : TypeId × Value → H} {W : World} {base b0 : Nat} {spare : Nat → Bool} {held : Bool} {r : Reach} {v : Value} {d : DataW H} {p : List MemPlace}
    (hv : Value.okWide Tryd.prog W r b0 60 v) (hd : DataW.Trod enc Tryd.prog W base spare held 60 v d p) :
    ∃ a len cap, v = .slice a len cap ∧ (len : Int) ≤ 9223372036854775807 ∧ RCalls W a len := by
  obtain ⟨a, len, cap, rfl⟩ := okWide_slice Tryd.underlying60 hv
  obtain ⟨fuel, hf⟩ := hd
  have ce : Tryd.prog.cellsOf 24 = 4 := by kernel_rfl
  have hf' : DataW.trod enc Tryd.prog W base spare held fuel 60 [.slice a len cap] = some (d, p) := by simpa [Value.cells] using hf
  obtain ⟨hl, hm, hall⟩ := slice_structs Tryd.underlying60 (by rw [ce]; decide) hf'
  rw [ce] at hall
  unfold maxLen at hm
  refine ⟨a, len, cap, rfl, by omega, fun i hi => ?_⟩
  obtain ⟨b, off, cs, rfl, hlen, hcell, n, y, htr⟩ := hall i hi
  match cs, hlen with
  | [v0, v1, v2, v3], _ =>
    obtain ⟨y0, y1, y2, y3, m, _, _, t0, t1, t2, t3⟩ := Go.Joins.trod_struct4 Tryd.underlying24 htr
    have c0 := hcell 0 (by omega)
    have c1 := hcell 1 (by omega)
    have c2 := hcell 2 (by omega)
    have c3 := hcell 3 (by omega)
    simp at c0 c1 c2 c3
    have x25 : Tryd.prog.cellsOf 22 = 1 := by kernel_rfl
    have x9 : Tryd.prog.cellsOf 9 = 1 := by kernel_rfl
    have x2 : Tryd.prog.cellsOf 2 = 1 := by kernel_rfl
    simp [x25] at t0
    simp [x9] at t1 t2
    simp [x2] at t3
    obtain ⟨k0, e0, _, w0⟩ := DataW.trod_int Tryd.underlying22 t0
    obtain ⟨k1, e1, _, w1⟩ := DataW.trod_string Tryd.underlying9 t1
    obtain ⟨k2, e2, _, w2⟩ := DataW.trod_string Tryd.underlying9 t2
    obtain ⟨k3, e3, _, w3⟩ := DataW.trod_int Tryd.underlying2 t3
    simp only [List.cons.injEq, and_true] at e0 e1 e2 e3
    subst e0 e1 e2 e3
    exact ⟨k0, k1, k2, k3, ⟨b, off, rfl, cell_lt c0, c0, c1, c2, c3⟩, vwf_i64 w0, vwf_i64 w3, w1, w2⟩
theorem RCalls.later {w w' : World} {a : Option Addr} {len : Nat} (h : RCalls w a len) (hb : Below w.heap.size w w') : RCalls w' a len := fun i hi => by
  obtain ⟨op, ca, cb, cn, ⟨b, off, rfl, hlt, c0, c1, c2, c3⟩, h1⟩ := h i hi
  have hs := hb.size
  refine ⟨op, ca, cb, cn, ⟨b, off, rfl, by omega, ?_, ?_, ?_, ?_⟩, h1⟩
  · rw [hb.cell (p := ⟨b, off + i * 4, none⟩) hlt]; exact c0
  · rw [hb.cell (p := ⟨b, off + i * 4 + 1, none⟩) hlt]; exact c1
  · rw [hb.cell (p := ⟨b, off + i * 4 + 2, none⟩) hlt]; exact c2
  · rw [hb.cell (p := ⟨b, off + i * 4 + 3, none⟩) hlt]; exact c3
theorem tk_code (s : VS) : ∀ k r, r ∈ tk s k → r.code = 1
  | 0, r, h => by cases h
  | k + 1, r, h => by
    unfold tk at h
    rcases List.mem_append.mp h with h | h
    · exact tk_code s k r h
    · split at h
      · simp only [List.mem_singleton] at h
        rw [h]
      · cases h
theorem answers_code {s : VS} {c : MC} {q r : MR} (hq : q ∈ answers s c) (hr : r ∈ answers s c) : q.code = r.code := by
  unfold answers at hq hr
  split at hq
  · cases hq
  rename_i h0
  rw [if_neg h0] at hr
  have one {u : MR} (h1 : q ∈ [u]) (h2 : r ∈ [u]) : q.code = r.code := by
    rw [List.mem_singleton.mp h1, List.mem_singleton.mp h2]
  by_cases h1 : c.op = 1
  · rw [if_pos h1] at hq hr; exact one hq hr
  rw [if_neg h1] at hq hr
  by_cases h4 : c.op = 4 ∨ c.op = 7
  · rw [if_pos h4] at hq hr; exact one hq hr
  rw [if_neg h4] at hq hr
  by_cases h6 : c.op = 6
  · rw [if_pos h6] at hq hr; exact one hq hr
  rw [if_neg h6] at hq hr
  by_cases h8 : c.op = 8 ∨ c.op = 11
  · rw [if_pos h8] at hq hr; exact one hq hr
  rw [if_neg h8] at hq hr
  by_cases h9 : c.op = 9 ∨ c.op = 10 ∨ c.op = 12
  · rw [if_pos h9] at hq hr; exact one hq hr
  rw [if_neg h9] at hq hr
  by_cases h13 : c.op = 13
  · rw [if_pos h13] at hq hr; exact one hq hr
  rw [if_neg h13] at hq hr
  by_cases h15 : c.op = 15
  · rw [if_pos h15] at hq hr; exact one hq hr
  rw [if_neg h15] at hq hr
  by_cases h17 : c.op = 17
  · rw [if_pos h17] at hq hr
    unfold takes at hq hr
    split at hq
    · rename_i hl
      rw [if_pos hl] at hr
      exact one hq hr
    · rename_i hl
      rw [if_neg hl] at hr
      rw [tk_code s _ q hq, tk_code s _ r hr]
  · rw [if_neg h17] at hq hr; exact one hq hr
/- With another code it is not legal. -/
theorem bent_not {s : VS} {c : MC} {q : MR} (hq : q ∈ answers s c) (hc : q.code = 1 ∨ q.code = 2) : legal s c ⟨3 - q.code, q.text, q.n⟩ = false := by
  unfold legal
  refine decide_eq_false fun h => ?_
  have := answers_code hq h
  dsimp only at this
  omega
end Go.Proofs.YteaiidcconggcaaDoor
