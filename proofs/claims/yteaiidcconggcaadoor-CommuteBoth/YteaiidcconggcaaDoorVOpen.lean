/- A raw state, as a law is handed it. -/
import Derived.Test.YteaiidcconggcaaDoorVBase
import Derived.Test.YteaiidcconggcaaDoorAOpen
import Derived.Deep.SlicePairs
import Derived.Lib.SmallJoins
namespace Go.Proofs.YteaiidcconggcaaDoor
open Go.RowKit Go.ChangeShapes Go.WideShapes
set_option linter.unusedVariables false
set_option maxRecDepth 100000

theorem R9_inv (l : List (List UInt8 × List UInt8)) (j : Nat) (u : Value) (h : (R9 l)[j]? = some u) : ∃ i, ∃ hi : i < l.length, (j = i * 2 ∧ u = .string (S (l[i]'hi).1)) ∨ (j = i * 2 + 1 ∧ u = .string (S (l[i]'hi).2)) := by
  have hj : j < l.length * 2 := by
    rcases Nat.lt_or_ge j (l.length * 2) with h1 | h1
    · exact h1
    · rw [List.getElem?_eq_none (by rw [R9_length]; exact h1)] at h; cases h
  obtain ⟨g0, g1⟩ := R9_get l (j / 2) (by omega)
  refine ⟨j / 2, by omega, ?_⟩
  rcases Nat.mod_two_eq_zero_or_one j with e | e
  · left
    have e1 : j / 2 * 2 = j := by omega
    rw [e1, h] at g0
    exact ⟨e1.symm, Option.some.inj g0⟩
  · right
    have e1 : j / 2 * 2 + 1 = j := by omega
    rw [e1, h] at g1
    exact ⟨e1.symm, Option.some.inj g1⟩
def strOf : Value → List UInt8
  | .string s => s.data.toList
  | _ => []
theorem vwf_i64 {n : Int} (h : (Lit.int .i64 n).wf = true) : -9223372036854775808 ≤ n ∧ n ≤ 9223372036854775807 := by
  simpa [Lit.wf, IntKind.min, IntKind.bits, IntKind.signed] using h

theorem open_state {H : Type} {enc : TypeId × Value → H} {W : World} {base b0 : Nat} {spare : Nat → Bool} {held : Bool} {r : Reach} {v : Value} {d : DataW H} {p : List MemPlace}
    (hv : Value.okWide Tryd.prog W r b0 47 v) (hd : DataW.Trod enc Tryd.prog W base spare held 47 v d p) :
    ∃ s : VS, StAt W v s ∧ (-9223372036854775808 ≤ s.kind ∧ s.kind ≤ 9223372036854775807) ∧ (-9223372036854775808 ≤ s.n ∧ s.n ≤ 9223372036854775807) ∧ ∀ i (h : i < s.rows.length), (s.rows[i]'h).1.length ≤ maxLen ∧ (s.rows[i]'h).2.length ≤ maxLen := by
  obtain ⟨v0, v1, v2, y0, y1, y2, m, rfl, _, _, t0, t1, t2⟩ := Go.Joins.open_agg3 Tryd.underlying47 (by kernel_rfl) (by kernel_rfl) hv hd
  obtain ⟨k, e0, _, w0⟩ := DataW.trod_int Tryd.underlying3 t0
  obtain ⟨n, e1, _, w1⟩ := DataW.trod_int Tryd.underlying2 t1
  simp only [List.cons.injEq, and_true] at e0 e1
  subst e0 e1
  rcases Go.Deep.open_slice_pairs Tryd.underlying45 Tryd.underlying82 (by kernel_rfl) rfl rfl (by kernel_rfl) (by kernel_rfl) t2 with ⟨hc, hx⟩ | ⟨x, len, cap, m2, k2, V0, V1, D0, D1, P0, P1, hc, _, hl, hm, hmm, hx, hall⟩
  · simp only [List.cons.injEq, and_true] at hc
    subst hc
    exact ⟨⟨k, n, []⟩, ⟨_, rfl, Row2.nil W⟩, vwf_i64 w0, vwf_i64 w1, fun i hi => by simp at hi⟩
  · simp only [List.cons.injEq, and_true] at hc
    subst hc
    have hcell : ∀ i, i < len → ∃ s0 s1 : ByteArray, V0 i = .string s0 ∧ V1 i = .string s1 ∧ s0.size ≤ maxLen ∧ s1.size ≤ maxLen ∧ W.cell? (x.add (i * 2)) = some (.string s0) ∧ W.cell? (x.add (i * 2 + 1)) = some (.string s1) := fun i hi => by
      have him : i < m2 := by rw [hmm]; split <;> omega
      obtain ⟨h0, h1, q0, q1⟩ := hall i him
      obtain ⟨s0, f0, _, z0⟩ := DataW.trod_string Tryd.underlying9 q0
      obtain ⟨s1, f1, _, z1⟩ := DataW.trod_string Tryd.underlying9 q1
      simp only [List.cons.injEq, and_true] at f0 f1
      rw [f0] at h0
      rw [f1] at h1
      exact ⟨s0, s1, f0, f1, z0, z1, by simpa [Nat.mul_comm] using h0, by simpa [Nat.mul_comm] using h1⟩
    obtain ⟨xb, off, spot⟩ := x
    have hspot : 0 < len → spot = none := fun h => by
      obtain ⟨_, _, _, _, _, _, z, _⟩ := hcell 0 h
      simpa [Addr.add] using World.cell?_spot z
    have hlen : ((List.range len).map fun i => (strOf (V0 i), strOf (V1 i))).length = len := by simp
    have hget : ∀ i (hi : i < ((List.range len).map fun i => (strOf (V0 i), strOf (V1 i))).length), ((List.range len).map fun i => (strOf (V0 i), strOf (V1 i)))[i]'hi = (strOf (V0 i), strOf (V1 i)) := fun i hi => by simp
    refine ⟨⟨k, n, (List.range len).map fun i => (strOf (V0 i), strOf (V1 i))⟩, ⟨_, rfl, ⟨some ⟨xb, off, spot⟩, cap, by rw [hlen], by rw [hlen]; exact hl, hm, fun e => (by cases e), fun j u hj => ?_⟩⟩, vwf_i64 w0, vwf_i64 w1, fun i hi => ?_⟩
    · obtain ⟨i, hi, hor⟩ := R9_inv _ j u hj
      have hil : i < len := by rwa [hlen] at hi
      obtain ⟨s0, s1, g0, g1, _, _, c0, c1⟩ := hcell i hil
      have hsp := hspot (by omega)
      subst hsp
      rw [hget i hi, g0, g1] at hor
      rcases hor with ⟨rfl, rfl⟩ | ⟨rfl, rfl⟩
      · rw [plain_add] at c0
        exact ⟨xb, off, rfl, cell_lt c0, c0⟩
      · rw [plain_add] at c1
        exact ⟨xb, off, rfl, cell_lt c1, c1⟩
    · have hil : i < len := by
        have := hlen
        dsimp only at hi
        omega
      obtain ⟨s0, s1, g0, g1, z0, z1, _, _⟩ := hcell i hil
      dsimp only
      rw [hget i hi, g0, g1]
      exact ⟨z0, z1⟩
end Go.Proofs.YteaiidcconggcaaDoor
