/- A slice of structs that came in, opened; the calls that DevicePlays is told. -/
import Derived.Test.YtbggjkokfbcbcaaDArgs
import Derived.Deep.Slices
import Derived.Lib.SmallJoins
import Derived.OpenShut
namespace Go.Proofs.Ytbggjkokfbcbcaa
open Go.RowKit Go.ChangeShapes Go.WideShapes
set_option linter.unusedVariables false

theorem slice_structs {H : Type} {enc : TypeId × Value → H} {P : Program} {w : World} {base : Nat} {spare : Nat → Bool} {held : Bool} {t e : TypeId} {fuel : Nat} {a : Option Addr} {len cap : Nat} {x : DataW H × List MemPlace}
    (ht : P.underlying t = some (.slice e)) (hpos : 0 < P.cellsOf e) (h : DataW.trod enc P w base spare held fuel t [.slice a len cap] = some x) :
    len ≤ cap ∧ cap ≤ maxLen ∧ ∀ i, i < len → ∃ b off cs, a = some ⟨b, off, none⟩ ∧ cs.length = P.cellsOf e ∧ (∀ j, j < P.cellsOf e → w.cell? ⟨b, off + i * P.cellsOf e + j, none⟩ = cs[j]?) ∧ ∃ n y, DataW.trod enc P w base spare held n e cs = some y := by
  rcases Go.Deep.open_slice ht h with ⟨h0, _⟩ | ⟨x, l2, c2, m, n, D, Pl, hc, hb, hl, hm, hmm, _, hall⟩
  · simp at h0
    obtain ⟨rfl, rfl, rfl⟩ := h0
    exact ⟨Nat.le_refl _, by simp [maxLen], fun i hi => by omega⟩
  · simp at hc
    obtain ⟨rfl, rfl, rfl⟩ := hc
    refine ⟨hl, hm, fun i hi => ?_⟩
    have him : i < m := by rw [hmm]; split <;> omega
    obtain ⟨cs, h1, h2⟩ := hall i him
    obtain ⟨_, hlen, hcell⟩ := World.cells?_some h1
    obtain ⟨b, off, spot⟩ := x
    have hspot : spot = none := by
      obtain ⟨cs0, z1, _⟩ := hall 0 (by rw [hmm]; split <;> omega)
      obtain ⟨_, _, zc⟩ := World.cells?_some z1
      have := zc 0 (by omega)
      rcases cs0 with _ | ⟨v, r⟩
      · have h3 := (World.cells?_some z1).2.1
        simp at h3
        omega
      · simpa [Addr.add] using World.cell?_spot this
    subst hspot
    refine ⟨b, off, cs, rfl, hlen, fun j hj => ?_, n, _, h2⟩
    have := hcell j hj
    rw [plain_add, plain_add] at this
    exact this

/- A call: its kind, its number, its text, the numbers to keep. -/
structure ActIs (w : World) (a : Option Addr) (i : Nat) (kind at' : Int) (s : List UInt8) (kv : Value) (keep : List Int) : Prop where
  cells : ∃ b off, a = some ⟨b, off, none⟩ ∧ w.cell? ⟨b, off + i * 4, none⟩ = some (.int .i64 kind) ∧ w.cell? ⟨b, off + i * 4 + 1, none⟩ = some (.int .i64 at') ∧ w.cell? ⟨b, off + i * 4 + 2, none⟩ = some (.string (S s)) ∧ w.cell? ⟨b, off + i * 4 + 3, none⟩ = some kv
  lo : -9223372036854775808 ≤ at'
  hi : at' ≤ 9223372036854775807
  row : ∃ ka kl kc, kv = .slice ka kl kc ∧ keep.length = kl ∧ kl ≤ kc ∧ NumRow w kv keep
def Acts (w : World) (a : Option Addr) (len : Nat) : Prop := ∀ i, i < len → ∃ kind at' s kv keep, ActIs w a i kind at' s kv keep

theorem pl_wf_i64 {n : Int} (h : (Lit.int .i64 n).wf = true) : -9223372036854775808 ≤ n ∧ n ≤ 9223372036854775807 := by
  simpa [Lit.wf, IntKind.min, IntKind.bits, IntKind.signed] using h

theorem acts_open {H : Type} {enc : TypeId × Value → H} {W : World} {base b0 : Nat} {spare : Nat → Bool} {held : Bool} {r : Reach} {v : Value} {d : DataW H} {p : List MemPlace}
    (hv : Value.okWide Try.prog W r b0 22 v) (hd : DataW.Trod enc Try.prog W base spare held 22 v d p) :
    ∃ a len cap, v = .slice a len cap ∧ len ≤ maxLen ∧ Acts W a len := by
  obtain ⟨a, len, cap, rfl⟩ := okWide_slice Try.underlying22 hv
  obtain ⟨fuel, hf⟩ := hd
  have ce : Try.prog.cellsOf 35 = 4 := by kernel_rfl
  have hf' : DataW.trod enc Try.prog W base spare held fuel 22 [.slice a len cap] = some (d, p) := by simpa [Value.cells] using hf
  obtain ⟨hl, hm, hall⟩ := slice_structs Try.underlying22 (by rw [ce]; decide) hf'
  rw [ce] at hall
  refine ⟨a, len, cap, rfl, by omega, fun i hi => ?_⟩
  obtain ⟨b, off, cs, rfl, hlen, hcell, n, y, htr⟩ := hall i hi
  match cs, hlen with
  | [v0, v1, v2, v3], _ =>
    obtain ⟨y0, y1, y2, y3, m, _, _, t0, t1, t2, t3⟩ := Go.Joins.trod_struct4 Try.underlying35 htr
    have c0 := hcell 0 (by omega)
    have c1 := hcell 1 (by omega)
    have c2 := hcell 2 (by omega)
    have c3 := hcell 3 (by omega)
    simp at c0 c1 c2 c3
    have x3 : Try.prog.cellsOf 3 = 1 := by kernel_rfl
    have x9 : Try.prog.cellsOf 9 = 1 := by kernel_rfl
    have x33 : Try.prog.cellsOf 33 = 1 := by kernel_rfl
    simp [x3] at t0 t1
    simp [x9] at t2
    simp [x33] at t3
    obtain ⟨k0, e0, _, w0⟩ := DataW.trod_int Try.underlying3 t0
    obtain ⟨k1, e1, _, w1⟩ := DataW.trod_int Try.underlying3 t1
    obtain ⟨k2, e2, _, w2⟩ := DataW.trod_string Try.underlying9 t2
    simp only [List.cons.injEq, and_true] at e0 e1 e2
    subst e0 e1 e2
    obtain ⟨h5, h6⟩ := pl_wf_i64 w1
    rcases open_ints Try.underlying33 Try.underlying3 x3 t3 with ⟨e3, _⟩ | ⟨x, kl, kc, zs, e3, _, hkl, hkm, hz, _, hzc, _⟩
    · simp only [List.cons.injEq, and_true] at e3
      subst e3
      exact ⟨k0, k1, k2.data.toList, _, [], ⟨b, off, rfl, c0, c1, c2, c3⟩, h5, h6, none, 0, 0, rfl, rfl, Nat.le_refl _, none, 0, rfl, fun j hj => by simp at hj⟩
    · simp only [List.cons.injEq, and_true] at e3
      subst e3
      have hzl : kl ≤ zs.length := by rw [hz]; split <;> omega
      refine ⟨k0, k1, k2.data.toList, _, zs.take kl, ⟨b, off, rfl, c0, c1, c2, c3⟩, h5, h6, some x, kl, kc, rfl, by simp; omega, hkl, some x, kc, by simp; omega, ?_⟩
      intro j hj
      simp at hj
      have h1 := hzc j (by omega)
      obtain ⟨bb, oo, spot⟩ := x
      have hspot : spot = none := by simpa [Addr.add] using World.cell?_spot (hzc 0 (by omega))
      subst hspot
      refine ⟨bb, oo, rfl, ?_⟩
      rw [← plain_add, h1, List.getElem_take]
      simp [List.getD, List.getElem?_eq_getElem (show j < zs.length by omega)]
theorem ActIs.later {w w' : World} {a : Option Addr} {i : Nat} {kind at' : Int} {s : List UInt8} {kv : Value} {keep : List Int} (h : ActIs w a i kind at' s kv keep) (hb : Below w.heap.size w w') : ActIs w' a i kind at' s kv keep := by
  obtain ⟨⟨b, off, ha, c0, c1, c2, c3⟩, h1, h2, ka, kl, kc, e, hk, hkc, hr⟩ := h
  refine ⟨⟨b, off, ha, ?_, ?_, ?_, ?_⟩, h1, h2, ka, kl, kc, e, hk, hkc, hr.later hb⟩
  · rw [hb.cell (p := ⟨b, off + i * 4, none⟩) (cell_lt c0)]; exact c0
  · rw [hb.cell (p := ⟨b, off + i * 4 + 1, none⟩) (cell_lt c1)]; exact c1
  · rw [hb.cell (p := ⟨b, off + i * 4 + 2, none⟩) (cell_lt c2)]; exact c2
  · rw [hb.cell (p := ⟨b, off + i * 4 + 3, none⟩) (cell_lt c3)]; exact c3
end Go.Proofs.Ytbggjkokfbcbcaa
