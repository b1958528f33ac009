/- The calls that the statements on spaces are told; the contract of Cut. -/
import Derived.Test.YtemffpkpalncgaaAOpen
import Derived.Test.YtemffpkpalncgaaUBase
import Derived.ChangeSame
namespace Go.Proofs.Ytemffpkpalncgaa
open Go.RowKit Go.ChangeShapes Go.WideShapes
set_option linter.unusedVariables false

/- A call: its kind, its number. -/
structure UAct (w : World) (a : Option Addr) (i : Nat) (kind at' : Int) : Prop where
  cells : ∃ b off, a = some ⟨b, off, none⟩ ∧ w.cell? ⟨b, off + i * 2, none⟩ = some (.int .i64 kind) ∧ w.cell? ⟨b, off + i * 2 + 1, none⟩ = some (.int .i64 at')
  lo : -9223372036854775808 ≤ at'
  hi : at' ≤ 9223372036854775807
def UActs (w : World) (a : Option Addr) (len : Nat) : Prop := ∀ i, i < len → ∃ kind at', UAct w a i kind at'

theorem uacts_open {H : Type} {enc : TypeId × Value → H} {W : World} {base b0 : Nat} {spare : Nat → Bool} {held : Bool} {r : Reach} {v : Value} {d : DataW H} {p : List MemPlace}
    (hv : Value.okWide Try.prog W r b0 22 v) (hd : DataW.Trod enc Try.prog W base spare held 22 v d p) :
    ∃ a len cap, v = .slice a len cap ∧ len ≤ maxLen ∧ UActs W a len := by
  obtain ⟨a, len, cap, rfl⟩ := okWide_slice Try.underlying22 hv
  obtain ⟨fuel, hf⟩ := hd
  have ce : Try.prog.cellsOf 30 = 2 := by kernel_rfl
  have hf' : DataW.trod enc Try.prog W base spare held fuel 22 [.slice a len cap] = some (d, p) := by simpa [Value.cells] using hf
  obtain ⟨hl, hm, hall⟩ := slice_structs Try.underlying22 (by rw [ce]; decide) hf'
  rw [ce] at hall
  refine ⟨a, len, cap, rfl, by omega, fun i hi => ?_⟩
  obtain ⟨b, off, cs, rfl, hlen, hcell, n, y, htr⟩ := hall i hi
  match cs, hlen with
  | [v0, v1], _ =>
    obtain ⟨y0, y1, m, _, _, t0, t1⟩ := trod_struct2 Try.underlying30 htr
    have c0 := hcell 0 (by omega)
    have c1 := hcell 1 (by omega)
    simp at c0 c1
    have x3 : Try.prog.cellsOf 3 = 1 := by kernel_rfl
    simp [x3] at t0 t1
    obtain ⟨k0, e0, _, w0⟩ := DataW.trod_int Try.underlying3 t0
    obtain ⟨k1, e1, _, w1⟩ := DataW.trod_int Try.underlying3 t1
    simp only [List.cons.injEq, and_true] at e0 e1
    subst e0 e1
    obtain ⟨h5, h6⟩ := pl_wf_i64 w1
    exact ⟨k0, k1, ⟨b, off, rfl, c0, c1⟩, h5, h6⟩
theorem UAct.later {w w' : World} {a : Option Addr} {i : Nat} {kind at' : Int} (h : UAct w a i kind at') (hb : Below w.heap.size w w') : UAct w' a i kind at' := by
  obtain ⟨⟨b, off, ha, c0, c1⟩, h1, h2⟩ := h
  refine ⟨⟨b, off, ha, ?_, ?_⟩, h1, h2⟩
  · rw [hb.cell (p := ⟨b, off + i * 2, none⟩) (cell_lt c0)]; exact c0
  · rw [hb.cell (p := ⟨b, off + i * 2 + 1, none⟩) (cell_lt c1)]; exact c1
theorem UActs.later {w w' : World} {a : Option Addr} {len : Nat} (h : UActs w a len) (hb : Below w.heap.size w w') : UActs w' a len := fun i hi => by
  obtain ⟨k, n, h⟩ := h i hi
  exact ⟨k, n, h.later hb⟩

theorem u_take (l : List UInt8) (n : Nat) : (S l).extract 0 n = S (l.take n) := by
  apply ByteArray.ext
  simp [S]
theorem ucut_any (s : List UInt8) (n : Nat) (w : World) :
    Calls Try.prog 20 #[.string (S s), .int .i64 n] w fun e w' => e = .returned (.string (S (s.take n))) ∧ w' = w := by
  have ht : (S s).extract 0 n = S (s.take n) := u_take s n
  have hsz : (S s).size = s.length := rfl
  by_cases h : n < s.length
  · go_enter Try.func20, Try.ntmps20
    go_wp2
    go_ret
    exact ⟨rfl, rfl⟩
  · have e : s.take n = s := List.take_of_length_le (by omega)
    rw [e]
    clear e ht
    go_enter Try.func20, Try.ntmps20
    go_wp2
    go_ret
    exact ⟨rfl, rfl⟩
/- n & 15 + 1, and so on. -/
theorem u_mask (a : Int) (k : Nat) (m : Int) (hk : k < 60) (hm : (BitVec.ofInt 64 m).toNat = 2 ^ k - 1) : wrap64 (1 + bits .and .i64 a m) = (((a % (2 ^ k : Nat)).toNat + 1 : Nat) : Int) ∧ (a % (2 ^ k : Nat)).toNat < 2 ^ k := by
  have h1 : 2 ^ k ≤ 2 ^ 60 := Nat.pow_le_pow_right (by omega) (by omega)
  have h2 : 0 < 2 ^ k := Nat.two_pow_pos k
  have h3 := Int.emod_nonneg a (b := ((2 ^ k : Nat) : Int)) (by omega)
  have h4 := Int.emod_lt_of_pos a (b := ((2 ^ k : Nat) : Int)) (by omega)
  rw [pl_and_mask a k m (by omega) hm]
  unfold wrap64
  omega
theorem u_and255 (a : Int) (n : Nat) (h1 : 1 ≤ n) : ∃ k : Nat, k < n ∧ (bits .and .i64 a 255).tmod (n : Int) = (k : Int) := by
  have h := pl_and_mask a 8 255 (by omega) (by decide)
  have h3 : 0 ≤ bits .and .i64 a 255 := by rw [h]; exact Int.emod_nonneg _ (by decide)
  have h4 := Int.emod_nonneg (bits .and .i64 a 255) (b := (n : Int)) (by omega)
  have h5 := Int.emod_lt_of_pos (bits .and .i64 a 255) (b := (n : Int)) (by omega)
  exact ⟨((bits .and .i64 a 255) % (n : Int)).toNat, by omega, by rw [Int.tmod_eq_emod_of_nonneg h3]; omega⟩
end Go.Proofs.Ytemffpkpalncgaa
