/- The program's table of words, as its own text lays it. -/
import Derived.Test.YtlanogkijgapdaaDoorVWords
import Derived.Test.YtlanogkijgapdaaDoorRows
import Derived.Lib.LaidTab
import Derived.Lib.SmallJoins
namespace Go.Proofs.YtlanogkijgapdaaDoor
open Go.RowKit Go.ChangeShapes Go.WideShapes
set_option linter.unusedVariables false
set_option maxRecDepth 100000

theorem cells_of_texts {H : Type} {enc : TypeId × Value → H} {P : Program} {w : World} {base : Nat} {sp : Nat → Bool} {held : Bool} {fuel : Nat} {t e : TypeId} {n : Nat} {cs : List Value} {zs : List (List UInt8)} {p : List MemPlace}
    (ht : P.underlying t = some (.array n e)) (he : P.underlying e = some .string) (hce : P.cellsOf e = 1) (hct : P.cellsOf t = n)
    (h : DataW.trod enc P w base sp held fuel t cs = some (.agg (zs.map fun z => .lit (.string z)), p)) (i : Nat) (hi : i < zs.length) : cs[i]? = some (.string (S (zs[i]'hi))) := by
  cases fuel with
  | zero => simp [DataW.trod] at h
  | succ fuel =>
    simp only [DataW.trod, ht, hce, hct, Nat.mul_one] at h
    split at h
    · rename_i hl
      obtain ⟨xs, hm, hx⟩ := Option.map_eq_some_iff.1 h
      have hxs : xs.map (·.1) = zs.map fun z => (DataW.lit (.string z) : DataW H) := by
        have := congrArg Prod.fst hx
        simpa using this
      have hxl : xs.length = n := by simpa using Lib.mapM_length hm
      have hzl : zs.length = n := by
        have := congrArg List.length hxs
        simp at this
        omega
      obtain ⟨b, hb, hf⟩ := Lib.mapM_at hm i i (List.getElem?_range (by omega))
      have hb1 : b.1 = DataW.lit (.string (zs[i]'hi)) := by
        have h1 := congrArg (fun l => l[i]?) hxs
        simp only [List.getElem?_map, hb, Option.map_some, List.getElem?_eq_getElem hi, Option.some.injEq] at h1
        exact h1
      obtain ⟨d, q⟩ := b
      dsimp only at hb1
      subst hb1
      obtain ⟨s, e1, e2, _⟩ := DataW.trod_string he hf
      have hcl : i < cs.length := by omega
      rw [List.drop_eq_getElem_cons hcl, List.take_succ_cons, List.take_zero] at e1
      rw [List.getElem?_eq_getElem hcl, (List.cons.inj e1).1]
      have e3 : zs[i]'hi = s.data.toList := by
        have e4 := congrArg Prod.fst e2
        simpa using e4
      rw [e3]
      rfl
    · cases h

theorem words_of_laid {w : World} (h : laidMetH Tryd.prog [("armoire/value.words", Rows.laid_armoire_value_words)] w) : WD w := by
  have h' : laidMet Tryd.prog [("armoire/value.words", Rows.laid_armoire_value_words)] w := h
  obtain ⟨ps, ⟨g, t, cs, fuel, p, q, hg, ht, hcs, htr, _⟩, _⟩ := h'
  have hg0 : Tryd.prog.globalNamed "armoire/value.words" = some 0 := by kernel_rfl
  have e1 := Option.some.inj (hg0.symm.trans hg)
  subst e1
  have ht0 : (Tryd.prog.globals[0]?).map (·.type) = some 91 := by kernel_rfl
  have e2 := Option.some.inj (ht0.symm.trans ht)
  subst e2
  intro k hk
  have hc := cells_of_texts (zs := words) (P := Tryd.prog) Tryd.underlying91 Tryd.underlying9 (by kernel_rfl) (by kernel_rfl) htr k hk
  rw [World.var?_cell hg0 hcs k]
  simpa using hc
end Go.Proofs.YtlanogkijgapdaaDoor
