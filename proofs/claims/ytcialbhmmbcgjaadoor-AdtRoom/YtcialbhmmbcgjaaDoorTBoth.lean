/- Both tables, where a row lays two. -/
import Derived.Test.YtcialbhmmbcgjaaDoorMLaid
import Derived.Test.YtcialbhmmbcgjaaDoorVLaid
namespace Go.Proofs.YtcialbhmmbcgjaaDoor
open Go.RowKit Go.ChangeShapes Go.WideShapes
set_option linter.unusedVariables false
set_option maxRecDepth 100000

theorem facts_of_vars {w : World} {r : List (String × DataW Unit)} {ps : List MemPlace} (h : DataW.LaidVars Tryd.prog w (("armoire/method.factsOf", Rows.laid_armoire_method_factsOf) :: r) ps) : MD w := by
  obtain ⟨g, t, cs, fuel, p, q, hg, ht, hcs, htr, _, _⟩ := h
  have hg0 : Tryd.prog.globalNamed "armoire/method.factsOf" = some 1 := by kernel_rfl
  have e1 := Option.some.inj (hg0.symm.trans hg)
  subst e1
  have ht0 : (Tryd.prog.globals[1]?).map (·.type) = some 111 := by kernel_rfl
  have e2 := Option.some.inj (ht0.symm.trans ht)
  subst e2
  intro k hk
  have hc := fact_table (zs := mfacts) (P := Tryd.prog) Tryd.underlying111 Tryd.underlying100 (by kernel_rfl) Tryd.underlying9 Tryd.underlying3 Tryd.underlying4 (by kernel_rfl) (by kernel_rfl) (by kernel_rfl) (by kernel_rfl) htr k hk
  rw [World.var?_cell hg0 hcs, World.var?_cell hg0 hcs, World.var?_cell hg0 hcs, World.var?_cell hg0 hcs, World.var?_cell hg0 hcs]
  simpa using hc
theorem words_of_vars {w : World} {r : List (String × DataW Unit)} {ps : List MemPlace} (h : DataW.LaidVars Tryd.prog w (("armoire/value.words", Rows.laid_armoire_value_words) :: r) ps) : WD w := by
  obtain ⟨g, t, cs, fuel, p, q, hg, ht, hcs, htr, _, _⟩ := h
  have hg0 : Tryd.prog.globalNamed "armoire/value.words" = some 0 := by kernel_rfl
  have e1 := Option.some.inj (hg0.symm.trans hg)
  subst e1
  have ht0 : (Tryd.prog.globals[0]?).map (·.type) = some 107 := by kernel_rfl
  have e2 := Option.some.inj (ht0.symm.trans ht)
  subst e2
  intro k hk
  have hc := cells_of_texts (zs := words) (P := Tryd.prog) Tryd.underlying107 Tryd.underlying9 (by kernel_rfl) (by kernel_rfl) htr k hk
  rw [World.var?_cell hg0 hcs k]
  simpa using hc
theorem both_of_laid {w : World} (h : laidMetH Tryd.prog [("armoire/value.words", Rows.laid_armoire_value_words), ("armoire/method.factsOf", Rows.laid_armoire_method_factsOf)] w) : MD w ∧ WD w := by
  have h' : laidMet Tryd.prog [("armoire/value.words", Rows.laid_armoire_value_words), ("armoire/method.factsOf", Rows.laid_armoire_method_factsOf)] w := h
  obtain ⟨ps, hv, _⟩ := h'
  have hw := words_of_vars hv
  obtain ⟨g, t, cs, fuel, p, q, _, _, _, _, hr, _⟩ := hv
  exact ⟨facts_of_vars hr, hw⟩
end Go.Proofs.YtcialbhmmbcgjaaDoor
