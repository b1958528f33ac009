/- The program's table of ops, as its own text lays it. -/
import Derived.Test.YteaiidcconggcaaDoorMFacts
import Derived.Test.YteaiidcconggcaaDoorRows
import Derived.Lib.LaidTab
import Derived.Lib.SmallJoins
namespace Go.Proofs.YteaiidcconggcaaDoor
open Go.RowKit Go.ChangeShapes Go.WideShapes
set_option linter.unusedVariables false
set_option maxRecDepth 100000

theorem take_one {cs : List Value} {i : Nat} {v : Value} (h : (cs.drop i).take 1 = [v]) : cs[i]? = some v := by
  have := congrArg (fun l => l[0]?) h
  simpa [List.getElem?_take, List.getElem?_drop] using this
def mdatum {H : Type} (f : MF) : DataW H := .agg [.lit (.string f.word), .lit (.int .i64 f.kind), .lit (.bool f.a), .lit (.bool f.b), .lit (.bool f.n)]
theorem fact_cells {H : Type} {enc : TypeId × Value → H} {P : Program} {w : World} {base : Nat} {sp : Nat → Bool} {held : Bool} {fuel : Nat} {e ts ti tb : TypeId} {fs : Array Field} {cs : List Value} {f : MF} {p : List MemPlace}
    (he : P.underlying e = some (.struct fs)) (hf : fs.toList.map (fun x => (x.type, x.offset)) = [(ts, 0), (ti, 1), (tb, 2), (tb, 3), (tb, 4)])
    (hs : P.underlying ts = some .string) (hi : P.underlying ti = some (.int .i64)) (hb : P.underlying tb = some .bool) (c1 : P.cellsOf ts = 1) (c2 : P.cellsOf ti = 1) (c3 : P.cellsOf tb = 1)
    (h : DataW.trod enc P w base sp held fuel e cs = some (mdatum f, p)) :
    cs[0]? = some (.string (S f.word)) ∧ cs[1]? = some (.int .i64 f.kind) ∧ cs[2]? = some (.bool f.a) ∧ cs[3]? = some (.bool f.b) ∧ cs[4]? = some (.bool f.n) := by
  cases fuel with
  | zero => simp [DataW.trod] at h
  | succ fuel =>
    simp only [DataW.trod, he] at h
    split at h
    · obtain ⟨xs, hm, hx⟩ := Option.map_eq_some_iff.1 h
      have hxs : xs.map (·.1) = [.lit (.string f.word), .lit (.int .i64 f.kind), .lit (.bool f.a), .lit (.bool f.b), .lit (.bool f.n)] := by
        have := congrArg Prod.fst hx
        simpa [mdatum] using this
      have hat : ∀ (i : Nat) (ty : TypeId) (o : Nat), ([(ts, 0), (ti, 1), (tb, 2), (tb, 3), (tb, 4)] : List (TypeId × Nat))[i]? = some (ty, o) → ∃ b, xs[i]? = some b ∧ DataW.trod enc P w base sp held fuel ty ((cs.drop o).take (P.cellsOf ty)) = some b := fun i ty o hy => by
        rw [← hf, List.getElem?_map] at hy
        obtain ⟨x, hx1, hx2⟩ := Option.map_eq_some_iff.1 hy
        obtain ⟨b, hb1, hb2⟩ := Lib.mapM_at hm i x hx1
        injection hx2 with e1 e2
        subst e1 e2
        exact ⟨b, hb1, hb2⟩
      have hget : ∀ (i : Nat) (b : DataW H × List MemPlace) (d : DataW H), xs[i]? = some b → ([.lit (.string f.word), .lit (.int .i64 f.kind), .lit (.bool f.a), .lit (.bool f.b), .lit (.bool f.n)] : List (DataW H))[i]? = some d → b.1 = d := fun i b d h1 h2 => by
        rw [← hxs, List.getElem?_map, h1] at h2
        exact Option.some.inj h2
      refine ⟨?_, ?_, ?_, ?_, ?_⟩
      · obtain ⟨b, h1, h2⟩ := hat 0 ts 0 rfl
        obtain ⟨s, e1, e2, _⟩ := DataW.trod_string hs h2
        have e3 := hget 0 b _ h1 rfl
        rw [c1] at e1
        rw [take_one e1]
        rw [e2] at e3
        have e4 : s.data.toList = f.word := by simpa using e3
        rw [← e4]
        rfl
      · obtain ⟨b, h1, h2⟩ := hat 1 ti 1 rfl
        obtain ⟨s, e1, e2, _⟩ := DataW.trod_int hi h2
        have e3 := hget 1 b _ h1 rfl
        rw [c2] at e1
        rw [take_one e1]
        rw [e2] at e3
        have e4 : s = f.kind := by simpa using e3
        rw [e4]
      · obtain ⟨b, h1, h2⟩ := hat 2 tb 2 rfl
        obtain ⟨s, e1, e2⟩ := DataW.trod_bool hb h2
        have e3 := hget 2 b _ h1 rfl
        rw [c3] at e1
        rw [take_one e1]
        rw [e2] at e3
        have e4 : s = f.a := by simpa using e3
        rw [e4]
      · obtain ⟨b, h1, h2⟩ := hat 3 tb 3 rfl
        obtain ⟨s, e1, e2⟩ := DataW.trod_bool hb h2
        have e3 := hget 3 b _ h1 rfl
        rw [c3] at e1
        rw [take_one e1]
        rw [e2] at e3
        have e4 : s = f.b := by simpa using e3
        rw [e4]
      · obtain ⟨b, h1, h2⟩ := hat 4 tb 4 rfl
        obtain ⟨s, e1, e2⟩ := DataW.trod_bool hb h2
        have e3 := hget 4 b _ h1 rfl
        rw [c3] at e1
        rw [take_one e1]
        rw [e2] at e3
        have e4 : s = f.n := by simpa using e3
        rw [e4]
    · cases h
theorem fact_table {H : Type} {enc : TypeId × Value → H} {P : Program} {w : World} {base : Nat} {sp : Nat → Bool} {held : Bool} {fuel : Nat} {t e ts ti tb : TypeId} {n : Nat} {fs : Array Field} {cs : List Value} {zs : List MF} {p : List MemPlace}
    (ht : P.underlying t = some (.array n e)) (he : P.underlying e = some (.struct fs)) (hf : fs.toList.map (fun x => (x.type, x.offset)) = [(ts, 0), (ti, 1), (tb, 2), (tb, 3), (tb, 4)])
    (hs : P.underlying ts = some .string) (hi : P.underlying ti = some (.int .i64)) (hb : P.underlying tb = some .bool) (c1 : P.cellsOf ts = 1) (c2 : P.cellsOf ti = 1) (c3 : P.cellsOf tb = 1) (ce : P.cellsOf e = 5)
    (h : DataW.trod enc P w base sp held fuel t cs = some (.agg (zs.map mdatum), p)) (i : Nat) (hlt : i < zs.length) :
    cs[i * 5]? = some (.string (S (zs[i]'hlt).word)) ∧ cs[i * 5 + 1]? = some (.int .i64 (zs[i]'hlt).kind) ∧ cs[i * 5 + 2]? = some (.bool (zs[i]'hlt).a) ∧ cs[i * 5 + 3]? = some (.bool (zs[i]'hlt).b) ∧ cs[i * 5 + 4]? = some (.bool (zs[i]'hlt).n) := by
  cases fuel with
  | zero => simp [DataW.trod] at h
  | succ fuel =>
    simp only [DataW.trod, ht, ce] at h
    split at h
    · obtain ⟨xs, hm, hx⟩ := Option.map_eq_some_iff.1 h
      have hxs : xs.map (·.1) = zs.map mdatum := by
        have := congrArg Prod.fst hx
        simpa using this
      have hxl : xs.length = n := by simpa using Lib.mapM_length hm
      have hzl : zs.length = n := by
        have := congrArg List.length hxs
        simp at this
        omega
      obtain ⟨b, hb1, hb2⟩ := Lib.mapM_at hm i i (List.getElem?_range (by omega))
      have hd : b.1 = mdatum (zs[i]'hlt) := by
        have h1 := congrArg (fun l => l[i]?) hxs
        simp only [List.getElem?_map, hb1, Option.map_some, List.getElem?_eq_getElem hlt, Option.some.injEq] at h1
        exact h1
      obtain ⟨d, q⟩ := b
      dsimp only at hd
      subst hd
      have hc := fact_cells he hf hs hi hb c1 c2 c3 hb2
      simpa [List.getElem?_take, List.getElem?_drop] using hc
    · cases h

theorem facts_of_laid {w : World} (h : laidMetH Tryd.prog [("armoire/method.factsOf", Rows.laid_armoire_method_factsOf)] w) : MD w := by
  have h' : laidMet Tryd.prog [("armoire/method.factsOf", Rows.laid_armoire_method_factsOf)] w := h
  obtain ⟨ps, ⟨g, t, cs, fuel, p, q, hg, ht, hcs, htr, _⟩, _⟩ := h'
  have hg0 : Tryd.prog.globalNamed "armoire/method.factsOf" = some 0 := by kernel_rfl
  have e1 := Option.some.inj (hg0.symm.trans hg)
  subst e1
  have ht0 : (Tryd.prog.globals[0]?).map (·.type) = some 108 := by kernel_rfl
  have e2 := Option.some.inj (ht0.symm.trans ht)
  subst e2
  intro k hk
  have hc := fact_table (zs := mfacts) (P := Tryd.prog) Tryd.underlying108 Tryd.underlying90 (by kernel_rfl) Tryd.underlying9 Tryd.underlying3 Tryd.underlying4 (by kernel_rfl) (by kernel_rfl) (by kernel_rfl) (by kernel_rfl) htr k hk
  rw [World.var?_cell hg0 hcs, World.var?_cell hg0 hcs, World.var?_cell hg0 hcs, World.var?_cell hg0 hcs, World.var?_cell hg0 hcs]
  simpa using hc
end Go.Proofs.YteaiidcconggcaaDoor
