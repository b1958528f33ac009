/- A row that is copied by an append to an empty one; an append whose outcome is known. -/
import Derived.Test.YteaiidcconggcaaDoorBundleC1
import Derived.Test.YteaiidcconggcaaDoorDBase
namespace Go.Proofs.YteaiidcconggcaaDoor
open Go.RowKit
set_option linter.unusedVariables false
set_option maxRecDepth 100000

theorem src_of_row {P : Program} {w w0 : World} {base : Nat} {t e : TypeId} {size : Nat} {v : Value} {n : Nat} {xs : List Value} (ht : P.underlying t = some (.slice e)) (h : w.ownsRow base e size v n xs) (h1 : ∀ u ∈ xs, u.oneCell' = true) : Src P size t v n xs w := by
  rcases h.2 with ⟨rfl, rfl⟩ | ⟨g, cap, cur, rfl, hb, hh, _⟩
  · have e : xs = [] := List.eq_nil_of_length_eq_zero (by simpa using h.1)
    subst e
    exact Src.ofNil _ ht 0
  · refine Src.ofSlice _ ht _ n cap xs h.1 (fun j u hu => ?_) h1
    rw [plain_add, Nat.zero_add]
    exact ownsRow_cell h rfl j u hu
/- A row, copied behind an empty one. -/
theorem run_copy_all {P : Program} (w : World) (base : Nat) (t ty e : TypeId) (i : TypeInfo) (z : Value) (size bytes : Nat) (ht : P.underlying t = some (.slice e)) (hi : P.info? e = some i) (hz : i.zero = some z)
    (hsize : i.size = size) (hby : i.bytes = bytes) (hzs : z.cells.size = size) (hsz : 0 < size) (v : Value) (n : Nat) (xs : List Value) (hown : w.ownsRow base e size v n xs) (h1 : ∀ u ∈ xs, u.oneCell' = true)
    (h63 : n ≤ maxLen) (hbytes : n * bytes ≤ 140737488355328) :
    ∃ a c w', (Builtin.append_ #[t, t] ty #[.slice (some ⟨w.heap.size, 0, none⟩) 0 0, v]).run P (w.alloc (.cells #[] e)) = .ok (.slice (some a) n c) w' ∧ w'.ownsRow w.heap.size e size (.slice (some a) n c) n xs ∧ Below w.heap.size w w' := by
  have h0 : (w.alloc (.cells #[] e)).ownsRow w.heap.size e size (.slice (some ⟨w.heap.size, 0, none⟩) 0 0) 0 [] := World.ownsRow_lit w #[] 0 (Nat.le_refl _) (by simp [maxLen]) (by simp)
  have hb : Below w.heap.size w (w.alloc (.cells #[] e)) := (Below.refl _ _).alloc (Nat.le_refl _) _
  obtain ⟨v', w', hr, ho, hg, _, hne⟩ := run_append_src (P := P) (w.alloc (.cells #[] e)) w.heap.size t t ty e i z size bytes ht hi hz hsize hby hzs hsz _ 0 [] h0 (by simp) v n xs (src_of_row (w0 := w) ht (ownsRow_below hown hb) h1) (by omega) (by simpa using hbytes) (by simp)
  rw [Nat.zero_add, List.nil_append] at ho
  have hb2 : Below w.heap.size w w' := hb.grown hg (by simp) (fun j hj => (h0.lt j hj).1)
  rcases ho.2 with ⟨e1, _⟩ | ⟨g, cap, cur, rfl, _⟩
  · exact absurd e1 hne
  · exact ⟨_, cap, w', hr, ho, hb2⟩

/- An append whose outcome is known, as one operation of a plain region. -/
theorem wpList_append_is {P : Program} {w : World} {ops : Array Oper} {rest : List Oper} {o : Oper} {a : Act} {Q : Exit → Act → World → Prop} (hgd : o.guard = none) (s x : Operand) (t : TypeId)
    (ho : o.op = .call { callee := .builtin .append, args := #[s, x], argTypes := #[t, t] }) (v y v' : Value) (w' : World) (hs : a.eval s = v) (hx : a.eval x = y)
    (hr : (Builtin.append_ #[t, t] o.type #[v, y]).run P w = .ok v' w') (h : wpList P ops Q rest (a.put o.dst v') w') : wpList P ops Q (o :: rest) a w := by
  refine wpList_plain hgd fun K hK => ?_
  unfold Oper.wp execOp
  simp only [ho, resolve, invoke, builtin, Sem.run_bind, Sem.run_pure, Result.andThen_ok, List.map_toArray, List.map_cons, List.map_nil, hs, hx, hr]
  exact hK _ _ h

end Go.Proofs.YteaiidcconggcaaDoor
