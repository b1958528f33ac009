/- The contracts of the reference's last, Put, Flush. -/
import Derived.Test.YtbggjkokfbcbcaaDRef
namespace Go.Proofs.Ytbggjkokfbcbcaa
open Go.RowKit
set_option linter.unusedVariables false

theorem info_rwrite : (Try.prog.info? 68).map (fun i => (i.zero, i.size, i.bytes)) = some (some (.agg #[.int .i64 0, .string ⟨#[]⟩]), 2, 24) := by kernel_rfl
theorem under_rwrites : Try.prog.underlying 29 = some (.slice 68) := by kernel_rfl

theorem src_of_row {P : Program} {w w0 : World} {base : Nat} {t e : TypeId} {size : Nat} {v : Value} {n : Nat} {xs : List Value} (ht : P.underlying t = some (.slice e)) (h : w.ownsRow base e size v n xs) (h1 : ∀ u ∈ xs, u.oneCell' = true) : Src P size t v n xs w := by
  rcases h.2 with ⟨rfl, rfl⟩ | ⟨g, cap, cur, rfl, hb, hh, _⟩
  · have e : xs = [] := List.eq_nil_of_length_eq_zero (by simpa using h.1)
    subst e
    exact Src.ofNil _ ht 0
  · refine Src.ofSlice _ ht _ n cap xs h.1 (fun j u hu => ?_) h1
    rw [plain_add, Nat.zero_add]
    exact ownsRow_cell h rfl j u hu
/- A row, copied behind an empty one. -/
theorem run_copy_all {P : Program} (w : World) (base : Nat) (t ty e : TypeId) (i : TypeInfo) (z : Value) (size bytes : Nat) (ht : P.underlying t = some (.slice e)) (hi : P.info? e = some i) (hz : i.zero = some z)
    (hsize : i.size = size) (hby : i.bytes = bytes) (hzs : z.cells.size = size) (hsz : 0 < size) (v : Value) (n : Nat) (xs : List Value) (hown : w.ownsRow base e size v n xs) (h1 : ∀ u ∈ xs, u.oneCell' = true)
    (h63 : n ≤ maxLen) (hbytes : n * bytes ≤ 140737488355328) :
    ∃ a c w', (Builtin.append_ #[t, t] ty #[.slice (some ⟨w.heap.size, 0, none⟩) 0 0, v]).run P (w.alloc (.cells #[] e)) = .ok (.slice (some a) n c) w' ∧ w'.ownsRow w.heap.size e size (.slice (some a) n c) n xs ∧ Below w.heap.size w w' := by
  have h0 : (w.alloc (.cells #[] e)).ownsRow w.heap.size e size (.slice (some ⟨w.heap.size, 0, none⟩) 0 0) 0 [] := World.ownsRow_lit w #[] 0 (Nat.le_refl _) (by simp [maxLen]) (by simp)
  have hb : Below w.heap.size w (w.alloc (.cells #[] e)) := (Below.refl _ _).alloc (Nat.le_refl _) _
  obtain ⟨v', w', hr, ho, hg, _, hne⟩ := run_append_src (P := P) (w.alloc (.cells #[] e)) w.heap.size t t ty e i z size bytes ht hi hz hsize hby hzs hsz _ 0 [] h0 (by simp) v n xs (src_of_row (w0 := w) ht (ownsRow_later hown hb) h1) (by omega) (by simpa using hbytes) (by simp)
  rw [Nat.zero_add, List.nil_append] at ho
  have hb2 : Below w.heap.size w w' := hb.grown hg (by simp) (fun j hj => (h0.lt j hj).1)
  rcases ho.2 with ⟨e1, _⟩ | ⟨g, cap, cur, rfl, _⟩
  · exact absurd e1 hne
  · exact ⟨_, cap, w', hr, ho, hb2⟩

/- An append whose outcome is known, as one operation of a plain region. -/
theorem wpList_append_is {P : Program} {w : World} {ops : Array Oper} {rest : List Oper} {o : Oper} {a : Act} {Q : Exit → Act → World → Prop} (hgd : o.guard = none) (s x : Operand) (t : TypeId)
    (ho : o.op = .call { callee := .builtin .append, args := #[s, x], argTypes := #[t, t] }) (v y v' : Value) (w' : World) (hs : a.eval s = v) (hx : a.eval x = y)
    (hr : (Builtin.append_ #[t, t] o.type #[v, y]).run P w = .ok v' w') (h : wpList P ops Q rest (a.put o.dst v') w') : wpList P ops Q (o :: rest) a w := by
  refine wpList_plain hgd fun K hK => ?_
  unfold Oper.wp execOp
  simp only [ho, resolve, invoke, builtin, Sem.run_bind, Sem.run_pure, Result.andThen_ok, List.map_toArray, List.map_cons, List.map_nil, hs, hx, hr]
  exact hK _ _ h

set_option maxHeartbeats 1600000 in
theorem last_any {base base2 : Nat} {w : World} {lv cv : Value} {L : List (List UInt8)} {W : List (Nat × List UInt8)} (hs : w.ownsRow base 9 1 lv L.length (secs L)) (hc : w.ownsRow base2 68 2 cv W.length (wrs W))
    (hok : ∀ x ∈ W, x.1 < L.length) (hm : L.length ≤ 1099511627776) (hn : W.length ≤ 1099511627776) :
    Calls Try.prog 34 #[lv, cv] w fun e w' => ∃ v, e = .returned v ∧ w'.ownsRow w.heap.size 9 1 v L.length (secs (lay L W)) ∧ Below w.heap.size w w' := by
  obtain ⟨i0, hi, hz0, hz1, hz2⟩ := info_parts info_string
  obtain ⟨g, cg, w1, hrun, ho1, hb1⟩ := run_copy_all (P := Try.prog) w base 28 28 9 i0 (.string ⟨#[]⟩) 1 16 under_strings hi hz0 hz1 hz2 rfl (by decide) lv L.length (secs L) hs (secs_one L) (by unfold maxLen; omega) (by omega)
  obtain ⟨a0, c0, rfl, _⟩ := ownsRow_slice hs
  obtain ⟨a1, c1, rfl, ha1⟩ := ownsRow_slice hc
  obtain ⟨n, hnn⟩ : ∃ n, W.length = n := ⟨_, rfl⟩
  have HN := hide hnn
  have HOK := hide hok
  have HC := hide hc
  have HO1 := hide ho1
  have HB1 := hide hb1
  rw [hnn] at ha1 hn HC ⊢
  have hg0 : ∃ gb, g = ⟨gb, 0, none⟩ ∧ w.heap.size ≤ gb := by
    rcases ho1.2 with ⟨e, _⟩ | ⟨gb, cap, cur, e, h, _⟩
    · cases e
    · cases e; exact ⟨gb, rfl, h⟩
  obtain ⟨gb, rfl, hgb⟩ := hg0
  have HRUN := hide hrun
  clear hnn hok hc hs ho1 hb1 hrun
  go_enter Try.func34, Try.ntmps34
  go_wp2_with (first | (at_builtin; refine wpList_append_is rfl _ _ 28 rfl _ _ _ _ rfl rfl (unhide HRUN) ?_) | fail)
  clear HRUN
  go_wp2_with fail
  go_loopw [13] (fun i wr => ∃ k : Nat, k ≤ n ∧ i = .int .i64 k ∧ wr.ownsRow w.heap.size 9 1 (.slice (some ⟨gb, 0, none⟩) L.length cg) L.length (secs (lay L (W.take k))) ∧ Below w.heap.size w wr) (fun i _ => n - (intOf i).toNat)
  case atStart =>
    exact ⟨0, Nat.zero_le _, rfl, unhide HO1, unhide HB1⟩
  case round =>
    obtain ⟨k, hk, rfl, ho, hb⟩ := hrel
    clear HO1 HB1
    by_cases hlt : k < n
    · have hkW : k < W.length := by have := unhide HN; omega
      obtain ⟨g1, rfl⟩ := ha1 (by omega)
      have hg := wrs_get W k hkW
      have hlc := ownsRow_later (unhide HC) hb
      have hx0 := ownsRow_cell hlc (g := g1) (c := c1) rfl _ _ hg.1
      have hx1 := ownsRow_cell hlc (g := g1) (c := c1) rfl _ _ hg.2
      have hlay := lay_take L W k hkW
      have hat := unhide HOK (W[k]'hkW) (List.getElem_mem hkW)
      clear hg hlc
      generalize W[k]'hkW = y at *
      obtain ⟨y, t⟩ := y
      dsimp only at hx0 hx1 hlay hat
      have hLl : (lay L (W.take k)).length = L.length := lay_length _ _
      have hcy : wr.cell? ⟨gb, y, none⟩ = some (.string (S ((lay L (W.take k))[y]'(by omega)))) := ownsRow_cell ho rfl y _ (by simp [secs, List.getElem?_eq_getElem (show y < (lay L (W.take k)).length by omega)])
      generalize (lay L (W.take k))[y]'(by omega) = old at *
      have hfy : wr.frozen? ⟨gb, y, none⟩ = false := by
        obtain ⟨cur, hh, _⟩ := ownsRow_blk ho (k := gb) rfl
        exact block_frozen hh y
      have hglt := cell_lt hcy
      have hbl : ∀ o, Below wr.heap.size wr (wr.alloc o) := fun o => (Below.refl _ wr).alloc (Nat.le_refl _) o
      have hcA : ∀ o, (wr.alloc o).cell? ⟨gb, y, none⟩ = some (.string (S old)) := fun o => ((hbl o).cell (p := ⟨gb, y, none⟩) hglt).trans hcy
      have hfA : ∀ o, (wr.alloc o).frozen? ⟨gb, y, none⟩ = false := fun o => ((hbl o).frozen (p := ⟨gb, y, none⟩) hglt).trans hfy
      have hi1 : (0 : Int) ≤ (y : Int) := by omega
      have hi2 : (y : Int) < (L.length : Int) := by omega
      have hk1 : (0 : Int) ≤ (k : Int) := by omega
      have hk2 : (k : Int) < (n : Int) := by omega
      have HST : Hid (∀ o, ((wr.setCell ⟨gb, y, none⟩ (.string (S t))).alloc o).ownsRow w.heap.size 9 1 (.slice (some ⟨gb, 0, none⟩) L.length cg) L.length (secs (lay L (W.take (k + 1))))) := fun o => by
        have := ownsRow_store ho rfl y (.string (S t))
        rw [hlay]
        exact (World.ownsRow.alloc (by simpa [secs, List.map_set] using this) _)
      have HB2 : Hid (∀ o, Below w.heap.size w ((wr.setCell ⟨gb, y, none⟩ (.string (S t))).alloc o)) := fun o => (hb.setCell (p := ⟨gb, y, none⟩) hgb _).alloc (by simpa using hb.size) o
      clear hb ho hlay hbl hLl hat
      go_wp2_with fail
      go_roundw
      case rel => exact ⟨k + 1, by omega, by go_num, unhide HST _, unhide HB2 _⟩
      case measure => simp [intOf]; omega
    · have : k = n := by omega
      subst this
      have e : W.take k = W := List.take_of_length_le (by have := unhide HN; omega)
      rw [e] at ho
      have HO := hide ho
      have HB := hide hb
      clear ho hb e
      go_wp2_with fail
      go_ret
      exact ⟨_, rfl, unhide HO, unhide HB⟩
end Go.Proofs.Ytbggjkokfbcbcaa
