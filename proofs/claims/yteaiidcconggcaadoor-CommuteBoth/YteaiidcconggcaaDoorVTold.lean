/- The contracts of the law's Told and Own: a state's rows, copied one by one. -/
import Derived.Test.YteaiidcconggcaaDoorVWith
namespace Go.Proofs.YteaiidcconggcaaDoor
open Go.RowKit
set_option linter.unusedVariables false
set_option maxRecDepth 100000

theorem under_rrows : Tryd.prog.underlying 36 = some (.slice 77) := by kernel_rfl
theorem info_rrow : (Tryd.prog.info? 77).map (fun i => (i.zero, i.size, i.bytes)) = some (some (.agg #[.string ⟨#[]⟩, .string ⟨#[]⟩]), 2, 32) := by kernel_rfl

/- Three boxes: a state's, a result's, and a new state's, which has its own rows. -/
structure Tx (w : World) (t tr : TypeId) (kd n : Int) (l : List (List UInt8 × List UInt8)) (v : Value) (wr : World) : Prop where
  low : Below w.heap.size w wr
  res : ∃ a b c t', wr.heap[w.heap.size + 1]? = some (.cells #[a, b, c] t' (0, 0))
  x : wr.heap[w.heap.size + 1 + 1]? = some (.cells #[.int .i64 kd, .int .i64 n, v] t (0, 0))
  own : wr.ownsRow (w.heap.size + 1 + 1 + 1) tr 2 v l.length (R9 l)
section
variable {w wr : World} {t tr : TypeId} {kd n : Int} {l : List (List UInt8 × List UInt8)} {v : Value}
theorem Tx.start (w : World) (o : Obj) (t tr t' : TypeId) (kd n : Int) (a b c : Value) : Tx w t tr kd n [] (.slice none 0 0) (((w.alloc o).alloc (.cells #[a, b, c] t')).alloc (.cells #[.int .i64 kd, .int .i64 n, .slice none 0 0] t)) := by
  refine ⟨((under_box o).alloc (by simp) _).alloc (by simp; omega) _, ⟨a, b, c, t', ?_⟩, ?_, World.ownsRow_nil _ _ _ _⟩
  · rw [Below.heap_alloc _ _ _ (by simp)]
    have := heap_alloc_new (w.alloc o) (.cells #[a, b, c] t')
    rwa [World.size_alloc] at this
  · have := heap_alloc_new ((w.alloc o).alloc (.cells #[a, b, c] t')) (.cells #[.int .i64 kd, .int .i64 n, .slice none 0 0] t)
    rwa [World.size_alloc, World.size_alloc] at this
theorem Tx.size (h : Tx w t tr kd n l v wr) : w.heap.size + 1 + 1 < wr.heap.size := block_lt h.x
theorem Tx.cells (h : Tx w t tr kd n l v wr) (w' : World) (hb : Below wr.heap.size wr w') : w'.cell? ⟨w.heap.size + 1 + 1, 0, none⟩ = some (.int .i64 kd) ∧ w'.cell? ⟨w.heap.size + 1 + 1, 1, none⟩ = some (.int .i64 n) ∧ w'.cell? ⟨w.heap.size + 1 + 1, 2, none⟩ = some v ∧ w'.frozen? ⟨w.heap.size + 1 + 1, 2, none⟩ = false := by
  have hx := (hb.block _ h.size).trans h.x
  refine ⟨?_, ?_, ?_, block_frozen hx 2⟩ <;> rw [block_cell hx] <;> rfl
theorem Tx.grown (h : Tx w t tr kd n l v wr) {o o' : Obj} {w2 : World} (hg : ((wr.alloc o).alloc o').grownBy w2 v.ownBlock) : Below (w.heap.size + 1 + 1 + 1) wr w2 ∧ w2.cell? ⟨w.heap.size + 1 + 1, 2, none⟩ = some v ∧ w2.frozen? ⟨w.heap.size + 1 + 1, 2, none⟩ = false := by
  have hs := h.size
  have hb : Below (w.heap.size + 1 + 1 + 1) wr w2 := ((((Below.refl (w.heap.size + 1 + 1 + 1) wr).alloc (by omega) o).alloc (by simp; omega) o').grown hg (by simp; omega) (fun j hj => (h.own.lt j hj).1))
  have hx := (hb.block (w.heap.size + 1 + 1) (by omega)).trans h.x
  exact ⟨hb, by rw [block_cell hx]; rfl, block_frozen hx 2⟩
theorem Tx.step (h : Tx w t tr kd n l v wr) {o o' : Obj} {w2 : World} {v' : Value} {r : List UInt8 × List UInt8} (hg : ((wr.alloc o).alloc o').grownBy w2 v.ownBlock) (ho : w2.ownsRow (w.heap.size + 1 + 1 + 1) tr 2 v' (l.length + 1) (R9 l ++ [.string (S r.1), .string (S r.2)])) :
    Tx w t tr kd n (l ++ [r]) v' (w2.setCell ⟨w.heap.size + 1 + 1, 2, none⟩ v') := by
  obtain ⟨hb, _, _⟩ := h.grown hg
  have hx := (hb.block (w.heap.size + 1 + 1) (by omega)).trans h.x
  obtain ⟨a, b, c, t', hr⟩ := h.res
  have hr2 := (hb.block (w.heap.size + 1) (by omega)).trans hr
  refine ⟨⟨hb.os.trans h.low.os, hb.tape.trans h.low.tape, hb.output.trans h.low.output, ?_, fun k hk => ?_⟩, ⟨a, b, c, t', ?_⟩, ?_, ?_⟩
  · have h1 := h.low.size
    have h2 := hb.size
    simp
    omega
  · rw [heap_setCell_other _ ⟨w.heap.size + 1 + 1, 2, none⟩ _ _ (by simp; omega), hb.block k (by omega)]; exact h.low.block k hk
  · rw [heap_setCell_other _ ⟨w.heap.size + 1 + 1, 2, none⟩ _ _ (by simp)]; exact hr2
  · have := heap_setCell_same w2 (w.heap.size + 1 + 1) 2 _ _ v' hx
    simpa [Array.setIfInBounds] using this
  · rw [List.length_append, R9_append]
    refine ownsRow_same ho fun k hk => ?_
    have := (ho.lt k hk).1
    rw [heap_setCell_other _ ⟨w.heap.size + 1 + 1, 2, none⟩ _ _ (by simp; omega)]
theorem Tx.done (h : Tx w t tr kd n l v wr) (a b c : Value) :
    (put3 wr (w.heap.size + 1) a b c).cell? ⟨w.heap.size + 1, 0, none⟩ = some a ∧ (put3 wr (w.heap.size + 1) a b c).cell? ⟨w.heap.size + 1, 1, none⟩ = some b ∧ (put3 wr (w.heap.size + 1) a b c).cell? ⟨w.heap.size + 1, 2, none⟩ = some c ∧
    Below w.heap.size w (put3 wr (w.heap.size + 1) a b c) ∧ (put3 wr (w.heap.size + 1) a b c).ownsRow w.heap.size tr 2 v l.length (R9 l) ∧ (∃ a0, wr.cell? ⟨w.heap.size + 1, 0, none⟩ = some a0) ∧ (∃ a0, wr.cell? ⟨w.heap.size + 1, 1, none⟩ = some a0) ∧ (∃ a0, wr.cell? ⟨w.heap.size + 1, 2, none⟩ = some a0) ∧ ∀ j, wr.frozen? ⟨w.heap.size + 1, j, none⟩ = false := by
  obtain ⟨a0, b0, c0, t', hr⟩ := h.res
  obtain ⟨p0, p1, p2⟩ := put3_cells hr a b c
  refine ⟨p0, p1, p2, ⟨h.low.os, h.low.tape, h.low.output, by rw [put3_size]; exact h.low.size, fun k hk => ?_⟩, ownsRow_less (ownsRow_same h.own fun k hk => ?_) (by omega), ⟨a0, by rw [block_cell hr]; rfl⟩, ⟨b0, by rw [block_cell hr]; rfl⟩, ⟨c0, by rw [block_cell hr]; rfl⟩, fun j => block_frozen hr j⟩
  · rw [put3_other _ _ _ _ (by omega)]; exact h.low.block k hk
  · have := (h.own.lt k hk).1
    rw [put3_other _ _ _ _ (by omega)]
end
theorem pair_new (w : World) (a b : Value) (t : TypeId) : ∀ j u, [a, b][j]? = some u → (w.alloc (.cells #[a, b] t)).cell? ((⟨w.heap.size, 0, none⟩ : Addr).add j) = some u := by
  intro j u hu
  rw [plain_add, Nat.zero_add, block_cell (heap_alloc_new w _)]
  match j, hu with
  | 0, hu => exact hu
  | 1, hu => exact hu
  | j + 2, hu => simp at hu

set_option maxHeartbeats 3200000 in
theorem own_any {w : World} {v : Value} {s : VS} (h : StAt w v s) (hs : s.rows.length ≤ 1000) :
    Calls Tryd.prog 23 #[v] w fun e w' => ∃ v', e = .returned v' ∧ StOwn w.heap.size 82 w' v' s ∧ Below w.heap.size w w' := by
  obtain ⟨i0, hi, hz0, hz1, hz2⟩ := info_parts info_vrow
  obtain ⟨k0, rfl, hr⟩ := h
  obtain ⟨a, c, rfl, hc, hm⟩ := hr.shape
  unfold maxLen at hm
  obtain ⟨kd, n, rows⟩ := s
  dsimp only at *
  have HROW := hide hr
  have HST := hide (Tx.start w (.cells #[.int .i64 kd, .int .i64 n, .slice a rows.length c] 38) 47 82 47 kd n (.int .i64 0) (.int .i64 0) (.slice none 0 0))
  have HTK : Hid (rows.take rows.length = rows) := List.take_length
  clear hr
  go_enter Tryd.func23, Tryd.ntmps23
  go_wp2_with fail
  go_loopw [14] (fun i wr => ∃ (k : Nat) (v : Value), k ≤ rows.length ∧ i = .int .i64 (k : Int) ∧ Tx w 47 82 kd n (rows.take k) v wr) (fun i _ => rows.length - (intOf i).toNat)
  case atStart => exact ⟨0, _, Nat.zero_le _, rfl, by rw [List.take_zero]; exact unhide HST⟩
  case round =>
    obtain ⟨k, v, hk, rfl, htx⟩ := hrel
    obtain ⟨xa, xc, rfl, _⟩ := ownsRow_slice htx.own
    have hlen : (rows.take k).length = k := by simp; omega
    rw [hlen] at htx
    have HTX := hide htx
    have hlow := htx.low
    clear htx HST
    by_cases hlt : k < rows.length
    · obtain ⟨b, off, rfl, hbl, e1, e2⟩ := (unhide HROW).at k hlt
      rw [← hlow.cell (p := ⟨b, off + k * 2, none⟩) hbl] at e1
      rw [← hlow.cell (p := ⟨b, off + k * 2 + 1, none⟩) hbl] at e2
      have hne : wr.heap.size ≠ b := by have := hlow.size; omega
      have HSN := hide (List.take_succ_eq_append_getElem hlt)
      generalize rows[k]'hlt = r at *
      obtain ⟨x, y⟩ := r
      dsimp only at *
      have hx1 := fun (o : Obj) => ((unhide HTX).cells _ (under_box o)).2.2.1
      have hi0 : (0 : Int) ≤ (k : Int) := by omega
      have hi1 : (k : Int) < ((rows.length : Nat) : Int) := by omega
      have HOW := hide (unhide HTX).own
      rw [hlen] at HOW
      have HLN := hide hlen
      have hsz := (unhide HTX).size
      clear hlow hlen
      go_wp2_with (first | (at_builtin; refine wpList_append_fresh rfl _ _ 45 rfl (w.heap.size + 1 + 1 + 1) 82 i0 (.agg #[.string ⟨#[]⟩, .string ⟨#[]⟩]) 2 32 under_vrows hi hz0 hz1 hz2 rfl (by decide) _ _ _ rfl (((unhide HOW).alloc _).alloc _) ⟨wr.heap.size + 1, 0, none⟩ 1 1 [.string (S x), .string (S y)] rfl rfl (by have := pair_new (wr.alloc (.cells #[.string (S x), .string (S y)] 77)) (.string (S x)) (.string (S y)) 82; rwa [World.size_alloc] at this) ?c2 ?c3 ?c4 ?c5 ?_) | fail)
      case c2 => intro u hu; simp at hu; rcases hu with rfl | rfl <;> rfl
      case c3 => unfold maxLen; omega
      case c4 => omega
      case c5 => simp; omega
      intro v' w2 hown' hgrow _
      obtain ⟨va, vc, rfl, _⟩ := ownsRow_slice hown'
      obtain ⟨_, y1, y2⟩ := (unhide HTX).grown hgrow
      have HN := hide ((unhide HTX).step (r := (x, y)) hgrow (by rw [unhide HLN]; exact hown'))
      rw [← unhide HSN] at HN
      clear hown' hgrow hx1 e1 e2 HOW
      go_wp2_with fail
      go_roundw
      case rel => exact ⟨k + 1, _, by omega, by go_num, unhide HN⟩
      case measure => simp [intOf]; omega
    · have hkn : k = rows.length := by omega
      subst hkn
      rw [unhide HTK] at HTX
      obtain ⟨x0, x1, x2, _⟩ := (unhide HTX).cells _ (Below.refl _ _)
      obtain ⟨z0, z1, z2, zlow, zown, ⟨y0, hy0⟩, ⟨y1, hy1⟩, ⟨y2, hy2⟩, zf⟩ := (unhide HTX).done (.int .i64 kd) (.int .i64 n) (.slice xa rows.length xc)
      unfold put3 at z0 z1 z2 zlow zown
      clear hlow HTX
      go_wp2_with fail
      exact bodyPost_ret (v := .agg #[.int .i64 kd, .int .i64 n, .slice xa rows.length xc]) (by simp [results, Tryd.results23, go_sem, z0, z1, z2]) rfl ⟨_, rfl, ⟨_, rfl, zown⟩, zlow⟩
end Go.Proofs.YteaiidcconggcaaDoor
