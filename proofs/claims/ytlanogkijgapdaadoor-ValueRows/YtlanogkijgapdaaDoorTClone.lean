/- The contracts of slices.Clone at rows of two texts, of a state's Clone, of New. -/
import Derived.Test.YtlanogkijgapdaaDoorVTold
import Derived.Test.YtlanogkijgapdaaDoorVLike
import Derived.Shelf.SlicesE.Clone
namespace Go.Proofs.YtlanogkijgapdaaDoor
open Go.RowKit
set_option linter.unusedVariables false
set_option maxRecDepth 100000

def cloneR_ren : Go.Shelf.Ren := ⟨fun | 41 => 54 | n => n, fun | 22 => 22 | 23 => 47 | 4 => 4 | n => n, fun | n => n⟩
theorem cloneR_lays : Go.Proofs.SlLaysE0.n41 Tryd.prog cloneR_ren := {
  mixed := by kernel_rfl
  f41 := ⟨Tryd.f54.name, by decide, Tryd.func54.trans (congrArg some (by kernel_rfl))⟩
  t4 := Tryd.underlying4
  a4 := Tryd.isAgg4
  z4 := Tryd.sizeOf4
  v4 := Tryd.zeroValue4
  t22 := Tryd.underlying22
  a22 := Tryd.isAgg22
  z22 := Tryd.sizeOf22
  v22 := Tryd.zeroValue22 }
theorem rclone_any {base : Nat} {w : World} {sv : Value} {l : List (List UInt8 × List UInt8)} (h : w.ownsRow base 47 2 sv l.length (R9 l)) (hn : l.length ≤ 1000) :
    Calls Tryd.prog 54 #[sv] w fun e w' => ∃ v, e = .returned v ∧ w'.ownsRow w.heap.size 47 2 v l.length (R9 l) ∧ Below w.heap.size w w' := by
  obtain ⟨i0, hi, hz0, hz1, hz2⟩ := info_parts info_vrow
  rcases h.2 with ⟨rfl, h0⟩ | ⟨g, cap, cur, rfl, hb, hh, hc, hm, hcs, ht⟩
  · have e : l = [] := List.eq_nil_of_length_eq_zero h0
    subst e
    refine (AnyE.slices_Clone_nil cloneR_lays 0 0 w).mono fun e w' ⟨h1, h2⟩ => ?_
    subst h1 h2
    exact ⟨_, rfl, World.ownsRow_nil _ _ _ _, Below.refl _ _⟩
  · refine (AnyE.slices_Clone cloneR_lays i0 (.agg #[.string ⟨#[]⟩, .string ⟨#[]⟩]) 2 32 hi hz0 hz1 hz2 rfl (by decide) Tryd.sizeOf47 g 0 l.length cap (R9 l) w h.1 (by unfold maxLen; omega) (by omega) (fun j u hu => ?_) (R9_one l)).mono fun e w' ⟨v, h1, h2, _, h3⟩ => ⟨v, h1, h2, h3⟩
    rw [Nat.zero_add]
    exact ownsRow_cell h rfl j u hu
section
variable {w w1 : World} {a b c a' b' c' : Value} {t t' : TypeId}
theorem B2.blocks (h : B2 w (.cells #[a, b, c] t (0, 0)) (.cells #[a', b', c'] t' (0, 0)) w1) : w1.heap[w.heap.size]? = some (.cells #[a, b, c] t (0, 0)) ∧ w1.heap[w.heap.size + 1]? = some (.cells #[a', b', c'] t' (0, 0)) ∧ w.heap.size + 1 + 1 ≤ w1.heap.size := by
  have hs := Below.size h
  rw [World.size_alloc, World.size_alloc] at hs
  refine ⟨?_, ?_, hs⟩
  · rw [Below.block h _ (by omega), Below.heap_alloc _ _ _ (by simp)]; exact heap_alloc_new w _
  · rw [Below.block h _ (by omega)]
    have := heap_alloc_new (w.alloc (.cells #[a, b, c] t)) (.cells #[a', b', c'] t')
    rwa [World.size_alloc] at this
theorem B2.facts (h : B2 w (.cells #[a, b, c] t (0, 0)) (.cells #[a', b', c'] t' (0, 0)) w1) : (w1.cell? ⟨w.heap.size, 0, none⟩ = some a ∧ w1.cell? ⟨w.heap.size, 1, none⟩ = some b ∧ w1.cell? ⟨w.heap.size, 2, none⟩ = some c) ∧ (w1.cell? ⟨w.heap.size + 1, 0, none⟩ = some a' ∧ w1.cell? ⟨w.heap.size + 1, 1, none⟩ = some b' ∧ w1.cell? ⟨w.heap.size + 1, 2, none⟩ = some c') ∧ (∀ j, w1.frozen? ⟨w.heap.size, j, none⟩ = false) ∧ ∀ j, w1.frozen? ⟨w.heap.size + 1, j, none⟩ = false := by
  obtain ⟨h1, h2, _⟩ := h.blocks
  refine ⟨⟨?_, ?_, ?_⟩, ⟨?_, ?_, ?_⟩, fun j => block_frozen h1 j, fun j => block_frozen h2 j⟩ <;> first | (rw [block_cell h1]; rfl) | (rw [block_cell h2]; rfl)
/- A cell of the first box is written, then all of the second. -/
theorem B2.done (h : B2 w (.cells #[a, b, c] t (0, 0)) (.cells #[a', b', c'] t' (0, 0)) w1) (k : Nat) (v x y z : Value) :
    (put3 (w1.setCell ⟨w.heap.size, k, none⟩ v) (w.heap.size + 1) x y z).cell? ⟨w.heap.size + 1, 0, none⟩ = some x ∧ (put3 (w1.setCell ⟨w.heap.size, k, none⟩ v) (w.heap.size + 1) x y z).cell? ⟨w.heap.size + 1, 1, none⟩ = some y ∧ (put3 (w1.setCell ⟨w.heap.size, k, none⟩ v) (w.heap.size + 1) x y z).cell? ⟨w.heap.size + 1, 2, none⟩ = some z ∧
    Below w.heap.size w (put3 (w1.setCell ⟨w.heap.size, k, none⟩ v) (w.heap.size + 1) x y z) ∧
    ∀ (base : Nat) (u : Value) (nn : Nat) (xs : List Value) (e : TypeId), w.heap.size + 1 + 1 ≤ base → w1.ownsRow base e 2 u nn xs → (put3 (w1.setCell ⟨w.heap.size, k, none⟩ v) (w.heap.size + 1) x y z).ownsRow w.heap.size e 2 u nn xs := by
  obtain ⟨h1, h2, hs⟩ := h.blocks
  have hl := h.low
  have ho (j : Nat) (hj : j ≠ w.heap.size) : (w1.setCell ⟨w.heap.size, k, none⟩ v).heap[j]? = w1.heap[j]? := heap_setCell_other _ ⟨w.heap.size, k, none⟩ _ _ hj
  have h3 : (w1.setCell ⟨w.heap.size, k, none⟩ v).heap[w.heap.size + 1]? = some (.cells #[a', b', c'] t' (0, 0)) := by rw [ho _ (by omega)]; exact h2
  obtain ⟨p0, p1, p2⟩ := put3_cells h3 x y z
  refine ⟨p0, p1, p2, ⟨hl.os, hl.tape, hl.output, by rw [put3_size]; simpa using hl.size, fun j hj => ?_⟩, fun base u nn xs e hbs hu => ownsRow_less (ownsRow_same hu fun j hj => ?_) (by omega)⟩
  · rw [put3_other _ _ _ _ (by omega), ho _ (by omega)]; exact hl.block j hj
  · have := (hu.lt j hj).1
    rw [put3_other _ _ _ _ (by omega), ho _ (by omega)]
end
section
variable {w w1 : World} {a b c : Value} {t : TypeId}
/- All of a box is written. -/
theorem Bx.done (h : Bx w (.cells #[a, b, c] t (0, 0)) w1) (x y z : Value) :
    (put3 w1 w.heap.size x y z).cell? ⟨w.heap.size, 0, none⟩ = some x ∧ (put3 w1 w.heap.size x y z).cell? ⟨w.heap.size, 1, none⟩ = some y ∧ (put3 w1 w.heap.size x y z).cell? ⟨w.heap.size, 2, none⟩ = some z ∧
    Below w.heap.size w (put3 w1 w.heap.size x y z) ∧
    (∀ (base k : Nat) (u : Value) (nn : Nat) (xs : List Value) (e : TypeId), w.heap.size + 1 ≤ base → w1.ownsRow base e k u nn xs → (put3 w1 w.heap.size x y z).ownsRow w.heap.size e k u nn xs) ∧
    w1.cell? ⟨w.heap.size, 0, none⟩ = some a ∧ w1.cell? ⟨w.heap.size, 1, none⟩ = some b ∧ w1.cell? ⟨w.heap.size, 2, none⟩ = some c ∧ ∀ j, w1.frozen? ⟨w.heap.size, j, none⟩ = false := by
  have hh := h.heap
  have hl := h.low
  obtain ⟨p0, p1, p2⟩ := put3_cells hh x y z
  refine ⟨p0, p1, p2, ⟨hl.os, hl.tape, hl.output, by rw [put3_size]; exact hl.size, fun j hj => ?_⟩, fun base k u nn xs e hbs hu => ownsRow_less (ownsRow_same hu fun j hj => ?_) (by omega), by rw [block_cell hh]; rfl, by rw [block_cell hh]; rfl, by rw [block_cell hh]; rfl, fun j => block_frozen hh j⟩
  · rw [put3_other _ _ _ _ (by omega)]; exact hl.block j hj
  · have := (hu.lt j hj).1
    rw [put3_other _ _ _ _ (by omega)]
end
theorem vclone_any {base : Nat} {w : World} {v : Value} {s : VS} (h : StOwn base 47 w v s) (hs : s.rows.length ≤ 1000) :
    Calls Tryd.prog 24 #[v] w fun e w' => ∃ v', e = .returned v' ∧ StOwn w.heap.size 47 w' v' s ∧ Below w.heap.size w w' := by
  obtain ⟨k0, rfl, hr⟩ := h
  obtain ⟨a, c, rfl, _⟩ := ownsRow_slice hr
  obtain ⟨kd, n, rows⟩ := s
  dsimp only at *
  have HCL := hide (fun (w1 : World) (hb : Below w.heap.size w w1) => rclone_any (ownsRow_below hr hb) hs)
  have HST := hide (B2.start w (.cells #[.int .i64 kd, .int .i64 n, .slice a rows.length c] 24) (.cells #[.int .i64 0, .int .i64 0, .slice none 0 0] 24))
  clear hr
  go_enter Tryd.func24, Tryd.ntmps24
  go_wp2_with fail
  refine (unhide HCL _ (unhide HST).low).mono ?_
  rintro e w2 ⟨v', rfl, ho, hb⟩
  obtain ⟨va, vc, rfl, _⟩ := ownsRow_slice ho
  have hst : B2 w _ _ w2 := Below.trans (unhide HST) (hb.mono (by simp))
  obtain ⟨⟨c0, c1, c2⟩, ⟨d0, d1, d2⟩, f0, f1⟩ := hst.facts
  obtain ⟨z0, z1, z2, zl, zo⟩ := hst.done 2 (.slice va rows.length vc) (.int .i64 kd) (.int .i64 n) (.slice va rows.length vc)
  have ZO := hide (zo _ _ _ _ _ (by simp) ho)
  unfold put3 at z0 z1 z2 zl ZO
  have ZL := hide zl
  clear hst ho hb zo zl HCL HST
  go_wp2_with fail
  exact bodyPost_ret (v := .agg #[.int .i64 kd, .int .i64 n, .slice va rows.length vc]) (by simp [results, Tryd.results24, go_sem, z0, z1, z2]) rfl ⟨_, rfl, ⟨_, rfl, unhide ZO⟩, unhide ZL⟩
theorem vnew_any {w : World} (kd : Int) :
    Calls Tryd.prog 29 #[.int .i64 kd] w fun e w' => e = .returned (.agg #[.int .i64 kd, .int .i64 0, .slice none 0 0]) ∧ Below w.heap.size w w' := by
  go_enter Tryd.func29, Tryd.ntmps29
  go_wp2_with fail
  exact bodyPost_ret (v := .agg #[.int .i64 kd, .int .i64 0, .slice none 0 0]) (by simp [results, Tryd.results29, go_sem]) rfl ⟨rfl, under_box _⟩
end Go.Proofs.YtlanogkijgapdaaDoor
