/- The contracts of slices.Clone at a device's rows, and of a device's Image and Clone. -/
import Derived.Test.YtbggjkokfbcbcaaDNew
import Derived.Test.YtbggjkokfbcbcaaDWrite
namespace Go.Proofs.Ytbggjkokfbcbcaa
open Go.RowKit
set_option linter.unusedVariables false

theorem secs_one (l : List (List UInt8)) : ∀ u ∈ secs l, u.oneCell' = true := by
  intro u hu
  simp only [secs, List.mem_map] at hu
  obtain ⟨s, _, rfl⟩ := hu
  rfl
theorem wrs_one : ∀ (l : List (Nat × List UInt8)), ∀ u ∈ wrs l, u.oneCell' = true
  | [], u, hu => by simp [wrs] at hu
  | x :: r, u, hu => by
    simp only [wrs, List.mem_cons] at hu
    rcases hu with rfl | rfl | hu
    · rfl
    · rfl
    · exact wrs_one r u hu
def cloneW_ren : Go.Shelf.Ren := ⟨fun | 41 => 36 | n => n, fun | 22 => 60 | 23 => 64 | 4 => 4 | n => n, fun | n => n⟩
theorem cloneW_lays : Go.Proofs.SlLaysE0.n41 Try.prog cloneW_ren := {
  mixed := by kernel_rfl
  f41 := ⟨Try.f36.name, by decide, Try.func36.trans (congrArg some (by kernel_rfl))⟩
  t4 := Try.underlying4
  a4 := Try.isAgg4
  z4 := Try.sizeOf4
  v4 := Try.zeroValue4
  t22 := Try.underlying60
  a22 := Try.isAgg60
  z22 := Try.sizeOf60
  v22 := Try.zeroValue60 }

theorem cloneS_any {base : Nat} {w : World} {sv : Value} {n : Nat} {l : List (List UInt8)} (h : w.ownsRow base 9 1 sv n (secs l)) (hn : n ≤ 1099511627776) :
    Calls Try.prog 35 #[sv] w fun e w' => ∃ v, e = .returned v ∧ w'.ownsRow w.heap.size 9 1 v n (secs l) ∧ Below w.heap.size w w' := by
  obtain ⟨i0, hi, hz0, hz1, hz2⟩ := info_parts info_string
  rcases h.2 with ⟨rfl, h0⟩ | ⟨g, cap, cur, rfl, hb, hh, hc, hm, hcs, ht⟩
  · subst h0
    have e : secs l = [] := List.eq_nil_of_length_eq_zero (by simpa using h.1)
    rw [e]
    refine (Try.slices_Clone_nil 0 0 w).mono fun e w' ⟨h1, h2⟩ => ?_
    subst h1 h2
    exact ⟨_, rfl, World.ownsRow_nil _ _ _ _, Below.refl _ _⟩
  · refine (Try.slices_Clone i0 (.string ⟨#[]⟩) 1 16 hi hz0 hz1 hz2 rfl (by decide) Try.sizeOf9 g 0 n cap (secs l) w h.1 (by unfold maxLen; omega) (by omega) (fun j u hu => ?_) (secs_one l)).mono fun e w' ⟨v, h1, h2, _, h3⟩ => ⟨v, h1, h2, h3⟩
    rw [Nat.zero_add]
    exact ownsRow_cell h rfl j u hu
theorem cloneW_any {base : Nat} {w : World} {sv : Value} {n : Nat} {l : List (Nat × List UInt8)} (h : w.ownsRow base 64 2 sv n (wrs l)) (hn : n ≤ 1099511627776) :
    Calls Try.prog 36 #[sv] w fun e w' => ∃ v, e = .returned v ∧ w'.ownsRow w.heap.size 64 2 v n (wrs l) ∧ Below w.heap.size w w' := by
  obtain ⟨i0, hi, hz0, hz1, hz2⟩ := info_parts info_write
  rcases h.2 with ⟨rfl, h0⟩ | ⟨g, cap, cur, rfl, hb, hh, hc, hm, hcs, ht⟩
  · subst h0
    have e : wrs l = [] := List.eq_nil_of_length_eq_zero (by simpa using h.1)
    rw [e]
    refine (AnyE.slices_Clone_nil cloneW_lays 0 0 w).mono fun e w' ⟨h1, h2⟩ => ?_
    subst h1 h2
    exact ⟨_, rfl, World.ownsRow_nil _ _ _ _, Below.refl _ _⟩
  · refine (AnyE.slices_Clone cloneW_lays i0 (.agg #[.int .i64 0, .string ⟨#[]⟩]) 2 24 hi hz0 hz1 hz2 rfl (by decide) Try.sizeOf64 g 0 n cap (wrs l) w h.1 (by unfold maxLen; omega) (by omega) (fun j u hu => ?_) (wrs_one l)).mono fun e w' ⟨v, h1, h2, _, h3⟩ => ⟨v, h1, h2, h3⟩
    rw [Nat.zero_add]
    exact ownsRow_cell h rfl j u hu

theorem image_any {base : Nat} {w : World} {b : Nat} {d : Dev} (h : DevAt base w b d) (hn : d.L.length ≤ 1099511627776) :
    Calls Try.prog 38 #[.pointer (some ⟨b, 0, none⟩)] w fun e w' => ∃ v, e = .returned v ∧ w'.ownsRow w.heap.size 9 1 v d.L.length (secs d.L) ∧ Below w.heap.size w w' := by
  obtain ⟨sv, lv, h⟩ := h
  have h0 := h.c0
  have HC := hide (cloneS_any h.sec hn)
  clear h
  go_enter Try.func38, Try.ntmps38
  go_wp2_with fail
  refine (unhide HC).mono ?_
  rintro e w1 ⟨v, rfl, h1, h2⟩
  have H1 := hide (And.intro h1 h2)
  clear h1 h2 HC h0
  go_wp2_with fail
  go_ret
  exact ⟨_, rfl, unhide H1⟩

set_option maxHeartbeats 1600000 in
theorem clone_any {base : Nat} {w : World} {b : Nat} {d : Dev} (h : DevAt base w b d) (hn : d.L.length ≤ 1099511627776) (hw : d.W.length ≤ 1099511627776) :
    Calls Try.prog 21 #[.pointer (some ⟨b, 0, none⟩)] w fun e w' => ∃ b', e = .returned (.pointer (some ⟨b', 0, none⟩)) ∧ DevAt w.heap.size w' b' d ∧ Below w.heap.size w w' := by
  obtain ⟨sv, lv, h⟩ := h
  obtain ⟨a0, c0, rfl, _⟩ := ownsRow_slice h.sec
  obtain ⟨a1, c1, rfl, _⟩ := ownsRow_slice h.loo
  have h0 := h.c0
  have h1 := h.c1
  have h2 := h.c2
  have h3 := h.c3
  have h4 := h.c4
  have h5 := h.c5
  have hlt := h.lt
  have HH := hide h
  clear h
  go_enter Try.func21, Try.ntmps21
  go_wp2_with fail
  have HL := fun o => ((unhide HH).later ((Below.refl _ w).alloc (Nat.le_refl _) o)).1
  have HL := hide HL
  refine (cloneS_any (unhide HL _).sec hn).mono ?_
  rintro e w1 ⟨v1, rfl, h6, h7⟩
  have hx := (h7.block w.heap.size (by simp)).trans (heap_alloc_new w _)
  have hc1 := (h7.cell (p := ⟨b, 1, none⟩) (by simp; omega)).trans (((unhide HL _).c1))
  have HL1 := hide ((unhide HL _).later h7).1
  have HB7 := hide ((((Below.refl w.heap.size w).alloc (Nat.le_refl _) _)).trans (h7.mono (by simp)))
  have hlt1 := (unhide HL1).lt
  have hs7 := h7.size
  rw [World.size_alloc] at hs7
  obtain ⟨N, hN⟩ : ∃ N, w.heap.size = N := ⟨_, rfl⟩
  have HR1 := hide (ownsRow_less h6 (base' := N) (by simp; omega))
  have hNb : N ≠ b := by omega
  have hN1 : v1.ownBlock ≠ some N := fun e => by
    have := (h6.lt N e).1
    simp at this
    omega
  have hsl := ownsRow_slice h6
  obtain ⟨a2, c2, rfl, _⟩ := hsl
  rw [hN] at hx hs7 HB7
  have hq0 := block_cell hx 0
  have hf0 := block_frozen hx 0
  simp only [List.getElem?_toArray, List.getElem?_cons_zero] at hq0
  clear h6 h7 HL h0 h1 h2 h3 h4 h5
  rw [hN]
  have HX := hide hx
  clear hx
  have hc1' : (w1.setCell ⟨N, 0, none⟩ (.slice a2 d.L.length c2)).cell? ⟨b, 1, none⟩ = some (.slice a1 d.W.length c1) := by
    rw [World.cell?_setCell_other _ _ _ _ (by simp)]; exact hc1
  have HC2 := hide (cloneW_any (ownsRow_same (w' := w1.setCell ⟨N, 0, none⟩ (.slice a2 d.L.length c2)) (unhide HL1).loo (fun k hk => heap_setCell_other w1 ⟨N, 0, none⟩ k _ (fun e => by
    subst e
    exact ownsRow_unlike (unhide HL1).loo (unhide HX) (by decide) hk))) hw)
  go_wp2_with fail
  refine (unhide HC2).mono ?_
  rintro e w2 ⟨v2, rfl, h8, h9⟩
  obtain ⟨a3, c3, rfl, _⟩ := ownsRow_slice h8
  have hx2 := (h9.block N (by simp; omega)).trans (heap_setCell_same w1 N 0 _ _ (.slice a2 d.L.length c2) (unhide HX))
  have hq1 := block_cell hx2 1
  have hf1 := block_frozen hx2 1
  simp [Array.setIfInBounds] at hq1
  have HX2 := hide hx2
  have H8 := hide h8
  have H9 := hide h9
  clear h8 h9 hx2 HC2 hq0 hf0 hc1 hc1'
  go_wp2_with fail
  go_ret
  have hs9 := (unhide H9).size
  rw [World.size_setCell] at hs9
  have hx3 := heap_setCell_same w2 N 1 _ _ (.slice a3 d.W.length c3) (unhide HX2)
  have ho : ∀ j, j ≠ N → (w2.setCell ⟨N, 1, none⟩ (.slice a3 d.W.length c3)).heap[j]? = w2.heap[j]? := fun j hj => heap_setCell_other w2 ⟨N, 1, none⟩ j _ hj
  rw [hN]
  refine ⟨N, rfl, ⟨_, _, Nat.le_refl _, by simpa [Array.setIfInBounds] using hx3, ?_, ?_⟩, ?_⟩
  · refine ownsRow_same (w := w1) (unhide HR1) fun k hk => ?_
    have hkN : k ≠ N := fun e => hN1 (by rw [hk, e])
    rw [ho k hkN, (unhide H9).block k (by simp; exact ((unhide HR1).lt k hk).2), heap_setCell_other w1 ⟨N, 0, none⟩ k _ hkN]
  · refine ownsRow_less (ownsRow_same (w := w2) (unhide H8) fun k hk => ho k (fun e => ?_)) (by simp; omega)
    have := ((unhide H8).lt k hk).1
    simp at this
    omega
  · refine Below.setCell (p := ⟨N, 1, none⟩) ?_ (Nat.le_refl _) _
    exact ((unhide HB7).setCell (p := ⟨N, 0, none⟩) (Nat.le_refl _) _).trans ((unhide H9).mono (by simp; omega))
end Go.Proofs.Ytbggjkokfbcbcaa
