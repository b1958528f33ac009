/- The contracts of a device's Spoil and Crash. -/
import Derived.Test.YtbggjkokfbcbcabDoorDFlush
namespace Go.Proofs.YtbggjkokfbcbcabDoor
open Go.RowKit
set_option linter.unusedVariables false
set_option maxRecDepth 100000

set_option maxHeartbeats 1600000 in
theorem spoil_any {base : Nat} {w : World} {b : Nat} {d : Dev} (h : DevAt base w b d) (i : Int) (s : List UInt8) (hm : d.L.length ≤ 1099511627776) :
    Calls Tryd.prog 16 #[.pointer (some ⟨b, 0, none⟩), .int .i64 i, .string (S s)] w fun e w' => e = .returned (.tuple #[]) ∧ DevAt base w' b (d.spoil i s) ∧ DStep b w w' := by
  have HHAS := hide (has_any h i)
  have HW := hide (fun w => whole_any s w)
  have HH := hide h
  obtain ⟨z, hz⟩ : ∃ z, whole s = z := ⟨_, rfl⟩
  by_cases hno : d.no i
  · have e : d.spoil i s = d := by unfold Dev.spoil; rw [if_pos hno]
    rw [e]
    rw [decide_eq_true hno] at HHAS
    clear e h HW
    go_enter Tryd.func16, Tryd.ntmps16
    go_wp2_with fail
    refine (unhide HHAS).mono ?_
    rintro e w1 ⟨rfl, rfl⟩
    go_wp2_with fail
    go_end0
    exact ⟨rfl, unhide HH, DStep.refl _ _⟩
  · have e : d.spoil i s = { d with L := d.L.set i.toNat z } := by unfold Dev.spoil; rw [if_neg hno, hz]
    rw [e]
    rw [decide_eq_false hno] at HHAS
    rw [hz] at HW
    clear e HH hz
    obtain ⟨x, rfl⟩ : ∃ x : Nat, i = (x : Int) := ⟨i.toNat, by unfold Dev.no at hno; omega⟩
    have hx : x < d.L.length := by unfold Dev.no at hno; omega
    obtain ⟨sv, lv, h⟩ := h
    obtain ⟨a2, c2, rfl, has⟩ := ownsRow_slice h.sec
    obtain ⟨g, rfl⟩ := has (by omega)
    have hc0 := h.c0
    have hsec : w.cell? ⟨g, x, none⟩ = some (.string (S (d.L[x]'hx))) := ownsRow_cell h.sec rfl x _ (by simp [secs, List.getElem?_eq_getElem hx])
    have hfz : w.frozen? ⟨g, x, none⟩ = false := by
      obtain ⟨cur, hh, _⟩ := ownsRow_blk h.sec (k := g) rfl
      exact block_frozen hh x
    have hblt := h.lt
    have hglt := cell_lt hsec
    have hi1 : (0 : Int) ≤ (x : Int) := by omega
    have hi2 : (x : Int) < (d.L.length : Int) := by omega
    generalize d.L[x]'hx = old at *
    rw [Int.toNat_natCast]
    have HH := hide h
    clear h has hno
    go_enter Tryd.func16, Tryd.ntmps16
    go_wp2_with fail
    refine (unhide HHAS).mono ?_
    rintro e w1 ⟨rfl, rfl⟩
    clear HHAS
    go_wp2_with fail
    go_region_with (go_at_call 32; refine (unhide HW _).mono ?_; rintro e w2 ⟨rfl, hb2⟩; replace hb2 := below_undrew hb2; have hc2 := (hb2.cell (p := ⟨b, 0, none⟩) (by simpa using hblt)).trans hc0; have hs2 := (hb2.cell (p := ⟨g, x, none⟩) (by simpa using hglt)).trans hsec; have hf2 := (hb2.frozen (p := ⟨g, x, none⟩) (by simpa using hglt)).trans hfz; have HB2 := hide hb2; clear hb2)
    all_goals
      clear hc0 hsec hfz hc2 hs2 hf2
      go_wp2
      go_end0
      have h2 := (unhide HH).later (unhide HB2)
      have h3 := h2.1.setSector rfl x z
      exact ⟨rfl, ⟨_, _, h3.1⟩, h2.2.trans h3.2⟩

/- A row of numbers, wherever it lies. -/
def NumRow (w : World) (v : Value) (l : List Int) : Prop := ∃ ao c, v = .slice ao l.length c ∧ ∀ j (h : j < l.length), ∃ bk off, ao = some ⟨bk, off, none⟩ ∧ w.cell? ⟨bk, off + j, none⟩ = some (.int .i64 (l[j]'h))

theorem chosen_take (keep : List Int) (ws : List (Nat × List UInt8)) (k : Nat) (h : k < ws.length) : chosen keep (ws.take (k + 1)) = if keep.contains (k : Int) then chosen keep (ws.take k) ++ [ws[k]'h] else chosen keep (ws.take k) := by
  rw [List.take_succ_eq_append_getElem h]
  unfold chosen
  rw [List.zipIdx_append]
  have e : (ws.take k).length = k := by simp; omega
  rw [e]
  simp only [List.zipIdx_cons, List.zipIdx_nil, List.filter_append, List.map_append, List.filter_cons, List.filter_nil, Nat.zero_add]
  split <;> simp_all
theorem lay_snoc (l : List (List UInt8)) (ws : List (Nat × List UInt8)) (x : Nat × List UInt8) : lay l (ws ++ [x]) = (lay l ws).set x.1 x.2 := by
  unfold lay; rw [List.foldl_append]; rfl

/- Which of n writes are chosen by the first k numbers. -/
def bl (keep : List Int) (n k : Nat) : List Value := (List.range n).map fun (j : Nat) => Value.bool ((keep.take k).contains (j : Int))
theorem bl_length (keep : List Int) (n k : Nat) : (bl keep n k).length = n := by simp [bl]
theorem bl_get (keep : List Int) (n k j : Nat) (h : j < n) : (bl keep n k)[j]? = some (.bool ((keep.take k).contains (j : Int))) := by simp [bl, h]
theorem bl_zero (keep : List Int) (n : Nat) : bl keep n 0 = List.replicate n (.bool false) := by
  simp [bl, List.map_const']
theorem contains_take (keep : List Int) (k : Nat) (h : k < keep.length) (x : Int) : (keep.take (k + 1)).contains x = ((keep.take k).contains x || (keep[k]'h == x)) := by
  rw [List.take_succ_eq_append_getElem h]
  simp only [List.contains_eq_mem, List.mem_append, List.mem_singleton]
  by_cases h1 : x ∈ keep.take k
  · simp [h1]
  · by_cases h2 : x = keep[k]
    · subst h2; simp
    · have h3 : ¬keep[k] = x := fun e => h2 e.symm
      simp [h1, h2, h3]
theorem bl_out (keep : List Int) (n k : Nat) (h : k < keep.length) (hx : (keep[k]'h) < 0 ∨ (n : Int) ≤ (keep[k]'h)) : bl keep n (k + 1) = bl keep n k := by
  unfold bl
  apply List.map_congr_left
  intro j hj
  rw [contains_take _ _ h]
  have hj := List.mem_range.1 hj
  have : (keep[k]'h == (j : Int)) = false := by
    simp; omega
  rw [this]; simp
theorem bl_in (keep : List Int) (n k : Nat) (h : k < keep.length) (y : Nat) (hx : (keep[k]'h) = (y : Int)) (hy : y < n) : (bl keep n k).set y (.bool true) = bl keep n (k + 1) := by
  apply List.ext_getElem?
  intro j
  by_cases hj : j < n
  · rw [bl_get _ _ _ _ hj, contains_take _ _ h, List.getElem?_set, hx]
    by_cases e : y = j
    · subst e; simp [bl_length, hj]
    · rw [if_neg e, bl_get _ _ _ _ hj]
      have : ((y : Int) == (j : Int)) = false := by simp; omega
      rw [this]; simp
  · rw [List.getElem?_eq_none (by simp [bl_length]; omega), List.getElem?_eq_none (by simp [bl_length]; omega)]
theorem bl_all (keep : List Int) (n j : Nat) (h : j < n) : (bl keep n keep.length)[j]? = some (.bool (keep.contains (j : Int))) := by
  rw [bl_get _ _ _ _ h, List.take_length]

theorem info_bool : (Tryd.prog.info? 4).map (fun i => (i.zero, i.size, i.bytes)) = some (some (.bool false), 1, 1) := by kernel_rfl
end Go.Proofs.YtbggjkokfbcbcabDoor
