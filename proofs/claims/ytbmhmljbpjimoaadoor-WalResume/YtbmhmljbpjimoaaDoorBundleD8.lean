/- Texts that this proof needs, one behind the other: DAwake, DArgs. -/
import Derived.Test.YtbmhmljbpjimoaaDoorBundleD4
/- The document's sector of a text, and the answers that the statements ask for first. -/
namespace Go.Proofs.YtbmhmljbpjimoaaDoor
open Go.RowKit
set_option linter.unusedVariables false
set_option maxRecDepth 100000

theorem whole_take (s : List UInt8) (k : Nat) (hk : k ≤ 64) (h : 64 ≤ s.length + k) : (s ++ List.replicate k 0).take 64 = whole s := by
  unfold whole
  have e : List.replicate 64 (0 : UInt8) = List.replicate k 0 ++ List.replicate (64 - k) 0 := by
    rw [List.replicate_append_replicate]; congr 1; omega
  rw [e, ← List.append_assoc]
  exact (List.take_append_of_le_length (by simp; omega)).symm
theorem numRow_one (w : World) (x : Int) (t : TypeId) : NumRow (w.alloc (.cells #[.int .i64 x] t)) (.slice (some ⟨w.heap.size, 0, none⟩) 1 1) [x] := by
  refine ⟨some ⟨w.heap.size, 0, none⟩, 1, rfl, fun j hj => ⟨w.heap.size, 0, rfl, ?_⟩⟩
  obtain rfl : j = 0 := by simp at hj; omega
  rw [block_cell (heap_alloc_new w _)]
  rfl
theorem dS_snoc (l : List UInt8) (c : UInt8) : S l ++ ⟨#[c]⟩ = S (l ++ [c]) := by
  apply ByteArray.ext
  apply Array.ext'
  simp [S]
theorem dS_take (l : List UInt8) (n : Nat) : (S l).extract 0 n = S (l.take n) := by
  apply ByteArray.ext
  apply Array.ext'
  simp [S]

end Go.Proofs.YtbmhmljbpjimoaaDoor
/- What a walk is told of slices of texts and of numbers that came in; the contracts of Cut and few. -/
namespace Go.Proofs.YtbmhmljbpjimoaaDoor
open Go.RowKit
set_option linter.unusedVariables false
set_option maxRecDepth 100000

def IsStrs (w : World) (a : Option Addr) (len cap : Nat) (zs : List ByteArray) : Prop :=
  (a = none ∧ len = 0 ∧ cap = 0 ∧ zs = []) ∨
  ∃ x, a = some x ∧ len ≤ cap ∧ cap ≤ maxLen ∧ zs.length = cap ∧ (∀ i, i < zs.length → w.cell? (x.add i) = some (.string (zs.getD i ByteArray.empty))) ∧ ∀ s ∈ zs, s.size ≤ maxLen
def IsInts (w : World) (a : Option Addr) (len cap : Nat) (zs : List Int) : Prop :=
  (a = none ∧ len = 0 ∧ cap = 0 ∧ zs = []) ∨
  ∃ x, a = some x ∧ len ≤ cap ∧ cap ≤ maxLen ∧ zs.length = cap ∧ (∀ i, i < zs.length → w.cell? (x.add i) = some (.int .i64 (zs.getD i 0))) ∧ ∀ n ∈ zs, (Lit.int .i64 n).wf = true

/- A row of texts, wherever it lies. -/
def StrRow (w : World) (a : Option Addr) (l : List (List UInt8)) : Prop := ∀ j (h : j < l.length), ∃ bk off, a = some ⟨bk, off, none⟩ ∧ w.cell? ⟨bk, off + j, none⟩ = some (.string (S (l[j]'h)))
theorem IsStrs.norm {w : World} {a : Option Addr} {len cap : Nat} {zs : List ByteArray} (h : IsStrs w a len cap zs) :
    ∃ l : List (List UInt8), l.length = len ∧ len ≤ maxLen ∧ (∀ i (hi : i < l.length), l[i].length ≤ maxLen) ∧ StrRow w a l := by
  rcases h with ⟨rfl, rfl, rfl, rfl⟩ | ⟨x, rfl, hl, hm, hz, hc, hs⟩
  · exact ⟨[], rfl, by simp [maxLen], by simp, fun i hi => by simp at hi⟩
  · refine ⟨(zs.take len).map (fun s => s.data.toList), by simp; omega, by omega, ?_, ?_⟩
    · intro i hi
      rw [List.getElem_map]
      apply hs
      rw [List.getElem_take]
      exact List.getElem_mem _
    · intro i hi
      simp at hi
      have h1 := hc i (by omega)
      obtain ⟨b, off, spot⟩ := x
      have hspot : spot = none := by simpa [Addr.add] using World.cell?_spot (hc 0 (by omega))
      subst hspot
      have h2 : w.cell? ⟨b, off + i, none⟩ = some (.string (zs.getD i ByteArray.empty)) := by rw [← plain_add]; exact h1
      refine ⟨b, off, rfl, ?_⟩
      rw [h2, List.getElem_map, List.getElem_take, S_eta]
      simp [List.getD, List.getElem?_eq_getElem (show i < zs.length by omega)]
theorem IsInts.norm {w : World} {a : Option Addr} {len cap : Nat} {zs : List Int} (h : IsInts w a len cap zs) :
    ∃ l : List Int, l.length = len ∧ len ≤ maxLen ∧ len ≤ cap ∧ NumRow w (.slice a len cap) l := by
  rcases h with ⟨rfl, rfl, rfl, rfl⟩ | ⟨x, rfl, hl, hm, hz, hc, hs⟩
  · exact ⟨[], rfl, by simp [maxLen], by omega, none, 0, rfl, fun i hi => by simp at hi⟩
  · refine ⟨zs.take len, by simp; omega, by omega, hl, some x, cap, by simp; omega, ?_⟩
    intro i hi
    simp at hi
    have h1 := hc i (by omega)
    obtain ⟨b, off, spot⟩ := x
    have hspot : spot = none := by simpa [Addr.add] using World.cell?_spot (hc 0 (by omega))
    subst hspot
    have h2 : w.cell? ⟨b, off + i, none⟩ = some (.int .i64 (zs.getD i 0)) := by rw [← plain_add]; exact h1
    refine ⟨b, off, rfl, ?_⟩
    rw [h2, List.getElem_take]
    simp [List.getD, List.getElem?_eq_getElem (show i < zs.length by omega)]
theorem StrRow.later {w w' : World} {a : Option Addr} {l : List (List UInt8)} (h : StrRow w a l) (hb : Below w.heap.size w w') : StrRow w' a l := fun j hj => by
  obtain ⟨bk, off, ha, hc⟩ := h j hj
  exact ⟨bk, off, ha, by rw [hb.cell (p := ⟨bk, off + j, none⟩) (cell_lt hc)]; exact hc⟩
theorem NumRow.later {w w' : World} {v : Value} {l : List Int} (h : NumRow w v l) (hb : Below w.heap.size w w') : NumRow w' v l := by
  obtain ⟨ao, c, e, h⟩ := h
  refine ⟨ao, c, e, fun j hj => ?_⟩
  obtain ⟨bk, off, ha, hc⟩ := h j hj
  exact ⟨bk, off, ha, by rw [hb.cell (p := ⟨bk, off + j, none⟩) (cell_lt hc)]; exact hc⟩

/- A store into a block that is none of the device's. -/
theorem DevAt.setOther {base : Nat} {w : World} {b : Nat} {d : Dev} {N : Nat} (h : DevAt base w b d) (hf : DFor w b N) (k : Nat) (v : Value) : DevAt base (w.setCell ⟨N, k, none⟩ v) b d ∧ DFor (w.setCell ⟨N, k, none⟩ v) b N := by
  obtain ⟨sv, lv, h⟩ := h
  have ho : ∀ j, j ≠ N → (w.setCell ⟨N, k, none⟩ v).heap[j]? = w.heap[j]? := fun j hj => heap_setCell_other w ⟨N, k, none⟩ j v hj
  have hbN : b ≠ N := fun e => hf.ne e.symm
  exact ⟨⟨sv, lv, h.same (ho b hbN) (fun j hj => ho j (fun e => hf.sec sv h.c0 (by rw [hj, e]))) (fun j hj => ho j (fun e => hf.loo lv h.c1 (by rw [hj, e])))⟩, hf.same (ho b hbN)⟩

theorem map_range_set {α : Type} (f : Nat → α) (n k : Nat) (v : α) : ((List.range n).map f).set k v = (List.range n).map fun i => if i = k then v else f i := by
  apply List.ext_getElem?
  intro j
  rw [List.getElem?_set]
  by_cases hj : j < n
  · by_cases e : k = j
    · subst e; simp [hj]
    · have e2 : ¬j = k := fun h => e h.symm
      simp [hj, e, e2]
  · have h1 : ((List.range n).map f)[j]? = none := List.getElem?_eq_none (by simp; omega)
    have h2 : ((List.range n).map fun i => if i = k then v else f i)[j]? = none := List.getElem?_eq_none (by simp; omega)
    rw [h1, h2]
    split
    · split
      · rename_i h3 h4; simp at h4; omega
      · rfl
    · rfl
theorem chosen_snoc (keep : List Int) (ws : List (Nat × List UInt8)) (x : Nat × List UInt8) : chosen keep (ws ++ [x]) = chosen keep ws ++ if keep.contains (ws.length : Int) then [x] else [] := by
  have h := chosen_take keep (ws ++ [x]) ws.length (by simp)
  rw [List.take_of_length_le (by simp), List.take_append_of_le_length (Nat.le_refl _), List.take_length] at h
  rw [h]
  split <;> simp
theorem lay_chosen (keep : List Int) (f : Nat → List UInt8) (n : Nat) (g : Nat → List UInt8) : ∀ k, k ≤ n → lay ((List.range n).map g) (chosen keep ((List.range k).map fun i => (i, f i))) = (List.range n).map fun j => if j < k ∧ keep.contains (j : Int) = true then f j else g j
  | 0, _ => by simp [chosen, lay]
  | k + 1, h => by
    rw [List.range_succ, List.map_append, List.map_singleton, chosen_snoc]
    have ih := lay_chosen keep f n g k (by omega)
    simp only [List.length_map, List.length_range]
    split
    · rename_i hc
      rw [lay_snoc, ih, map_range_set]
      apply List.map_congr_left
      intro j _
      by_cases e : j = k
      · subst e; rw [if_pos rfl, if_pos ⟨by omega, hc⟩]
      · rw [if_neg e]
        by_cases h2 : j < k ∧ keep.contains (j : Int) = true
        · rw [if_pos h2, if_pos ⟨by omega, h2.2⟩]
        · rw [if_neg h2, if_neg (fun h3 => h2 ⟨by omega, h3.2⟩)]
    · rename_i hc
      rw [List.append_nil, ih]
      apply List.map_congr_left
      intro j _
      by_cases h2 : j < k ∧ keep.contains (j : Int) = true
      · rw [if_pos h2, if_pos ⟨by omega, h2.2⟩]
      · rw [if_neg h2, if_neg (fun h3 => h2 ⟨by
          rcases Nat.lt_or_ge j k with h4 | h4
          · exact h4
          · have : j = k := by omega
            subst this
            exact absurd h3.2 hc, h3.2⟩)]
theorem lay_range (f : Nat → List UInt8) (n : Nat) (g : Nat → List UInt8) : ∀ k, k ≤ n → lay ((List.range n).map g) ((List.range k).map fun i => (i, f i)) = (List.range n).map fun j => if j < k then f j else g j
  | 0, _ => by simp [lay]
  | k + 1, h => by
    rw [List.range_succ, List.map_append, List.map_singleton, lay_snoc, lay_range f n g k (by omega), map_range_set]
    apply List.map_congr_left
    intro j _
    by_cases e : j = k
    · subst e; rw [if_pos rfl, if_pos (by omega)]
    · rw [if_neg e]
      by_cases h2 : j < k
      · rw [if_pos h2, if_pos (by omega)]
      · rw [if_neg h2, if_neg (by omega)]
end Go.Proofs.YtbmhmljbpjimoaaDoor
