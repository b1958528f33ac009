/- Behind a world: all of it as it was; what a box of few cells holds then. -/
import Derived.Test.YtfehpjmjchdkgaaDoorVBase
namespace Go.Proofs.YtfehpjmjchdkgaaDoor
open Go.RowKit
set_option linter.unusedVariables false
set_option maxRecDepth 100000

/- Behind W: all of it as it was. -/
def Bm (W w' : World) : Prop := Below W.heap.size W w'
theorem Bm.below {W w w' : World} (h : Bm W w) (hb : Below w.heap.size w w') : Bm W w' := Below.trans h (hb.mono (Below.size h))
theorem Bm.low {W w' : World} (h : Bm W w') : Below W.heap.size W w' := h
theorem Bm.cells4 {W w' : World} {q : Nat} {a b c d : Value} {t : TypeId} (hq : W.heap[q]? = some (.cells #[a, b, c, d] t (0, 0))) (h : Bm W w') :
    w'.cell? ⟨q, 0, none⟩ = some a ∧ w'.cell? ⟨q, 1, none⟩ = some b ∧ w'.cell? ⟨q, 2, none⟩ = some c ∧ w'.cell? ⟨q, 3, none⟩ = some d := by
  have hy := (h.low.block q (block_lt hq)).trans hq
  refine ⟨?_, ?_, ?_, ?_⟩ <;> (rw [block_cell hy]; rfl)
theorem Bm.cells3 {W w' : World} {q : Nat} {a b c : Value} {t : TypeId} (hq : W.heap[q]? = some (.cells #[a, b, c] t (0, 0))) (h : Bm W w') :
    w'.cell? ⟨q, 0, none⟩ = some a ∧ w'.cell? ⟨q, 1, none⟩ = some b ∧ w'.cell? ⟨q, 2, none⟩ = some c := by
  have hy := (h.low.block q (block_lt hq)).trans hq
  refine ⟨?_, ?_, ?_⟩ <;> (rw [block_cell hy]; rfl)
theorem Bm.cells2 {W w' : World} {q : Nat} {a b : Value} {t : TypeId} (hq : W.heap[q]? = some (.cells #[a, b] t (0, 0))) (h : Bm W w') :
    w'.cell? ⟨q, 0, none⟩ = some a ∧ w'.cell? ⟨q, 1, none⟩ = some b := by
  have hy := (h.low.block q (block_lt hq)).trans hq
  refine ⟨?_, ?_⟩ <;> (rw [block_cell hy]; rfl)
def put2 (w : World) (N : Nat) (a b : Value) : World := (w.setCell ⟨N, 0, none⟩ a).setCell ⟨N, 1, none⟩ b
theorem put2_other (w : World) {N : Nat} (a b : Value) {k : Nat} (hk : k ≠ N) : (put2 w N a b).heap[k]? = w.heap[k]? := by
  unfold put2
  rw [heap_setCell_other _ ⟨N, 1, none⟩ k _ hk, heap_setCell_other _ ⟨N, 0, none⟩ k _ hk]
theorem put2_size (w : World) {N : Nat} (a b : Value) : (put2 w N a b).heap.size = w.heap.size := by simp [put2]
theorem put2_heap {w : World} {N : Nat} {a0 b0 : Value} {t : TypeId} (h : w.heap[N]? = some (.cells #[a0, b0] t (0, 0))) (a b : Value) : (put2 w N a b).heap[N]? = some (.cells #[a, b] t (0, 0)) := by
  have h1 := heap_setCell_same w N 0 _ _ a h
  have h2 := heap_setCell_same _ N 1 _ _ b h1
  unfold put2
  simpa [Array.setIfInBounds] using h2
theorem put3_heap {w : World} {N : Nat} {a0 b0 c0 : Value} {t : TypeId} (h : w.heap[N]? = some (.cells #[a0, b0, c0] t (0, 0))) (a b c : Value) : (put3 w N a b c).heap[N]? = some (.cells #[a, b, c] t (0, 0)) := by
  have h1 := heap_setCell_same w N 0 _ _ a h
  have h2 := heap_setCell_same _ N 1 _ _ b h1
  have h3 := heap_setCell_same _ N 2 _ _ c h2
  unfold put3
  simpa [Array.setIfInBounds] using h3
def put4 (w : World) (N : Nat) (a b c d : Value) : World := (((w.setCell ⟨N, 0, none⟩ a).setCell ⟨N, 1, none⟩ b).setCell ⟨N, 2, none⟩ c).setCell ⟨N, 3, none⟩ d
theorem put4_other (w : World) {N : Nat} (a b c d : Value) {k : Nat} (hk : k ≠ N) : (put4 w N a b c d).heap[k]? = w.heap[k]? := by
  unfold put4
  rw [heap_setCell_other _ ⟨N, 3, none⟩ k _ hk, heap_setCell_other _ ⟨N, 2, none⟩ k _ hk, heap_setCell_other _ ⟨N, 1, none⟩ k _ hk, heap_setCell_other _ ⟨N, 0, none⟩ k _ hk]
theorem put4_size (w : World) {N : Nat} (a b c d : Value) : (put4 w N a b c d).heap.size = w.heap.size := by simp [put4]
theorem put4_heap {w : World} {N : Nat} {a0 b0 c0 d0 : Value} {t : TypeId} (h : w.heap[N]? = some (.cells #[a0, b0, c0, d0] t (0, 0))) (a b c d : Value) : (put4 w N a b c d).heap[N]? = some (.cells #[a, b, c, d] t (0, 0)) := by
  have h1 := heap_setCell_same w N 0 _ _ a h
  have h2 := heap_setCell_same _ N 1 _ _ b h1
  have h3 := heap_setCell_same _ N 2 _ _ c h2
  have h4 := heap_setCell_same _ N 3 _ _ d h3
  unfold put4
  simpa [Array.setIfInBounds] using h4
theorem heap_cells2 {w : World} {q : Nat} {a b : Value} {t : TypeId} (hq : w.heap[q]? = some (.cells #[a, b] t (0, 0))) : w.cell? ⟨q, 0, none⟩ = some a ∧ w.cell? ⟨q, 1, none⟩ = some b := by
  refine ⟨?_, ?_⟩ <;> (rw [block_cell hq]; rfl)
theorem heap_cells3 {w : World} {q : Nat} {a b c : Value} {t : TypeId} (hq : w.heap[q]? = some (.cells #[a, b, c] t (0, 0))) : w.cell? ⟨q, 0, none⟩ = some a ∧ w.cell? ⟨q, 1, none⟩ = some b ∧ w.cell? ⟨q, 2, none⟩ = some c := by
  refine ⟨?_, ?_, ?_⟩ <;> (rw [block_cell hq]; rfl)
theorem heap_cells4 {w : World} {q : Nat} {a b c d : Value} {t : TypeId} (hq : w.heap[q]? = some (.cells #[a, b, c, d] t (0, 0))) : w.cell? ⟨q, 0, none⟩ = some a ∧ w.cell? ⟨q, 1, none⟩ = some b ∧ w.cell? ⟨q, 2, none⟩ = some c ∧ w.cell? ⟨q, 3, none⟩ = some d := by
  refine ⟨?_, ?_, ?_, ?_⟩ <;> (rw [block_cell hq]; rfl)
theorem InAt.same {w w' : World} {b : Nat} {s : Codec.St} (h : InAt w b s) (hb : w'.heap[b]? = w.heap[b]?) (hs : w.heap.size ≤ w'.heap.size) : InAt w' b s :=
  ⟨by have := h.lt; omega, by rw [World.cell?_of_block (w := w) (a := ⟨b, 0, none⟩) hb]; exact h.c0, by rw [World.cell?_of_block (w := w) (a := ⟨b, 1, none⟩) hb]; exact h.c1, by rw [World.frozen?_of_block (w := w) (a := ⟨b, 0, none⟩) hb]; exact h.f0, by rw [World.frozen?_of_block (w := w) (a := ⟨b, 1, none⟩) hb]; exact h.f1, h.len⟩
end Go.Proofs.YtfehpjmjchdkgaaDoor
