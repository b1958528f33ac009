/- The contracts of an Out's U and Text; that codec answers what the document's examples say. -/
import Derived.Test.YthchnfgokkcepaaDoorCKey
import Derived.Test.YthchnfgokkcepaaDoorCIn2
namespace Go.Proofs.YthchnfgokkcepaaDoor
open Go.RowKit
set_option linter.unusedVariables false
set_option maxRecDepth 100000

def encs (l : List Nat) : List UInt8 := l.flatMap Codec.enc
theorem encs_snoc (l : List Nat) (k : Nat) (h : k < l.length) : encs (l.take (k + 1)) = encs (l.take k) ++ Codec.enc l[k] := by
  rw [List.take_succ_eq_append_getElem h]; unfold encs; rw [List.flatMap_append]; congr 1; simp
theorem encs_length (l : List Nat) (hl : ∀ i (h : i < l.length), l[i] < 18446744073709551616) (k : Nat) (hk : k ≤ l.length) : (encs (l.take k)).length ≤ 9 * k := by
  induction k with
  | zero => simp [encs]
  | succ k ih =>
    rw [encs_snoc l k (by omega), List.length_append, Codec.enc_length]
    have h1 := ih (by omega)
    have h2 := Codec.blen_le l[k] (hl k (by omega))
    omega

/- Numbers in cells of a block that is foreign to the Out. -/
def Nums (w : World) (b : Nat) (a : Option Addr) (l : List Nat) (f : Nat → Value) : Prop :=
  ∀ i (hi : i < l.length), ∃ sb off, a = some ⟨sb, off, none⟩ ∧ sb < w.heap.size ∧ Foreign w b sb ∧ w.cell? ⟨sb, off + i, none⟩ = some (f l[i])

set_option maxHeartbeats 400000 in
theorem text_any (b : Nat) (l : List UInt8) (w : World) (h : OutAt w b l) :
    Calls Tryd.prog 44 #[.pointer (some ⟨b, 0, none⟩)] w fun e w' => e = .returned (.string (S l)) ∧ w' = w := by
  obtain ⟨ao, c, hcell, hown⟩ := h.cell
  have kb := bytes_text hown
  clear h hown
  go_enter Tryd.func44, Tryd.ntmps44
  go_wp2
  go_ret
  exact ⟨rfl, rfl⟩

theorem enc300 : Codec.enc 300 = [2, 1, 44] := by decide +kernel
theorem keyA : Codec.key [[97], []] = [97, 0, 1, 0, 1] := by decide +kernel
theorem minusOne : Codec.takeI ([1, 1], 0) = (-1, ([], 0)) := by decide +kernel

theorem foreign_new (w : World) (o : Obj) : Foreign ((w.alloc (.cells #[.slice none 0 0] 72)).alloc o) w.heap.size (w.heap.size + 1) := by
  refine ⟨by omega, fun v hv e => ?_⟩
  have : ((w.alloc (.cells #[.slice none 0 0] 72)).alloc o).cell? ⟨w.heap.size, 0, none⟩ = some (.slice none 0 0) := by
    rw [World.cell?_of_block (w := w.alloc (.cells #[.slice none 0 0] 72)) (a := ⟨w.heap.size, 0, none⟩) (Below.heap_alloc _ o _ (by simp))]
    simp
  rw [this] at hv
  injection hv with hv
  subst hv
  simp [Value.ownBlock] at e

theorem read_none (w : World) :
    Calls Tryd.prog 36 #[.string ⟨#[]⟩] w fun e w' => e = .returned (.pointer (some ⟨w.heap.size, 0, none⟩)) ∧ Below w.heap.size w w' := by
  refine (read_any [] w (by simp)).mono ?_
  rintro e w' ⟨rfl, _, hb, _⟩
  exact ⟨rfl, hb⟩
theorem read_one (w : World) :
    Calls Tryd.prog 36 #[.string ⟨#[1, 1]⟩] w fun e w' => e = .returned (.pointer (some ⟨w.heap.size, 0, none⟩)) ∧ InAt w' w.heap.size ([1, 1], 0) ∧ Below w.heap.size w w' ∧ w'.heap.size = w.heap.size + 1 :=
  read_any [1, 1] w (by simp)
theorem i_minus (b : Nat) (w : World) (h : InAt w b ([1, 1], 0)) :
    Calls Tryd.prog 38 #[.pointer (some ⟨b, 0, none⟩)] w fun e w' => e = .returned (.int .i64 (-1)) ∧ But b w.heap.size w w' := by
  have h1 := i_any b _ w h
  rw [minusOne] at h1
  refine h1.mono ?_
  rintro e w' ⟨rfl, _, hb⟩
  exact ⟨rfl, hb⟩

end Go.Proofs.YthchnfgokkcepaaDoor
