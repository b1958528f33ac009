/- The answers that stamp's statements ask for first. -/
import Derived.Test.YtbggjkokfbcbcabDoorSParse
namespace Go.Proofs.YtbggjkokfbcbcabDoor
open Go.RowKit
set_option linter.unusedVariables false
set_option maxRecDepth 100000

theorem S_mid (l : List UInt8) (a b : Nat) : (S l).extract a b = S ((l.drop a).take (b - a)) := by
  apply ByteArray.ext
  apply Array.ext'
  simp [S]

theorem awake_head : ((Codec.secText ⟨1, 2, []⟩).drop 4).take 6 = [1, 1, 1, 2, 0, 0] := by
  have e : (Codec.secText ⟨1, 2, []⟩).drop 4 = Codec.pad60 (Codec.body ⟨1, 2, []⟩) := by unfold Codec.secText; exact List.drop_left' rfl
  rw [e]
  decide +kernel

set_option maxHeartbeats 1600000 in
theorem sawake_any (w : World) :
    Calls Tryd.prog 6 #[] w fun e w' => e = .returned (.bool true) ∧ Below w.heap.size w w' := by
  have hok : (⟨1, 2, []⟩ : Codec.Sec).Ok := ⟨by decide, by decide, by decide⟩
  have HT := hide (fun wy => stext_any ⟨1, 2, []⟩ wy hok (by decide))
  have hlen := Codec.secText_length ⟨1, 2, []⟩ hok (by decide)
  have HP := hide (fun wy => sparse_any (Codec.secText ⟨1, 2, []⟩) wy (by omega))
  rw [Codec.parse_text _ hok (by decide) (by decide)] at HP
  have hmid : (S (Codec.secText ⟨1, 2, []⟩)).extract 4 10 = ⟨#[1, 1, 1, 2, 0, 0]⟩ := by rw [S_mid, awake_head]; rfl
  have HC := hide (fun wy => check_any 0 0 [] wy)
  rw [show chk 0 [] = 18 from rfl] at HC
  have hls : (S (Codec.secText ⟨1, 2, []⟩)).size = 64 := hlen
  generalize Codec.secText ⟨1, 2, []⟩ = T at *
  clear hlen hok
  unfold SV at HT HP
  dsimp only at HT HP
  have hS : S [] = (⟨#[]⟩ : ByteArray) := rfl
  rw [hS] at HT HP HC
  clear hS
  go_enter Tryd.func6, Tryd.ntmps6
  go_wp2_with fail
  refine (unhide HT _).mono ?_
  rintro e w1 ⟨rfl, hb1⟩
  have hbox : w1.heap[w.heap.size]? = some (.cells #[.int .i64 1, .int .u8 2, .string ⟨#[]⟩] 23 (0, 0)) := (hb1.block w.heap.size (by simp)).trans (heap_alloc_new w _)
  have HB1 := hide (((Below.refl _ w).alloc (Nat.le_refl _) (.cells #[.int .i64 1, .int .u8 2, .string ⟨#[]⟩] 23)).trans (hb1.mono (by simp)))
  have HBOX := hide hbox
  clear hb1 hbox HT
  go_wp2_with fail
  refine (unhide HP _).mono ?_
  rintro e w2 ⟨rfl, hb2⟩
  have hbox : w2.heap[w.heap.size]? = _ := (hb2.block w.heap.size (blt (unhide HBOX))).trans (unhide HBOX)
  have HB2 := hide ((unhide HB1).trans (hb2.mono (unhide HB1).size))
  have hlt := blt hbox
  have hA : ∀ o, (w2.alloc o).heap[w.heap.size]? = some (.cells #[.int .i64 1, .int .u8 2, .string ⟨#[]⟩] 23 (0, 0)) := fun o => (Below.heap_alloc w2 o _ hlt).trans hbox
  have x0 := fun o => (bcell (hA o) 0)
  have x1 := fun o => (bcell (hA o) 1)
  have x2 := fun o => (bcell (hA o) 2)
  simp only [List.getElem?_toArray, List.getElem?_cons_zero, List.getElem?_cons_succ] at x0 x1 x2
  clear hb2 hbox hA HP HBOX HB1
  go_wp2_with fail
  refine (unhide HC _).mono ?_
  rintro e w3 ⟨rfl, hb3⟩
  have HB3 := hide (((unhide HB2).alloc (unhide HB2).size _).trans (hb3.mono (by have := (unhide HB2).size; simp; omega)))
  clear hb3
  go_wp2_with fail
  go_ret
  exact ⟨rfl, unhide HB3⟩
end Go.Proofs.YtbggjkokfbcbcabDoor
