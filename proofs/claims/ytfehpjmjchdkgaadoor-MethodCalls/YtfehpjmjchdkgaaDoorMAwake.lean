/- That method answers what the document's examples say. -/
import Derived.Test.YtfehpjmjchdkgaaDoorMPut
import Derived.Test.YtfehpjmjchdkgaaDoorMCheck
import Derived.Deep.DeepCutAuto
import Derived.Deep.CutBlock
namespace Go.Proofs.YtfehpjmjchdkgaaDoor
open Go.RowKit
set_option linter.unusedVariables false
set_option maxRecDepth 100000

theorem insertA : [] ++ MC.text ⟨8, [97], [], 0⟩ = [1, 8, 1, 1, 97, 0, 0] := by decide +kernel
theorem opDebit : opOf [100, 101, 98, 105, 116] = 6 := by decide +kernel

set_option maxHeartbeats 3200000 in
theorem mawake_any {w : World} (hw : MD w) :
    Calls Tryd.prog 9 #[] w fun e w' => e = .returned (.bool true) ∧ Below w.heap.size w w' := by
  obtain ⟨W, hW⟩ : ∃ W, (w.alloc (.cells #[.slice none 0 0] 36)).alloc (.cells #[.int .i64 8, .string ⟨#[97]⟩, .string ⟨#[]⟩, .int .i64 0] 24) = W := ⟨_, rfl⟩
  have hbW : Below w.heap.size w W := by rw [← hW]; exact under_two w _ _
  have hO : OutAt W w.heap.size [] := by
    rw [← hW]
    exact ((OutAt.new w).later (under_box _)).1
  have hq0 : W.heap[w.heap.size + 1]? = some (.cells #[.int .i64 8, .string ⟨#[97]⟩, .string ⟨#[]⟩, .int .i64 0] 24 (0, 0)) := by
    have := heap_alloc_new (w.alloc (.cells #[.slice none 0 0] 36)) (.cells #[.int .i64 8, .string ⟨#[97]⟩, .string ⟨#[]⟩, .int .i64 0] 24)
    rw [World.size_alloc, hW] at this
    exact this
  have HPU := hide (mput_any (b := w.heap.size) (l := []) ⟨8, [97], [], 0⟩ hO (by simp) (by unfold I64; dsimp only; omega) (by unfold I64; dsimp only; omega) (by simp) (by simp))
  rw [insertA] at HPU
  have HFO := hide (Foreign.of_type hO hq0 (by decide) (by simp))
  have HTX := hide (fun (w1 : World) (h1 : OutAt w1 w.heap.size [1, 8, 1, 1, 97, 0, 0]) => text_any w.heap.size _ w1 h1)
  have HCK := hide (fun (w1 : World) (hb : Below w.heap.size w w1) => mcheck_any (hw.later hb) ⟨8, [97], [], 0⟩ (by simp [maxLen]) (by simp [maxLen]))
  have HWO := hide (fun (w1 : World) (hb : Below w.heap.size w w1) => mword_any (hw.later hb) 17)
  have HNA := hide (fun (w1 : World) (hb : Below w.heap.size w w1) => mnamed_any (hw.later hb) [100, 101, 98, 105, 116])
  have HKI := hide (fun (w1 : World) (hb : Below w.heap.size w w1) => mkind_any (hw.later hb) 14)
  rw [opDebit] at HNA
  change Hid (∀ w1 : World, Below w.heap.size w w1 → Calls Tryd.prog 10 #[.agg #[.int .i64 8, .string ⟨#[97]⟩, .string ⟨#[]⟩, .int .i64 0]] w1 fun e w' => e = .returned (.int .i64 0) ∧ Below w1.heap.size w1 w') at HCK
  change Hid (∀ w1 : World, Below w.heap.size w w1 → Calls Tryd.prog 30 #[.int .i64 17] w1 fun e w' => e = .returned (.string ⟨#[116, 97, 107, 101]⟩) ∧ Below w1.heap.size w1 w') at HWO
  change Hid (∀ w1 : World, Below w.heap.size w w1 → Calls Tryd.prog 32 #[.int .i64 14] w1 fun e w' => e = .returned (.int .i64 6) ∧ Below w1.heap.size w1 w') at HKI
  change Hid (∀ w1 : World, Below w.heap.size w w1 → Calls Tryd.prog 31 #[.string ⟨#[100, 101, 98, 105, 116]⟩] w1 fun e w' => e = .returned (.int .i64 6) ∧ Below w1.heap.size w1 w') at HNA
  change Hid (Calls Tryd.prog 13 #[.agg #[.int .i64 8, .string ⟨#[97]⟩, .string ⟨#[]⟩, .int .i64 0], .pointer (some ⟨w.heap.size, 0, none⟩)] W fun e w' => e = .returned (.tuple #[]) ∧ OutAt w' w.heap.size [1, 8, 1, 1, 97, 0, 0] ∧ Step w.heap.size W w') at HPU
  change Hid (∀ w1 : World, OutAt w1 w.heap.size [1, 8, 1, 1, 97, 0, 0] → Calls Tryd.prog 15 #[.pointer (some ⟨w.heap.size, 0, none⟩)] w1 fun e w' => e = .returned (.string ⟨#[1, 8, 1, 1, 97, 0, 0]⟩) ∧ w' = w1) at HTX
  have HQ := hide hq0
  have HO := hide hO
  have HBW := hide hbW
  have hcA : W.cell? ⟨w.heap.size + 1, 0, none⟩ = some (.int .i64 8) ∧ W.cell? ⟨w.heap.size + 1, 1, none⟩ = some (.string ⟨#[97]⟩) ∧ W.cell? ⟨w.heap.size + 1, 2, none⟩ = some (.string ⟨#[]⟩) ∧ W.cell? ⟨w.heap.size + 1, 3, none⟩ = some (.int .i64 0) := by
    refine ⟨?_, ?_, ?_, ?_⟩ <;> (rw [block_cell hq0]; rfl)
  obtain ⟨a0, a1, a2, a3⟩ := hcA
  have HW := hide hW
  clear hw hW hq0 hO hbW
  go_enter Tryd.func9, Tryd.ntmps9
  go_upto_region 3 with fail
  rw [unhide HW]
  clear HW
  go_wp2_with fail
  refine (unhide HPU).mono ?_
  rintro e w1 ⟨rfl, ho1, hs1⟩
  have hq1 := ((hs1.keep _ (block_lt (unhide HQ)) (unhide HFO)).1).trans (unhide HQ)
  have HB1 := hide ((unhide HBW).trans (hs1.below (unhide HO) (Nat.le_refl _)))
  have hc : w1.cell? ⟨w.heap.size + 1, 0, none⟩ = some (.int .i64 8) ∧ w1.cell? ⟨w.heap.size + 1, 1, none⟩ = some (.string ⟨#[97]⟩) ∧ w1.cell? ⟨w.heap.size + 1, 2, none⟩ = some (.string ⟨#[]⟩) ∧ w1.cell? ⟨w.heap.size + 1, 3, none⟩ = some (.int .i64 0) := by
    refine ⟨?_, ?_, ?_, ?_⟩ <;> (rw [block_cell hq1]; rfl)
  obtain ⟨c0, c1, c2, c3⟩ := hc
  have HT1 := hide (unhide HTX _ ho1)
  clear hs1 hq1 ho1 HPU HQ HFO HO HBW HTX a0 a1 a2 a3
  go_wp2_with fail
  refine (unhide HT1).mono ?_
  rintro e w2 ⟨rfl, rfl⟩
  go_wp2_with fail
  refine (unhide HCK _ (unhide HB1)).mono ?_
  rintro e w3 ⟨rfl, hb3⟩
  have HB3 := hide ((unhide HB1).trans (hb3.mono (unhide HB1).size))
  clear hb3 c0 c1 c2 c3 HT1
  go_wp2_with fail
  refine (unhide HWO _ (unhide HB3)).mono ?_
  rintro e w4 ⟨rfl, hb4⟩
  have HB4 := hide ((unhide HB3).trans (hb4.mono (unhide HB3).size))
  clear hb4
  go_wp2_with fail
  refine (unhide HNA _ (unhide HB4)).mono ?_
  rintro e w5 ⟨rfl, hb5⟩
  have HB5 := hide ((unhide HB4).trans (hb5.mono (unhide HB4).size))
  clear hb5
  go_wp2_with fail
  refine (unhide HKI _ (unhide HB5)).mono ?_
  rintro e w6 ⟨rfl, hb6⟩
  have HB6 := hide ((unhide HB5).trans (hb6.mono (unhide HB5).size))
  clear hb6
  go_wp2_with fail
  go_ret
  exact ⟨rfl, unhide HB6⟩
end Go.Proofs.YtfehpjmjchdkgaaDoor
