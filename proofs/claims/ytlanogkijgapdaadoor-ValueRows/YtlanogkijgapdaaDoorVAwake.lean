/- The contracts of New, and of the law's awake: that states answer what the document's examples say. -/
import Derived.Test.YtlanogkijgapdaaDoorVText
import Derived.Test.YtlanogkijgapdaaDoorVWith
import Derived.Test.YtlanogkijgapdaaDoorVCheck2
namespace Go.Proofs.YtlanogkijgapdaaDoor
open Go.RowKit
set_option linter.unusedVariables false
set_option maxRecDepth 100000

theorem vnew2_any (k : Int) (w : World) : Calls Tryd.prog 29 #[.int .i64 k] w fun e w' => e = .returned (.agg #[.int .i64 k, .int .i64 0, .slice none 0 0]) ∧ Below w.heap.size w w' := by
  go_enter Tryd.func29, Tryd.ntmps29
  go_wp2_with fail
  exact bodyPost_ret (v := .agg #[.int .i64 k, .int .i64 0, .slice none 0 0]) (by simp [results, Tryd.results29, go_sem]) rfl ⟨rfl, under_box _⟩

theorem aw1 : VS.with ⟨4, 0, []⟩ ([98], []) = ⟨4, 0, [([98], [])]⟩ := rfl
theorem aw2 : VS.with ⟨4, 0, [([98], [])]⟩ ([97], []) = ⟨4, 0, [([97], []), ([98], [])]⟩ := by
  have h : VS.spot ⟨4, 0, [([98], [])]⟩ [97] = 0 := by decide
  unfold VS.with
  rw [h]
  rfl
theorem aw3 : S (VS.text ⟨4, 0, [([97], []), ([98], [])]⟩) = ⟨#[1, 4, 0, 1, 2, 1, 1, 97, 0, 1, 1, 98, 0]⟩ := by decide +kernel
theorem aw4 : VS.check ⟨4, 0, [([97], []), ([98], [])]⟩ = 0 := by decide +kernel
theorem aw5 : S (wordOf 3) = ⟨#[97, 99, 99, 111, 117, 110, 116]⟩ := rfl
theorem aw6 : kindOf [113, 117, 101, 117, 101] = 6 := by decide

set_option maxHeartbeats 3200000 in
theorem vawake_any {w : World} (hw : WD w) :
    Calls Tryd.prog 11 #[] w fun e w' => e = .returned (.bool true) ∧ Below w.heap.size w w' := by
  have HN := hide (vnew2_any 4 w)
  have HW1 : Hid (∀ w1, Calls Tryd.prog 22 #[.agg #[.int .i64 4, .int .i64 0, .slice none 0 0], .agg #[.string ⟨#[98]⟩, .string ⟨#[]⟩]] w1 fun e w' => ∃ v', e = .returned v' ∧ StOwn w1.heap.size 47 w' v' ⟨4, 0, [([98], [])]⟩ ∧ Below w1.heap.size w1 w') := fun w1 => by
    have := with_any (w := w1) (v := .agg #[.int .i64 4, .int .i64 0, .slice none 0 0]) (s := ⟨4, 0, []⟩) ⟨_, rfl, Row2.nil _⟩ (by simp) ([98], [])
    rw [aw1] at this
    exact this
  have HW2 : Hid (∀ w1 v, StAt w1 v ⟨4, 0, [([98], [])]⟩ → Calls Tryd.prog 22 #[v, .agg #[.string ⟨#[97]⟩, .string ⟨#[]⟩]] w1 fun e w' => ∃ v', e = .returned v' ∧ StOwn w1.heap.size 47 w' v' ⟨4, 0, [([97], []), ([98], [])]⟩ ∧ Below w1.heap.size w1 w') := fun w1 v h => by
    have := with_any h (by simp) ([97], [])
    rw [aw2] at this
    exact this
  have HTX : Hid (∀ w1 v, StAt w1 v ⟨4, 0, [([97], []), ([98], [])]⟩ → Calls Tryd.prog 16 #[v] w1 fun e w' => e = .returned (.string ⟨#[1, 4, 0, 1, 2, 1, 1, 97, 0, 1, 1, 98, 0]⟩) ∧ Below w1.heap.size w1 w') := fun w1 v h => by
    have := vtext_any h ⟨by decide, by decide⟩ ⟨by decide, by decide⟩ (by decide) (by
      intro i hi
      simp at hi
      obtain rfl | rfl : i = 0 ∨ i = 1 := by omega
      all_goals simp)
    rw [aw3] at this
    exact this
  have HCK : Hid (∀ w1 v, StAt w1 v ⟨4, 0, [([97], []), ([98], [])]⟩ → Below w.heap.size w w1 → Calls Tryd.prog 12 #[v] w1 fun e w' => e = .returned (.int .i64 0) ∧ Below w1.heap.size w1 w') := fun w1 v h hb => by
    have := vcheck_any h (hw.later hb)
    rw [aw4] at this
    exact this
  have HWO : Hid (∀ w1, Below w.heap.size w w1 → Calls Tryd.prog 30 #[.int .i64 3] w1 fun e w' => e = .returned (.string ⟨#[97, 99, 99, 111, 117, 110, 116]⟩) ∧ w' = w1) := fun w1 hb => by
    have := word_any (hw.later hb) 3
    rw [aw5] at this
    exact this
  have HKI : Hid (∀ w1, Below w.heap.size w w1 → Calls Tryd.prog 31 #[.string ⟨#[113, 117, 101, 117, 101]⟩] w1 fun e w' => e = .returned (.int .i64 6) ∧ w' = w1) := fun w1 hb => by
    have := kind_any (hw.later hb) [113, 117, 101, 117, 101]
    rw [aw6] at this
    exact this
  clear hw
  go_enter Tryd.func11, Tryd.ntmps11
  go_wp2_with fail
  refine (unhide HN).mono ?_
  rintro e w1 ⟨rfl, hb1⟩
  go_wp2_with fail
  refine (unhide HW1 w1).mono ?_
  rintro e w2 ⟨v2, rfl, ho2, hb2⟩
  obtain ⟨k2, rfl, hr2⟩ := ho2
  obtain ⟨a2, c2, rfl, _⟩ := ownsRow_slice hr2
  have HS2 : Hid (StAt w2 (.agg #[.int .i64 4, .int .i64 0, .slice a2 [(([98] : List UInt8), ([] : List UInt8))].length c2]) ⟨4, 0, [([98], [])]⟩) := ⟨_, rfl, Row2.of_own hr2⟩
  have HL2 := hide (hb1.trans (hb2.mono hb1.size))
  clear hr2 hb1 hb2 HW1 HN
  go_wp2_with fail
  refine (unhide HW2 _ _ (unhide HS2)).mono ?_
  rintro e w3 ⟨v3, rfl, ho3, hb3⟩
  obtain ⟨k3, rfl, hr3⟩ := ho3
  obtain ⟨a3, c3, rfl, _⟩ := ownsRow_slice hr3
  have HS3 : Hid (∀ w4, Below w3.heap.size w3 w4 → StAt w4 (.agg #[.int .i64 4, .int .i64 0, .slice a3 2 c3]) ⟨4, 0, [([97], []), ([98], [])]⟩) := fun w4 h4 => ⟨_, rfl, (Row2.of_own hr3).later h4⟩
  have HL3 := hide ((unhide HL2).trans (hb3.mono (unhide HL2).size))
  have HZ3 := hide (unhide HL3).size
  clear hr3 hb3 HW2 HS2 HL2
  go_wp2_with fail
  refine (unhide HTX _ _ (unhide HS3 _ (under_box _))).mono ?_
  rintro e w4 ⟨rfl, hb4⟩
  rw [World.size_alloc] at hb4
  obtain ⟨p0, p1, p2, hz4, hl4⟩ := box3 hb4
  have HB4 := hide hb4
  clear hb4 HTX
  go_wp2_with fail
  refine (unhide HCK _ _ (unhide HS3 _ hl4) ((unhide HL3).trans (hl4.mono (unhide HZ3)))).mono ?_
  rintro e w5 ⟨rfl, hb5⟩
  obtain ⟨q0, q1, q2, hz5, hl5⟩ := box3 ((unhide HB4).trans (hb5.mono hz4))
  have HL5 := hide ((unhide HL3).trans (hl5.mono (unhide HZ3)))
  clear hb5 HCK p0 p1 p2 hl4 hl5
  go_wp2_with fail
  refine (unhide HWO _ (unhide HL5)).mono ?_
  rintro e w6 ⟨rfl, rfl⟩
  go_wp2_with fail
  refine (unhide HKI _ (unhide HL5)).mono ?_
  rintro e w6 ⟨rfl, rfl⟩
  go_wp2_with fail
  go_ret
  exact ⟨rfl, unhide HL5⟩
end Go.Proofs.YtlanogkijgapdaaDoor
