/- Law 14's awake. -/
import Derived.Test.YtgkbijacgjhgfaaDoorQCon
import Derived.Test.YtgkbijacgjhgfaaDoorQOwn
namespace Go.Proofs.YtgkbijacgjhgfaaDoor
open Go.RowKit
set_option linter.unusedVariables false
set_option maxRecDepth 100000

theorem step_any {w : World} (op k : Int) : Calls Tryd.prog 26 #[.int .i64 op, .int .i64 k] w fun e w' => e = .returned (stV (⟨op, [97], [], 0⟩, ⟨k, [], 0⟩)) ∧ Below w.heap.size w w' := by
  unfold stV
  have HB := hide (fun o : Obj => under_box (w := w) o)
  go_enter Tryd.func26, Tryd.ntmps26
  go_wp2_with fail
  exact bodyPost_ret (v := .agg #[.int .i64 op, .string (S [97]), .string (S []), .int .i64 0, .int .i64 k, .string (S []), .int .i64 0]) (by simp [results, Tryd.results26, go_sem]; exact ⟨rfl, rfl⟩) rfl ⟨rfl, unhide HB _⟩
set_option maxHeartbeats 6400000 in
theorem qawake_any {w : World} (hw : MD w) : Calls Tryd.prog 7 #[] w fun e w' => e = .returned (.bool true) ∧ Below w.heap.size w w' := by
  have HST := hide (fun (wz : World) (op k : Int) => step_any (w := wz) op k)
  have HF := hide (fun (wz w' : World) (h1 : Below w.heap.size w wz) (h2 : Below wz.heap.size wz w') => h1.trans (h2.mono h1.size))
  have HC1 : Hid (∀ wz, Below w.heap.size w wz → Calls Tryd.prog 12 #[stV (⟨8, [97], [], 0⟩, ⟨1, [], 0⟩), stV (⟨10, [97], [], 0⟩, ⟨2, [], 0⟩)] wz fun e w' => e = .returned (.bool true) ∧ Below wz.heap.size wz w') := fun wz hb => by
    have := conflict_any (hw.later hb) (⟨8, [97], [], 0⟩, ⟨1, [], 0⟩) (⟨10, [97], [], 0⟩, ⟨2, [], 0⟩) (by decide) (by decide)
    rwa [show conM (⟨8, [97], [], 0⟩, ⟨1, [], 0⟩) (⟨10, [97], [], 0⟩, ⟨2, [], 0⟩) = true by decide +kernel] at this
  have HC2 : Hid (∀ wz, Below w.heap.size w wz → Calls Tryd.prog 12 #[stV (⟨8, [97], [], 0⟩, ⟨2, [], 0⟩), stV (⟨10, [97], [], 0⟩, ⟨1, [], 0⟩)] wz fun e w' => e = .returned (.bool false) ∧ Below wz.heap.size wz w') := fun wz hb => by
    have := conflict_any (hw.later hb) (⟨8, [97], [], 0⟩, ⟨2, [], 0⟩) (⟨10, [97], [], 0⟩, ⟨1, [], 0⟩) (by decide) (by decide)
    rwa [show conM (⟨8, [97], [], 0⟩, ⟨2, [], 0⟩) (⟨10, [97], [], 0⟩, ⟨1, [], 0⟩) = false by decide +kernel] at this
  have HP : Hid (∀ wz : World, Calls Tryd.prog 19 #[stV (⟨10, [97], [], 0⟩, ⟨1, [], 0⟩)] wz fun e w' => e = .returned (.bool true) ∧ Below wz.heap.size wz w') := fun wz => by
    have := possible_any (w := wz) (⟨10, [97], [], 0⟩, ⟨1, [], 0⟩) (by decide)
    rwa [show posM (⟨10, [97], [], 0⟩, ⟨1, [], 0⟩) = true by decide +kernel] at this
  clear hw
  go_enter Tryd.func7, Tryd.ntmps7
  go_wp2_with fail
  refine (unhide HST _ 8 1).mono ?_
  rintro e w1 ⟨rfl, hb1⟩
  have HE1 := hide (unhide HF _ _ (Below.refl _ _) hb1)
  clear hb1
  go_wp2_with fail
  refine (unhide HST _ 10 2).mono ?_
  rintro e w2 ⟨rfl, hb2⟩
  have HE2 := hide (unhide HF _ _ (unhide HE1) hb2)
  clear hb2
  go_wp2_with fail
  refine (unhide HC1 _ (unhide HE2)).mono ?_
  rintro e w3 ⟨rfl, hb3⟩
  have HE3 := hide (unhide HF _ _ (unhide HE2) hb3)
  clear hb3
  go_wp2_with fail
  refine (unhide HST _ 8 2).mono ?_
  rintro e w4 ⟨rfl, hb4⟩
  have HE4 := hide (unhide HF _ _ (unhide HE3) hb4)
  clear hb4
  go_wp2_with fail
  refine (unhide HST _ 10 1).mono ?_
  rintro e w5 ⟨rfl, hb5⟩
  have HE5 := hide (unhide HF _ _ (unhide HE4) hb5)
  clear hb5
  go_wp2_with fail
  refine (unhide HC2 _ (unhide HE5)).mono ?_
  rintro e w6 ⟨rfl, hb6⟩
  have HE6 := hide (unhide HF _ _ (unhide HE5) hb6)
  clear hb6
  go_wp2_with fail
  refine (unhide HST _ 10 1).mono ?_
  rintro e w7 ⟨rfl, hb7⟩
  have HE7 := hide (unhide HF _ _ (unhide HE6) hb7)
  clear hb7
  go_wp2_with fail
  refine (unhide HP _).mono ?_
  rintro e w8 ⟨rfl, hb8⟩
  have HE8 := hide (unhide HF _ _ (unhide HE7) hb8)
  clear hb8
  go_wp2_with fail
  go_ret
  exact ⟨rfl, unhide HE8⟩
end Go.Proofs.YtgkbijacgjhgfaaDoor
