/-
  DERIVED. GIVEN WITH THE SEED: THE PROGRAM's TIES (one call each: nine closed facts by the kernel) AND EACH ROW's TIE, after the 31st guide's Derived/Test/Toyas{Tie, Card}.lean. No idea stands in it: it is a product of the set-up. Laid BY PROGRAM, IN A SANDBOX (cutbox-door.mjs). By AI agents, Wed Nov 11 2026. No macro, syntax, notation, axiom, sorry.
-/
import Derived.Test.YtadngcjchlpkaaaDoorRows
import Derived.LaidByTextLater
import Derived.SevenTiedAt
import Derived.LaidSub
import Derived.LaidOnce
namespace Go.Proofs.YtadngcjchlpkaaaDoor
open Go
set_option maxRecDepth 100000
theorem seatTie1 : Tryd.prog.laidByTextLater [("armoire/value.words", Rows.laid_armoire_value_words), ("armoire/method.factsOf", Rows.laid_armoire_method_factsOf)] [.data, .data] true :=
  Program.laidByTextLater_by_one 36 8 91 (by kernel_rfl) (by kernel_rfl) (by kernel_rfl) (by kernel_rfl) (by kernel_rfl) (by kernel_rfl) (fun _ _ => by kernel_rfl)
theorem noOwnUnsafe : Tryd.pinned.checked.prog.headLifts.contains "ownunsafe" = false := by kernel_rfl
theorem tie : Tryd.prog.laidByTextLater [("armoire/method.factsOf", Rows.laid_armoire_method_factsOf)] [.data] true :=
  Program.laidByTextLater.sub seatTie1 ["armoire/method.factsOf"] (by kernel_rfl) (by kernel_rfl)
theorem adtAnswers_row_tie : Rows.adtAnswersRow.laidByTextAt .later Tryd.pinned [.data] true :=
  OpenClaim.laidByTextAt_later rfl rfl tie noOwnUnsafe
theorem adtLegal_row_tie : Rows.adtLegalRow.laidByTextAt .later Tryd.pinned [.data] true :=
  OpenClaim.laidByTextAt_later rfl rfl tie noOwnUnsafe
theorem adtRuns_row_tie : Rows.adtRunsRow.laidByTextAt .later Tryd.pinned [.data] true :=
  OpenClaim.laidByTextAt_later rfl rfl tie noOwnUnsafe
theorem tie2 : Tryd.prog.laidByTextLater [("armoire/value.words", Rows.laid_armoire_value_words), ("armoire/method.factsOf", Rows.laid_armoire_method_factsOf)] [.data, .data] true :=
  Program.laidByTextLater.sub seatTie1 ["armoire/value.words", "armoire/method.factsOf"] (by kernel_rfl) (by kernel_rfl)
theorem adtRoom_row_tie : Rows.adtRoomRow.laidByTextAt .later Tryd.pinned [.data, .data] true :=
  OpenClaim.laidByTextAt_later rfl rfl tie2 noOwnUnsafe
theorem adtAnswersUpto_row_tie : Rows.adtAnswersUptoRow.laidByTextAt .later Tryd.pinned [.data] true :=
  OpenClaim.laidByTextAt_later rfl rfl tie noOwnUnsafe
theorem adtLegalUpto_row_tie : Rows.adtLegalUptoRow.laidByTextAt .later Tryd.pinned [.data] true :=
  OpenClaim.laidByTextAt_later rfl rfl tie noOwnUnsafe
theorem adtRoomUpto_row_tie : Rows.adtRoomUptoRow.laidByTextAt .later Tryd.pinned [.data, .data] true :=
  OpenClaim.laidByTextAt_later rfl rfl tie2 noOwnUnsafe
theorem adtRunsUpto_row_tie : Rows.adtRunsUptoRow.laidByTextAt .later Tryd.pinned [.data] true :=
  OpenClaim.laidByTextAt_later rfl rfl tie noOwnUnsafe
end Go.Proofs.YtadngcjchlpkaaaDoor
