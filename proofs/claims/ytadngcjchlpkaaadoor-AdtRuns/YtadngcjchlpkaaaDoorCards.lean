/-
  DERIVED. GIVEN WITH THE SEED: THE CARDS: each row of YtadngcjchlpkaaaDoorRows.lean that lists a variable, with what it lists TIED to the program's text (the seventh form; the later family's looks); each row that meets fmt, with fmt's text TOLD by the authors' own Lean function (tested against real Go, not proved from fmt's source: count such statements apart). THE CARD IS WHAT COUNTS. Prove the row's statement (the work); the ties are given (YtadngcjchlpkaaaDoorTie.lean); close each card by the builder's one call (the guide's Derived/Test/ToyasCard.lean, 'card_holds'). Laid BY PROGRAM, IN A SANDBOX (cutbox-door.mjs). By AI agents, Wed Nov 11 2026. No macro, syntax, notation, axiom, sorry.
-/
import Derived.Test.YtadngcjchlpkaaaDoorRows
import GoSem.ClaimSeven
namespace Go.Proofs.YtadngcjchlpkaaaDoor
namespace Rows

/-- THE TIED CARD OF 'armoirelaw13.AdtAnswers'. -/
def adtAnswersCard : Claim7 := { stood := { row := adtAnswersRow, standIns := [], harness := (true, "e5c5757a92611ba78c0052f679c82f8549c54eb208829a832136fd654356648b"), looks := false }, kinds := [], alts := [], laidByText := true, laidKinds := [.data], laidTests := true, laidLooks := .later }
def AdtAnswersCardSaid : Prop := Claim7.holds Tryd.pinned (.plain (OpenSpec.ofChange adtAnswersSpec)) adtAnswersCard

/-- THE TIED CARD OF 'armoirelaw13.AdtLegal'. -/
def adtLegalCard : Claim7 := { stood := { row := adtLegalRow, standIns := [], harness := (true, "e5c5757a92611ba78c0052f679c82f8549c54eb208829a832136fd654356648b"), looks := false }, kinds := [], alts := [], laidByText := true, laidKinds := [.data], laidTests := true, laidLooks := .later }
def AdtLegalCardSaid : Prop := Claim7.holds Tryd.pinned (.plain (OpenSpec.ofChange adtLegalSpec)) adtLegalCard

/-- THE TIED CARD OF 'armoirelaw13.AdtRoom'. -/
def adtRoomCard : Claim7 := { stood := { row := adtRoomRow, standIns := [], harness := (true, "e5c5757a92611ba78c0052f679c82f8549c54eb208829a832136fd654356648b"), looks := false }, kinds := [], alts := [], laidByText := true, laidKinds := [.data, .data], laidTests := true, laidLooks := .later }
def AdtRoomCardSaid : Prop := Claim7.holds Tryd.pinned (.plain (OpenSpec.ofChange adtRoomSpec)) adtRoomCard

/-- THE TIED CARD OF 'armoirelaw13.AdtRuns'. -/
def adtRunsCard : Claim7 := { stood := { row := adtRunsRow, standIns := [], harness := (true, "e5c5757a92611ba78c0052f679c82f8549c54eb208829a832136fd654356648b"), looks := false }, kinds := [], alts := [], laidByText := true, laidKinds := [.data], laidTests := true, laidLooks := .later }
def AdtRunsCardSaid : Prop := Claim7.holds Tryd.pinned (.plain (OpenSpec.ofChange adtRunsSpec)) adtRunsCard

/-- THE SECOND FORM's CARD OF 'armoirelaw13.AdtAnswers'. -/
def adtAnswersUptoCard : Claim7 := { stood := { row := adtAnswersUptoRow, standIns := [], harness := (true, "e5c5757a92611ba78c0052f679c82f8549c54eb208829a832136fd654356648b"), looks := false }, kinds := [], alts := [], laidByText := true, laidKinds := [.data], laidTests := true, laidLooks := .later }
def AdtAnswersUptoCardSaid : Prop := Claim7.holds Tryd.pinned (.plain (OpenSpec.upto adtAnswersSpec)) adtAnswersUptoCard

/-- THE SECOND FORM's CARD OF 'armoirelaw13.AdtLegal'. -/
def adtLegalUptoCard : Claim7 := { stood := { row := adtLegalUptoRow, standIns := [], harness := (true, "e5c5757a92611ba78c0052f679c82f8549c54eb208829a832136fd654356648b"), looks := false }, kinds := [], alts := [], laidByText := true, laidKinds := [.data], laidTests := true, laidLooks := .later }
def AdtLegalUptoCardSaid : Prop := Claim7.holds Tryd.pinned (.plain (OpenSpec.upto adtLegalSpec)) adtLegalUptoCard

/-- THE SECOND FORM's CARD OF 'armoirelaw13.AdtRoom'. -/
def adtRoomUptoCard : Claim7 := { stood := { row := adtRoomUptoRow, standIns := [], harness := (true, "e5c5757a92611ba78c0052f679c82f8549c54eb208829a832136fd654356648b"), looks := false }, kinds := [], alts := [], laidByText := true, laidKinds := [.data, .data], laidTests := true, laidLooks := .later }
def AdtRoomUptoCardSaid : Prop := Claim7.holds Tryd.pinned (.plain (OpenSpec.upto adtRoomSpec)) adtRoomUptoCard

/-- THE SECOND FORM's CARD OF 'armoirelaw13.AdtRuns'. -/
def adtRunsUptoCard : Claim7 := { stood := { row := adtRunsUptoRow, standIns := [], harness := (true, "e5c5757a92611ba78c0052f679c82f8549c54eb208829a832136fd654356648b"), looks := false }, kinds := [], alts := [], laidByText := true, laidKinds := [.data], laidTests := true, laidLooks := .later }
def AdtRunsUptoCardSaid : Prop := Claim7.holds Tryd.pinned (.plain (OpenSpec.upto adtRunsSpec)) adtRunsUptoCard
end Rows
end Go.Proofs.YtadngcjchlpkaaaDoor
