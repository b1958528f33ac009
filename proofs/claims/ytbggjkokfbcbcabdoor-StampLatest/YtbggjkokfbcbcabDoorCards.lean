/-
  DERIVED. GIVEN WITH THE SEED: THE CARDS: each row of YtbggjkokfbcbcabDoorRows.lean that lists a variable, with what it lists TIED to the program's text (the seventh form; the later family's looks); each row that meets fmt, with fmt's text TOLD by the authors' own Lean function (tested against real Go, not proved from fmt's source: count such statements apart). THE CARD IS WHAT COUNTS. Prove the row's statement (the work); the ties are given (YtbggjkokfbcbcabDoorTie.lean); close each card by the builder's one call (the guide's Derived/Test/ToyasCard.lean, 'card_holds'). Laid BY PROGRAM, IN A SANDBOX (cutbox-door.mjs). By AI agents, Wed Nov 11 2026. No macro, syntax, notation, axiom, sorry.
-/
import Derived.Test.YtbggjkokfbcbcabDoorRows
import GoSem.ClaimSeven
namespace Go.Proofs.YtbggjkokfbcbcabDoor
namespace Rows

/-- THE TIED CARD OF 'armoirelaw04.StampTurns'. -/
def stampTurnsCard : Claim7 := { stood := { row := stampTurnsRow, standIns := [], harness := (true, "1025ba4187d4d67f1c9ef1f5a73fce6b95cf87eb2c4b45365dadf87f34ca6495"), looks := false }, kinds := [], alts := [], laidByText := true, laidKinds := [.data, .pinned], laidTests := true, laidLooks := .later }
def StampTurnsCardSaid : Prop := Claim7.holds Tryd.pinned (.plain (OpenSpec.ofChange stampTurnsSpec)) stampTurnsCard

/-- THE TIED CARD OF 'armoirelaw04.StampLatest'. -/
def stampLatestCard : Claim7 := { stood := { row := stampLatestRow, standIns := [], harness := (true, "1025ba4187d4d67f1c9ef1f5a73fce6b95cf87eb2c4b45365dadf87f34ca6495"), looks := false }, kinds := [], alts := [], laidByText := true, laidKinds := [.data, .pinned], laidTests := true, laidLooks := .later }
def StampLatestCardSaid : Prop := Claim7.holds Tryd.pinned (.plain (OpenSpec.ofChange stampLatestSpec)) stampLatestCard

/-- THE SECOND FORM's CARD OF 'armoirelaw04.StampTurns'. -/
def stampTurnsUptoCard : Claim7 := { stood := { row := stampTurnsUptoRow, standIns := [], harness := (true, "1025ba4187d4d67f1c9ef1f5a73fce6b95cf87eb2c4b45365dadf87f34ca6495"), looks := false }, kinds := [], alts := [], laidByText := true, laidKinds := [.data, .pinned], laidTests := true, laidLooks := .later }
def StampTurnsUptoCardSaid : Prop := Claim7.holds Tryd.pinned (.plain (OpenSpec.upto stampTurnsSpec)) stampTurnsUptoCard

/-- THE SECOND FORM's CARD OF 'armoirelaw04.StampLatest'. -/
def stampLatestUptoCard : Claim7 := { stood := { row := stampLatestUptoRow, standIns := [], harness := (true, "1025ba4187d4d67f1c9ef1f5a73fce6b95cf87eb2c4b45365dadf87f34ca6495"), looks := false }, kinds := [], alts := [], laidByText := true, laidKinds := [.data, .pinned], laidTests := true, laidLooks := .later }
def StampLatestUptoCardSaid : Prop := Claim7.holds Tryd.pinned (.plain (OpenSpec.upto stampLatestSpec)) stampLatestUptoCard
end Rows
end Go.Proofs.YtbggjkokfbcbcabDoor
