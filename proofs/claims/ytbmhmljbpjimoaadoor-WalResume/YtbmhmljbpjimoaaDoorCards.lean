/-
  DERIVED. GIVEN WITH THE SEED: THE CARDS: each row of YtbmhmljbpjimoaaDoorRows.lean that lists a variable, with what it lists TIED to the program's text (the seventh form; the later family's looks); each row that meets fmt, with fmt's text TOLD by the authors' own Lean function (tested against real Go, not proved from fmt's source: count such statements apart). THE CARD IS WHAT COUNTS. Prove the row's statement (the work); the ties are given (YtbmhmljbpjimoaaDoorTie.lean); close each card by the builder's one call (the guide's Derived/Test/ToyasCard.lean, 'card_holds'). Laid BY PROGRAM, IN A SANDBOX (cutbox-door.mjs). By AI agents, Wed Nov 11 2026. No macro, syntax, notation, axiom, sorry.
-/
import Derived.Test.YtbmhmljbpjimoaaDoorRows
import GoSem.ClaimSeven
namespace Go.Proofs.YtbmhmljbpjimoaaDoor
namespace Rows

/-- THE TIED CARD OF 'armoirelaw05.WalResume'. -/
def walResumeCard : Claim7 := { stood := { row := walResumeRow, standIns := [], harness := (true, "eed2542bc330d8b0febec165d7c752c72bffe2b4ae79d25a612f76a898492c54"), looks := false }, kinds := [], alts := [], laidByText := true, laidKinds := [.data, .pinned], laidTests := true, laidLooks := .later }
def WalResumeCardSaid : Prop := Claim7.holds Tryd.pinned (.plain (OpenSpec.ofChange walResumeSpec)) walResumeCard

/-- THE SECOND FORM's CARD OF 'armoirelaw05.WalResume'. -/
def walResumeUptoCard : Claim7 := { stood := { row := walResumeUptoRow, standIns := [], harness := (true, "eed2542bc330d8b0febec165d7c752c72bffe2b4ae79d25a612f76a898492c54"), looks := false }, kinds := [], alts := [], laidByText := true, laidKinds := [.data, .pinned], laidTests := true, laidLooks := .later }
def WalResumeUptoCardSaid : Prop := Claim7.holds Tryd.pinned (.plain (OpenSpec.upto walResumeSpec)) walResumeUptoCard
end Rows
end Go.Proofs.YtbmhmljbpjimoaaDoor
