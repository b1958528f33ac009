/-
  DERIVED. GIVEN WITH THE SEED: THE CARDS: each row of YtfehpjmjchdkgaaDoorRows.lean that lists a variable, with what it lists TIED to the program's text (the seventh form; the later family's looks); each row that meets fmt, with fmt's text TOLD by the authors' own Lean function (tested against real Go, not proved from fmt's source: count such statements apart). THE CARD IS WHAT COUNTS. Prove the row's statement (the work); the ties are given (YtfehpjmjchdkgaaDoorTie.lean); close each card by the builder's one call (the guide's Derived/Test/ToyasCard.lean, 'card_holds'). Laid BY PROGRAM, IN A SANDBOX (cutbox-door.mjs). By AI agents, Wed Nov 11 2026. No macro, syntax, notation, axiom, sorry.
-/
import Derived.Test.YtfehpjmjchdkgaaDoorRows
import GoSem.ClaimSeven
namespace Go.Proofs.YtfehpjmjchdkgaaDoor
namespace Rows

/-- THE TIED CARD OF 'armoirelaw12.MethodCalls'. -/
def methodCallsCard : Claim7 := { stood := { row := methodCallsRow, standIns := [], harness := (true, "5676f482ce73286a74fa09bc84e574ba64df1ca6b5a56a54da4890d9ae74afda"), looks := false }, kinds := [], alts := [], laidByText := true, laidKinds := [.data], laidTests := true, laidLooks := .later }
def MethodCallsCardSaid : Prop := Claim7.holds Tryd.pinned (.plain (OpenSpec.ofChange methodCallsSpec)) methodCallsCard

/-- THE TIED CARD OF 'armoirelaw12.MethodResults'. -/
def methodResultsCard : Claim7 := { stood := { row := methodResultsRow, standIns := [], harness := (true, "5676f482ce73286a74fa09bc84e574ba64df1ca6b5a56a54da4890d9ae74afda"), looks := false }, kinds := [], alts := [], laidByText := true, laidKinds := [.data], laidTests := true, laidLooks := .later }
def MethodResultsCardSaid : Prop := Claim7.holds Tryd.pinned (.plain (OpenSpec.ofChange methodResultsSpec)) methodResultsCard

/-- THE TIED CARD OF 'armoirelaw12.MethodReads'. -/
def methodReadsCard : Claim7 := { stood := { row := methodReadsRow, standIns := [], harness := (true, "5676f482ce73286a74fa09bc84e574ba64df1ca6b5a56a54da4890d9ae74afda"), looks := false }, kinds := [], alts := [], laidByText := true, laidKinds := [.data], laidTests := true, laidLooks := .later }
def MethodReadsCardSaid : Prop := Claim7.holds Tryd.pinned (.plain (OpenSpec.ofChange methodReadsSpec)) methodReadsCard

/-- THE SECOND FORM's CARD OF 'armoirelaw12.MethodCalls'. -/
def methodCallsUptoCard : Claim7 := { stood := { row := methodCallsUptoRow, standIns := [], harness := (true, "5676f482ce73286a74fa09bc84e574ba64df1ca6b5a56a54da4890d9ae74afda"), looks := false }, kinds := [], alts := [], laidByText := true, laidKinds := [.data], laidTests := true, laidLooks := .later }
def MethodCallsUptoCardSaid : Prop := Claim7.holds Tryd.pinned (.plain (OpenSpec.upto methodCallsSpec)) methodCallsUptoCard

/-- THE SECOND FORM's CARD OF 'armoirelaw12.MethodResults'. -/
def methodResultsUptoCard : Claim7 := { stood := { row := methodResultsUptoRow, standIns := [], harness := (true, "5676f482ce73286a74fa09bc84e574ba64df1ca6b5a56a54da4890d9ae74afda"), looks := false }, kinds := [], alts := [], laidByText := true, laidKinds := [.data], laidTests := true, laidLooks := .later }
def MethodResultsUptoCardSaid : Prop := Claim7.holds Tryd.pinned (.plain (OpenSpec.upto methodResultsSpec)) methodResultsUptoCard

/-- THE SECOND FORM's CARD OF 'armoirelaw12.MethodReads'. -/
def methodReadsUptoCard : Claim7 := { stood := { row := methodReadsUptoRow, standIns := [], harness := (true, "5676f482ce73286a74fa09bc84e574ba64df1ca6b5a56a54da4890d9ae74afda"), looks := false }, kinds := [], alts := [], laidByText := true, laidKinds := [.data], laidTests := true, laidLooks := .later }
def MethodReadsUptoCardSaid : Prop := Claim7.holds Tryd.pinned (.plain (OpenSpec.upto methodReadsSpec)) methodReadsUptoCard
end Rows
end Go.Proofs.YtfehpjmjchdkgaaDoor
