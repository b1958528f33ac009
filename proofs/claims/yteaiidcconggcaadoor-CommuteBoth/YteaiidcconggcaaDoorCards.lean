/-
  DERIVED. GIVEN WITH THE SEED: THE CARDS: each row of YteaiidcconggcaaDoorRows.lean that lists a variable, with what it lists TIED to the program's text (the seventh form; the later family's looks); each row that meets fmt, with fmt's text TOLD by the authors' own Lean function (tested against real Go, not proved from fmt's source: count such statements apart). THE CARD IS WHAT COUNTS. Prove the row's statement (the work); the ties are given (YteaiidcconggcaaDoorTie.lean); close each card by the builder's one call (the guide's Derived/Test/ToyasCard.lean, 'card_holds'). Laid BY PROGRAM, IN A SANDBOX (cutbox-door.mjs). By AI agents, Wed Nov 11 2026. No macro, syntax, notation, axiom, sorry.
-/
import Derived.Test.YteaiidcconggcaaDoorRows
import GoSem.ClaimSeven
namespace Go.Proofs.YteaiidcconggcaaDoor
namespace Rows

/-- THE TIED CARD OF 'armoirelaw14.CommuteExact'. -/
def commuteExactCard : Claim7 := { stood := { row := commuteExactRow, standIns := [], harness := (true, "40c8e8f8a35f6d0ebd30b8a6bd38989378867e4aa77b60e3f0ff9b5a479fcc24"), looks := false }, kinds := [], alts := [], laidByText := true, laidKinds := [.data], laidTests := true, laidLooks := .later }
def CommuteExactCardSaid : Prop := Claim7.holds Tryd.pinned (.plain (OpenSpec.ofChange commuteExactSpec)) commuteExactCard

/-- THE TIED CARD OF 'armoirelaw14.CommuteStates'. -/
def commuteStatesCard : Claim7 := { stood := { row := commuteStatesRow, standIns := [], harness := (true, "40c8e8f8a35f6d0ebd30b8a6bd38989378867e4aa77b60e3f0ff9b5a479fcc24"), looks := false }, kinds := [], alts := [], laidByText := true, laidKinds := [.data], laidTests := true, laidLooks := .later }
def CommuteStatesCardSaid : Prop := Claim7.holds Tryd.pinned (.plain (OpenSpec.ofChange commuteStatesSpec)) commuteStatesCard

/-- THE TIED CARD OF 'armoirelaw14.CommuteBoth'. -/
def commuteBothCard : Claim7 := { stood := { row := commuteBothRow, standIns := [], harness := (true, "40c8e8f8a35f6d0ebd30b8a6bd38989378867e4aa77b60e3f0ff9b5a479fcc24"), looks := false }, kinds := [], alts := [], laidByText := true, laidKinds := [.data], laidTests := true, laidLooks := .later }
def CommuteBothCardSaid : Prop := Claim7.holds Tryd.pinned (.plain (OpenSpec.ofChange commuteBothSpec)) commuteBothCard

/-- THE TIED CARD OF 'armoirelaw14.CommuteAny'. -/
def commuteAnyCard : Claim7 := { stood := { row := commuteAnyRow, standIns := [], harness := (true, "40c8e8f8a35f6d0ebd30b8a6bd38989378867e4aa77b60e3f0ff9b5a479fcc24"), looks := false }, kinds := [], alts := [], laidByText := true, laidKinds := [.data], laidTests := true, laidLooks := .later }
def CommuteAnyCardSaid : Prop := Claim7.holds Tryd.pinned (.plain (OpenSpec.ofChange commuteAnySpec)) commuteAnyCard

/-- THE SECOND FORM's CARD OF 'armoirelaw14.CommuteExact'. -/
def commuteExactUptoCard : Claim7 := { stood := { row := commuteExactUptoRow, standIns := [], harness := (true, "40c8e8f8a35f6d0ebd30b8a6bd38989378867e4aa77b60e3f0ff9b5a479fcc24"), looks := false }, kinds := [], alts := [], laidByText := true, laidKinds := [.data], laidTests := true, laidLooks := .later }
def CommuteExactUptoCardSaid : Prop := Claim7.holds Tryd.pinned (.plain (OpenSpec.upto commuteExactSpec)) commuteExactUptoCard

/-- THE SECOND FORM's CARD OF 'armoirelaw14.CommuteStates'. -/
def commuteStatesUptoCard : Claim7 := { stood := { row := commuteStatesUptoRow, standIns := [], harness := (true, "40c8e8f8a35f6d0ebd30b8a6bd38989378867e4aa77b60e3f0ff9b5a479fcc24"), looks := false }, kinds := [], alts := [], laidByText := true, laidKinds := [.data], laidTests := true, laidLooks := .later }
def CommuteStatesUptoCardSaid : Prop := Claim7.holds Tryd.pinned (.plain (OpenSpec.upto commuteStatesSpec)) commuteStatesUptoCard

/-- THE SECOND FORM's CARD OF 'armoirelaw14.CommuteBoth'. -/
def commuteBothUptoCard : Claim7 := { stood := { row := commuteBothUptoRow, standIns := [], harness := (true, "40c8e8f8a35f6d0ebd30b8a6bd38989378867e4aa77b60e3f0ff9b5a479fcc24"), looks := false }, kinds := [], alts := [], laidByText := true, laidKinds := [.data], laidTests := true, laidLooks := .later }
def CommuteBothUptoCardSaid : Prop := Claim7.holds Tryd.pinned (.plain (OpenSpec.upto commuteBothSpec)) commuteBothUptoCard

/-- THE SECOND FORM's CARD OF 'armoirelaw14.CommuteAny'. -/
def commuteAnyUptoCard : Claim7 := { stood := { row := commuteAnyUptoRow, standIns := [], harness := (true, "40c8e8f8a35f6d0ebd30b8a6bd38989378867e4aa77b60e3f0ff9b5a479fcc24"), looks := false }, kinds := [], alts := [], laidByText := true, laidKinds := [.data], laidTests := true, laidLooks := .later }
def CommuteAnyUptoCardSaid : Prop := Claim7.holds Tryd.pinned (.plain (OpenSpec.upto commuteAnySpec)) commuteAnyUptoCard
end Rows
end Go.Proofs.YteaiidcconggcaaDoor
