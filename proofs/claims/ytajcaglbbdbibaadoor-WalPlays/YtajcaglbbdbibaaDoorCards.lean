/-
  DERIVED. GIVEN WITH THE SEED: THE CARDS: each row of YtajcaglbbdbibaaDoorRows.lean that lists a variable, with what it lists TIED to the program's text (the seventh form; the later family's looks); each row that meets fmt, with fmt's text TOLD by the authors' own Lean function (tested against real Go, not proved from fmt's source: count such statements apart). THE CARD IS WHAT COUNTS. Prove the row's statement (the work); the ties are given (YtajcaglbbdbibaaDoorTie.lean); close each card by the builder's one call (the guide's Derived/Test/ToyasCard.lean, 'card_holds'). Laid BY PROGRAM, IN A SANDBOX (cutbox-door.mjs). By AI agents, Wed Nov 11 2026. No macro, syntax, notation, axiom, sorry.
-/
import Derived.Test.YtajcaglbbdbibaaDoorRows
import GoSem.ClaimSeven
namespace Go.Proofs.YtajcaglbbdbibaaDoor
namespace Rows

/-- THE TIED CARD OF 'armoirelaw05.WalPlays'. -/
def walPlaysCard : Claim7 := { stood := { row := walPlaysRow, standIns := [], harness := (true, "8eb6c549b96cb35aa3e5a11297c6bc186154b5734e5fff163b68d5f85934e6a4"), looks := false }, kinds := [], alts := [], laidByText := true, laidKinds := [.data, .pinned], laidTests := true, laidLooks := .later }
def WalPlaysCardSaid : Prop := Claim7.holds Tryd.pinned (.plain (OpenSpec.ofChange walPlaysSpec)) walPlaysCard

/-- THE TIED CARD OF 'armoirelaw05.WalPrefix'. -/
def walPrefixCard : Claim7 := { stood := { row := walPrefixRow, standIns := [], harness := (true, "8eb6c549b96cb35aa3e5a11297c6bc186154b5734e5fff163b68d5f85934e6a4"), looks := false }, kinds := [], alts := [], laidByText := true, laidKinds := [.data, .pinned], laidTests := true, laidLooks := .later }
def WalPrefixCardSaid : Prop := Claim7.holds Tryd.pinned (.plain (OpenSpec.ofChange walPrefixSpec)) walPrefixCard

/-- THE TIED CARD OF 'armoirelaw05.WalBeyond'. -/
def walBeyondCard : Claim7 := { stood := { row := walBeyondRow, standIns := [], harness := (true, "8eb6c549b96cb35aa3e5a11297c6bc186154b5734e5fff163b68d5f85934e6a4"), looks := false }, kinds := [], alts := [], laidByText := true, laidKinds := [.data, .pinned], laidTests := true, laidLooks := .later }
def WalBeyondCardSaid : Prop := Claim7.holds Tryd.pinned (.plain (OpenSpec.ofChange walBeyondSpec)) walBeyondCard

/-- THE SECOND FORM's CARD OF 'armoirelaw05.WalPlays'. -/
def walPlaysUptoCard : Claim7 := { stood := { row := walPlaysUptoRow, standIns := [], harness := (true, "8eb6c549b96cb35aa3e5a11297c6bc186154b5734e5fff163b68d5f85934e6a4"), looks := false }, kinds := [], alts := [], laidByText := true, laidKinds := [.data, .pinned], laidTests := true, laidLooks := .later }
def WalPlaysUptoCardSaid : Prop := Claim7.holds Tryd.pinned (.plain (OpenSpec.upto walPlaysSpec)) walPlaysUptoCard

/-- THE SECOND FORM's CARD OF 'armoirelaw05.WalPrefix'. -/
def walPrefixUptoCard : Claim7 := { stood := { row := walPrefixUptoRow, standIns := [], harness := (true, "8eb6c549b96cb35aa3e5a11297c6bc186154b5734e5fff163b68d5f85934e6a4"), looks := false }, kinds := [], alts := [], laidByText := true, laidKinds := [.data, .pinned], laidTests := true, laidLooks := .later }
def WalPrefixUptoCardSaid : Prop := Claim7.holds Tryd.pinned (.plain (OpenSpec.upto walPrefixSpec)) walPrefixUptoCard

/-- THE SECOND FORM's CARD OF 'armoirelaw05.WalBeyond'. -/
def walBeyondUptoCard : Claim7 := { stood := { row := walBeyondUptoRow, standIns := [], harness := (true, "8eb6c549b96cb35aa3e5a11297c6bc186154b5734e5fff163b68d5f85934e6a4"), looks := false }, kinds := [], alts := [], laidByText := true, laidKinds := [.data, .pinned], laidTests := true, laidLooks := .later }
def WalBeyondUptoCardSaid : Prop := Claim7.holds Tryd.pinned (.plain (OpenSpec.upto walBeyondSpec)) walBeyondUptoCard
end Rows
end Go.Proofs.YtajcaglbbdbibaaDoor
