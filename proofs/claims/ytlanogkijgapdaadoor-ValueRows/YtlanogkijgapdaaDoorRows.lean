/-
  NARROWER THAN 'FOR EVERY INPUT', by the rows' own cells (each row's printed sentence says how): ValueTexts: laid · ValueReads: laid · ValueRows: laid · ValueWords: laid · ValueSame: laid.
  DERIVED. THE GIVEN ROWS OF THIS SEAT. 5 by the template 'for every input the law returns true; each argument reads behind the call as it read before'; 0 by the template 'total and deterministic' (their statements: YtlanogkijgapdaaDoorTotals.lean).
  GIVEN WITH THE SEED: the statements are not yours to turn. If you find one false, say at which input.
  Laid BY PROGRAM, IN A SANDBOX (cutbox-rows.mjs): the forced cells as the released guide's own fill.sh prints them over the translation a5d361558fd04db3… (all of the seat's roots in one cut). By AI agents, Wed Nov 11 2026. No macro, syntax, notation, axiom, sorry.
-/
import Derived.Test.YtlanogkijgapdaaDoorChecked
import GoSem.Claim
import GoSem.ClaimJoined
import GoSem.ClaimMapViews
import Derived.JoinedTies
import Derived.KernelRfl
namespace Go.Proofs.YtlanogkijgapdaaDoor
/- THE CELL 'sum', in the pinned program and in every row, IS THE sha256 OF THE DUMP (.gsa) THAT YtlanogkijgapdaaDoorProg.lean LOADS. Nothing in Lean hashes anything: it is a label: what it is worth is what the hold of that sum in a sandbox is worth. -/
noncomputable def Tryd.pinned : Pinned := { name := "ytlanogkijgapdaadoor", sum := "a5d361558fd04db35dbf052222a014193dbcec7476c43709b81da70f98530a6b", checked := Tryd.checked }
namespace Rows
def none {H : Type} : Left H := { results := [], args := [] }

/- WHAT THE LISTED PACKAGE-LEVEL VARIABLES READ AS WHEN THE CALL BEGINS. Each datum BY PROGRAM (the guide's laid-datum.mjs) off the statement by which the dump's own 'gosem.cut.vars' lays the variable. In a bare row this is a premise. The card (YtlanogkijgapdaaDoorCards.lean) ties it to the program's text. -/
def laid_armoire_value_words {H : Type} : DataW H := .agg [.lit (.string []), .lit (.string [114, 101, 103, 105, 115, 116, 101, 114]), .lit (.string [99, 111, 117, 110, 116, 101, 114]), .lit (.string [97, 99, 99, 111, 117, 110, 116]), .lit (.string [115, 101, 116]), .lit (.string [100, 105, 114, 101, 99, 116, 111, 114, 121]), .lit (.string [113, 117, 101, 117, 101]), .lit (.string [115, 101, 109, 105, 113, 117, 101, 117, 101])]

/-- 'armoirelaw11.ValueTexts': WHATEVER THE INPUT: true; the input reads as it did. -/
def valueTextsSpec : ChangeSpec := { name := "valueTexts", fn := fun _ => fun
  | [d1, d2] => { results := [.lit (.bool true)], args := [d1, d2] }
  | _ => none }
def valueTextsRow : OpenClaim := { program := "ytlanogkijgapdaadoor", sum := "a5d361558fd04db35dbf052222a014193dbcec7476c43709b81da70f98530a6b", func := "armoire/armoirelaw11.ValueTexts", spec := "valueTexts", named := ["armoire/value.words"], apart := false, laid := [("armoire/value.words", laid_armoire_value_words)] }
def ValueTextsSaid : Prop := valueTextsRow.holds Tryd.pinned (OpenSpec.ofChange valueTextsSpec)

/-- ITS FALSE NEIGHBOUR: 'it returns false'. Refute it at one input. -/
def valueTextsWrong : ChangeSpec := { name := "valueTexts", fn := fun _ => fun
  | [d1, d2] => { results := [.lit (.bool false)], args := [d1, d2] }
  | _ => none }
def ValueTextsWrongFalsely : Prop := valueTextsRow.holds Tryd.pinned (OpenSpec.ofChange valueTextsWrong)

/-- 'armoirelaw11.ValueReads': WHATEVER THE INPUT: true; the input reads as it did. -/
def valueReadsSpec : ChangeSpec := { name := "valueReads", fn := fun _ => fun
  | [d] => { results := [.lit (.bool true)], args := [d] }
  | _ => none }
def valueReadsRow : OpenClaim := { program := "ytlanogkijgapdaadoor", sum := "a5d361558fd04db35dbf052222a014193dbcec7476c43709b81da70f98530a6b", func := "armoire/armoirelaw11.ValueReads", spec := "valueReads", named := ["armoire/value.words"], apart := false, laid := [("armoire/value.words", laid_armoire_value_words)] }
def ValueReadsSaid : Prop := valueReadsRow.holds Tryd.pinned (OpenSpec.ofChange valueReadsSpec)

/-- ITS FALSE NEIGHBOUR: 'it returns false'. Refute it at one input. -/
def valueReadsWrong : ChangeSpec := { name := "valueReads", fn := fun _ => fun
  | [d] => { results := [.lit (.bool false)], args := [d] }
  | _ => none }
def ValueReadsWrongFalsely : Prop := valueReadsRow.holds Tryd.pinned (OpenSpec.ofChange valueReadsWrong)

/-- 'armoirelaw11.ValueRows': WHATEVER THE INPUT: true; the input reads as it did. -/
def valueRowsSpec : ChangeSpec := { name := "valueRows", fn := fun _ => fun
  | [d1, d2, d3] => { results := [.lit (.bool true)], args := [d1, d2, d3] }
  | _ => none }
def valueRowsRow : OpenClaim := { program := "ytlanogkijgapdaadoor", sum := "a5d361558fd04db35dbf052222a014193dbcec7476c43709b81da70f98530a6b", func := "armoire/armoirelaw11.ValueRows", spec := "valueRows", named := ["armoire/value.words"], apart := false, laid := [("armoire/value.words", laid_armoire_value_words)] }
def ValueRowsSaid : Prop := valueRowsRow.holds Tryd.pinned (OpenSpec.ofChange valueRowsSpec)

/-- ITS FALSE NEIGHBOUR: 'it returns false'. Refute it at one input. -/
def valueRowsWrong : ChangeSpec := { name := "valueRows", fn := fun _ => fun
  | [d1, d2, d3] => { results := [.lit (.bool false)], args := [d1, d2, d3] }
  | _ => none }
def ValueRowsWrongFalsely : Prop := valueRowsRow.holds Tryd.pinned (OpenSpec.ofChange valueRowsWrong)

/-- 'armoirelaw11.ValueWords': WHATEVER THE INPUT: true; the input reads as it did. -/
def valueWordsSpec : ChangeSpec := { name := "valueWords", fn := fun _ => fun
  | [d1, d2] => { results := [.lit (.bool true)], args := [d1, d2] }
  | _ => none }
def valueWordsRow : OpenClaim := { program := "ytlanogkijgapdaadoor", sum := "a5d361558fd04db35dbf052222a014193dbcec7476c43709b81da70f98530a6b", func := "armoire/armoirelaw11.ValueWords", spec := "valueWords", named := ["armoire/value.words"], apart := false, laid := [("armoire/value.words", laid_armoire_value_words)] }
def ValueWordsSaid : Prop := valueWordsRow.holds Tryd.pinned (OpenSpec.ofChange valueWordsSpec)

/-- ITS FALSE NEIGHBOUR: 'it returns false'. Refute it at one input. -/
def valueWordsWrong : ChangeSpec := { name := "valueWords", fn := fun _ => fun
  | [d1, d2] => { results := [.lit (.bool false)], args := [d1, d2] }
  | _ => none }
def ValueWordsWrongFalsely : Prop := valueWordsRow.holds Tryd.pinned (OpenSpec.ofChange valueWordsWrong)

/-- 'armoirelaw11.ValueSame': WHATEVER THE INPUT: true; the input reads as it did. -/
def valueSameSpec : ChangeSpec := { name := "valueSame", fn := fun _ => fun
  | [d1, d2, d3, d4] => { results := [.lit (.bool true)], args := [d1, d2, d3, d4] }
  | _ => none }
def valueSameRow : OpenClaim := { program := "ytlanogkijgapdaadoor", sum := "a5d361558fd04db35dbf052222a014193dbcec7476c43709b81da70f98530a6b", func := "armoire/armoirelaw11.ValueSame", spec := "valueSame", named := ["armoire/value.words"], apart := false, laid := [("armoire/value.words", laid_armoire_value_words)] }
def ValueSameSaid : Prop := valueSameRow.holds Tryd.pinned (OpenSpec.ofChange valueSameSpec)

/-- ITS FALSE NEIGHBOUR: 'it returns false'. Refute it at one input. -/
def valueSameWrong : ChangeSpec := { name := "valueSame", fn := fun _ => fun
  | [d1, d2, d3, d4] => { results := [.lit (.bool false)], args := [d1, d2, d3, d4] }
  | _ => none }
def ValueSameWrongFalsely : Prop := valueSameRow.holds Tryd.pinned (OpenSpec.ofChange valueSameWrong)

/- THE SECOND FORM. 'bulk': how many values and letters a reading holds, each counted each time it is reached (what is shared counts as often as it is met; a slice's spare places count too). A statement '..UptoSaid' is the law's where the arguments, and the package variables that the reading takes, are together of bulk at most 1048576: NARROWER than '..Said'. Prove '..Said' where nothing that the law and all that it calls make is longer than what came in: it says more and counts as full. Else prove '..UptoSaid'. A law counts once. -/
mutual
def uptoBulk {H : Type} : DataW H → Nat
  | .lit (.string bytes) => bytes.length + 1
  | .lit _ => 1
  | .nil => 1
  | .ptr d => uptoBulk d + 1
  | .slice elems spare => uptoBulkAll elems + uptoBulkAll spare + 1
  | .agg parts => uptoBulkAll parts + 1
  | .iface _ d => uptoBulk d + 1
  | .map entries => uptoBulkEntries entries + 1
  | .held _ => 1
def uptoBulkAll {H : Type} : List (DataW H) → Nat
  | [] => 0
  | d :: r => uptoBulk d + uptoBulkAll r
def uptoBulkEntries {H : Type} : List (Lit × DataW H) → Nat
  | [] => 0
  | x :: r => uptoBulkEntry x + uptoBulkEntries r
def uptoBulkEntry {H : Type} : Lit × DataW H → Nat
  | (.string bytes, d) => bytes.length + uptoBulk d + 1
  | (_, d) => uptoBulk d + 1
 end
def uptoSmall : (H : Type) → List (DataW H) → Bool := fun _ ds => decide (uptoBulkAll ds ≤ 1048576)
def OpenSpec.upto (s : _root_.Go.ChangeSpec) : _root_.Go.OpenSpec := { _root_.Go.OpenSpec.ofChange s with cond := some uptoSmall }

/-- 'armoirelaw11.ValueTexts', WHERE WHAT IT READS IS OF BULK AT MOST 1048576: true; the input reads as it did. -/
def valueTextsUptoRow : OpenClaim := { program := "ytlanogkijgapdaadoor", sum := "a5d361558fd04db35dbf052222a014193dbcec7476c43709b81da70f98530a6b", func := "armoire/armoirelaw11.ValueTexts", spec := "valueTexts", named := ["armoire/value.words"], apart := false, laid := [("armoire/value.words", laid_armoire_value_words)], narrowed := true }
def ValueTextsUptoSaid : Prop := valueTextsUptoRow.holds Tryd.pinned (OpenSpec.upto valueTextsSpec)

/-- 'armoirelaw11.ValueReads', WHERE WHAT IT READS IS OF BULK AT MOST 1048576: true; the input reads as it did. -/
def valueReadsUptoRow : OpenClaim := { program := "ytlanogkijgapdaadoor", sum := "a5d361558fd04db35dbf052222a014193dbcec7476c43709b81da70f98530a6b", func := "armoire/armoirelaw11.ValueReads", spec := "valueReads", named := ["armoire/value.words"], apart := false, laid := [("armoire/value.words", laid_armoire_value_words)], narrowed := true }
def ValueReadsUptoSaid : Prop := valueReadsUptoRow.holds Tryd.pinned (OpenSpec.upto valueReadsSpec)

/-- 'armoirelaw11.ValueRows', WHERE WHAT IT READS IS OF BULK AT MOST 1048576: true; the input reads as it did. -/
def valueRowsUptoRow : OpenClaim := { program := "ytlanogkijgapdaadoor", sum := "a5d361558fd04db35dbf052222a014193dbcec7476c43709b81da70f98530a6b", func := "armoire/armoirelaw11.ValueRows", spec := "valueRows", named := ["armoire/value.words"], apart := false, laid := [("armoire/value.words", laid_armoire_value_words)], narrowed := true }
def ValueRowsUptoSaid : Prop := valueRowsUptoRow.holds Tryd.pinned (OpenSpec.upto valueRowsSpec)

/-- 'armoirelaw11.ValueWords', WHERE WHAT IT READS IS OF BULK AT MOST 1048576: true; the input reads as it did. -/
def valueWordsUptoRow : OpenClaim := { program := "ytlanogkijgapdaadoor", sum := "a5d361558fd04db35dbf052222a014193dbcec7476c43709b81da70f98530a6b", func := "armoire/armoirelaw11.ValueWords", spec := "valueWords", named := ["armoire/value.words"], apart := false, laid := [("armoire/value.words", laid_armoire_value_words)], narrowed := true }
def ValueWordsUptoSaid : Prop := valueWordsUptoRow.holds Tryd.pinned (OpenSpec.upto valueWordsSpec)

/-- 'armoirelaw11.ValueSame', WHERE WHAT IT READS IS OF BULK AT MOST 1048576: true; the input reads as it did. -/
def valueSameUptoRow : OpenClaim := { program := "ytlanogkijgapdaadoor", sum := "a5d361558fd04db35dbf052222a014193dbcec7476c43709b81da70f98530a6b", func := "armoire/armoirelaw11.ValueSame", spec := "valueSame", named := ["armoire/value.words"], apart := false, laid := [("armoire/value.words", laid_armoire_value_words)], narrowed := true }
def ValueSameUptoSaid : Prop := valueSameUptoRow.holds Tryd.pinned (OpenSpec.upto valueSameSpec)

end Rows
end Go.Proofs.YtlanogkijgapdaaDoor
