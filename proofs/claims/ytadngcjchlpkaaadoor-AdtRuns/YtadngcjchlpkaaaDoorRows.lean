/-
  NARROWER THAN 'FOR EVERY INPUT', by the rows' own cells (each row's printed sentence says how): AdtAnswers: laid · AdtLegal: laid · AdtRoom: laid · AdtRuns: laid.
  DERIVED. THE GIVEN ROWS OF THIS SEAT. 4 by the template 'for every input the law returns true; each argument reads behind the call as it read before'; 0 by the template 'total and deterministic' (their statements: YtadngcjchlpkaaaDoorTotals.lean).
  GIVEN WITH THE SEED: the statements are not yours to turn. If you find one false, say at which input.
  Laid BY PROGRAM, IN A SANDBOX (cutbox-rows.mjs): the forced cells as the released guide's own fill.sh prints them over the translation 17a2578a75a0c1e2… (all of the seat's roots in one cut). By AI agents, Wed Nov 11 2026. No macro, syntax, notation, axiom, sorry.
-/
import Derived.Test.YtadngcjchlpkaaaDoorChecked
import GoSem.Claim
import GoSem.ClaimJoined
import GoSem.ClaimMapViews
import Derived.JoinedTies
import Derived.KernelRfl
namespace Go.Proofs.YtadngcjchlpkaaaDoor
/- THE CELL 'sum', in the pinned program and in every row, IS THE sha256 OF THE DUMP (.gsa) THAT YtadngcjchlpkaaaDoorProg.lean LOADS. Nothing in Lean hashes anything: it is a label: what it is worth is what the hold of that sum in a sandbox is worth. -/
noncomputable def Tryd.pinned : Pinned := { name := "ytadngcjchlpkaaadoor", sum := "17a2578a75a0c1e21b7d613d33628f87bb7ac5b2a07af58328ba1b5da64b0f04", checked := Tryd.checked }
namespace Rows
def none {H : Type} : Left H := { results := [], args := [] }

/- WHAT THE LISTED PACKAGE-LEVEL VARIABLES READ AS WHEN THE CALL BEGINS. Each datum BY PROGRAM (the guide's laid-datum.mjs) off the statement by which the dump's own 'gosem.cut.vars' lays the variable. In a bare row this is a premise. The card (YtadngcjchlpkaaaDoorCards.lean) ties it to the program's text. -/
def laid_armoire_method_factsOf {H : Type} : DataW H := .agg [.agg [.lit (.string []), .lit (.int .i64 0), .lit (.bool false), .lit (.bool false), .lit (.bool false)], .agg [.lit (.string [114, 101, 97, 100]), .lit (.int .i64 1), .lit (.bool false), .lit (.bool false), .lit (.bool false)], .agg [.lit (.string [119, 114, 105, 116, 101]), .lit (.int .i64 1), .lit (.bool true), .lit (.bool false), .lit (.bool false)], .agg [.lit (.string [97, 100, 100]), .lit (.int .i64 2), .lit (.bool false), .lit (.bool false), .lit (.bool true)], .agg [.lit (.string [99, 111, 117, 110, 116]), .lit (.int .i64 2), .lit (.bool false), .lit (.bool false), .lit (.bool false)], .agg [.lit (.string [99, 114, 101, 100, 105, 116]), .lit (.int .i64 3), .lit (.bool false), .lit (.bool false), .lit (.bool true)], .agg [.lit (.string [100, 101, 98, 105, 116]), .lit (.int .i64 3), .lit (.bool false), .lit (.bool false), .lit (.bool true)], .agg [.lit (.string [98, 97, 108, 97, 110, 99, 101]), .lit (.int .i64 3), .lit (.bool false), .lit (.bool false), .lit (.bool false)], .agg [.lit (.string [105, 110, 115, 101, 114, 116]), .lit (.int .i64 4), .lit (.bool true), .lit (.bool false), .lit (.bool false)], .agg [.lit (.string [114, 101, 109, 111, 118, 101]), .lit (.int .i64 4), .lit (.bool true), .lit (.bool false), .lit (.bool false)], .agg [.lit (.string [104, 97, 115]), .lit (.int .i64 4), .lit (.bool true), .lit (.bool false), .lit (.bool false)], .agg [.lit (.string [98, 105, 110, 100]), .lit (.int .i64 5), .lit (.bool true), .lit (.bool true), .lit (.bool false)], .agg [.lit (.string [117, 110, 98, 105, 110, 100]), .lit (.int .i64 5), .lit (.bool true), .lit (.bool false), .lit (.bool false)], .agg [.lit (.string [108, 111, 111, 107]), .lit (.int .i64 5), .lit (.bool true), .lit (.bool false), .lit (.bool false)], .agg [.lit (.string [101, 110, 113]), .lit (.int .i64 6), .lit (.bool true), .lit (.bool false), .lit (.bool false)], .agg [.lit (.string [100, 101, 113]), .lit (.int .i64 6), .lit (.bool false), .lit (.bool false), .lit (.bool false)], .agg [.lit (.string [112, 117, 116]), .lit (.int .i64 7), .lit (.bool true), .lit (.bool false), .lit (.bool false)], .agg [.lit (.string [116, 97, 107, 101]), .lit (.int .i64 7), .lit (.bool false), .lit (.bool false), .lit (.bool false)]]
def laid_armoire_value_words {H : Type} : DataW H := .agg [.lit (.string []), .lit (.string [114, 101, 103, 105, 115, 116, 101, 114]), .lit (.string [99, 111, 117, 110, 116, 101, 114]), .lit (.string [97, 99, 99, 111, 117, 110, 116]), .lit (.string [115, 101, 116]), .lit (.string [100, 105, 114, 101, 99, 116, 111, 114, 121]), .lit (.string [113, 117, 101, 117, 101]), .lit (.string [115, 101, 109, 105, 113, 117, 101, 117, 101])]

/-- 'armoirelaw13.AdtAnswers': WHATEVER THE INPUT: true; the input reads as it did. -/
def adtAnswersSpec : ChangeSpec := { name := "adtAnswers", fn := fun _ => fun
  | [d1, d2, d3] => { results := [.lit (.bool true)], args := [d1, d2, d3] }
  | _ => none }
def adtAnswersRow : OpenClaim := { program := "ytadngcjchlpkaaadoor", sum := "17a2578a75a0c1e21b7d613d33628f87bb7ac5b2a07af58328ba1b5da64b0f04", func := "armoire/armoirelaw13.AdtAnswers", spec := "adtAnswers", named := ["armoire/method.factsOf"], apart := false, laid := [("armoire/method.factsOf", laid_armoire_method_factsOf)] }
def AdtAnswersSaid : Prop := adtAnswersRow.holds Tryd.pinned (OpenSpec.ofChange adtAnswersSpec)

/-- ITS FALSE NEIGHBOUR: 'it returns false'. Refute it at one input. -/
def adtAnswersWrong : ChangeSpec := { name := "adtAnswers", fn := fun _ => fun
  | [d1, d2, d3] => { results := [.lit (.bool false)], args := [d1, d2, d3] }
  | _ => none }
def AdtAnswersWrongFalsely : Prop := adtAnswersRow.holds Tryd.pinned (OpenSpec.ofChange adtAnswersWrong)

/-- 'armoirelaw13.AdtLegal': WHATEVER THE INPUT: true; the input reads as it did. -/
def adtLegalSpec : ChangeSpec := { name := "adtLegal", fn := fun _ => fun
  | [d1, d2, d3] => { results := [.lit (.bool true)], args := [d1, d2, d3] }
  | _ => none }
def adtLegalRow : OpenClaim := { program := "ytadngcjchlpkaaadoor", sum := "17a2578a75a0c1e21b7d613d33628f87bb7ac5b2a07af58328ba1b5da64b0f04", func := "armoire/armoirelaw13.AdtLegal", spec := "adtLegal", named := ["armoire/method.factsOf"], apart := false, laid := [("armoire/method.factsOf", laid_armoire_method_factsOf)] }
def AdtLegalSaid : Prop := adtLegalRow.holds Tryd.pinned (OpenSpec.ofChange adtLegalSpec)

/-- ITS FALSE NEIGHBOUR: 'it returns false'. Refute it at one input. -/
def adtLegalWrong : ChangeSpec := { name := "adtLegal", fn := fun _ => fun
  | [d1, d2, d3] => { results := [.lit (.bool false)], args := [d1, d2, d3] }
  | _ => none }
def AdtLegalWrongFalsely : Prop := adtLegalRow.holds Tryd.pinned (OpenSpec.ofChange adtLegalWrong)

/-- 'armoirelaw13.AdtRoom': WHATEVER THE INPUT: true; the input reads as it did. -/
def adtRoomSpec : ChangeSpec := { name := "adtRoom", fn := fun _ => fun
  | [d1, d2, d3, d4] => { results := [.lit (.bool true)], args := [d1, d2, d3, d4] }
  | _ => none }
def adtRoomRow : OpenClaim := { program := "ytadngcjchlpkaaadoor", sum := "17a2578a75a0c1e21b7d613d33628f87bb7ac5b2a07af58328ba1b5da64b0f04", func := "armoire/armoirelaw13.AdtRoom", spec := "adtRoom", named := ["armoire/method.factsOf", "armoire/value.words"], apart := false, laid := [("armoire/value.words", laid_armoire_value_words), ("armoire/method.factsOf", laid_armoire_method_factsOf)] }
def AdtRoomSaid : Prop := adtRoomRow.holds Tryd.pinned (OpenSpec.ofChange adtRoomSpec)

/-- ITS FALSE NEIGHBOUR: 'it returns false'. Refute it at one input. -/
def adtRoomWrong : ChangeSpec := { name := "adtRoom", fn := fun _ => fun
  | [d1, d2, d3, d4] => { results := [.lit (.bool false)], args := [d1, d2, d3, d4] }
  | _ => none }
def AdtRoomWrongFalsely : Prop := adtRoomRow.holds Tryd.pinned (OpenSpec.ofChange adtRoomWrong)

/-- 'armoirelaw13.AdtRuns': WHATEVER THE INPUT: true; the input reads as it did. -/
def adtRunsSpec : ChangeSpec := { name := "adtRuns", fn := fun _ => fun
  | [d1, d2, d3] => { results := [.lit (.bool true)], args := [d1, d2, d3] }
  | _ => none }
def adtRunsRow : OpenClaim := { program := "ytadngcjchlpkaaadoor", sum := "17a2578a75a0c1e21b7d613d33628f87bb7ac5b2a07af58328ba1b5da64b0f04", func := "armoire/armoirelaw13.AdtRuns", spec := "adtRuns", named := ["armoire/method.factsOf"], apart := false, laid := [("armoire/method.factsOf", laid_armoire_method_factsOf)] }
def AdtRunsSaid : Prop := adtRunsRow.holds Tryd.pinned (OpenSpec.ofChange adtRunsSpec)

/-- ITS FALSE NEIGHBOUR: 'it returns false'. Refute it at one input. -/
def adtRunsWrong : ChangeSpec := { name := "adtRuns", fn := fun _ => fun
  | [d1, d2, d3] => { results := [.lit (.bool false)], args := [d1, d2, d3] }
  | _ => none }
def AdtRunsWrongFalsely : Prop := adtRunsRow.holds Tryd.pinned (OpenSpec.ofChange adtRunsWrong)

/- THE SECOND FORM. 'bulk': how many values and letters a reading holds, each counted each time it is reached (what is shared counts as often as it is met; a slice's spare places count too). A statement '..UptoSaid' is the law's where the arguments, and the package variables that the reading takes, are together of bulk at most 1048576: NARROWER than '..Said'. Prove '..Said' where nothing that the law and all that it calls make is longer than what came in: it says more and counts as full. Else prove '..UptoSaid'. A law counts once. -/
mutual
def uptoBulk {H : Type} : DataW H → Nat
  | .lit (.string bytes) => bytes.length + 1
  | .lit _ => 1
  | .nil => 1
  | .ptr d => uptoBulk d + 1
  | .slice elems spare => uptoBulkAll elems + uptoBulkAll spare + 1
  | .agg parts => uptoBulkAll parts + 1
  | .iface _ d => uptoBulk d + 1
  | .map entries => uptoBulkEntries entries + 1
  | .held _ => 1
def uptoBulkAll {H : Type} : List (DataW H) → Nat
  | [] => 0
  | d :: r => uptoBulk d + uptoBulkAll r
def uptoBulkEntries {H : Type} : List (Lit × DataW H) → Nat
  | [] => 0
  | x :: r => uptoBulkEntry x + uptoBulkEntries r
def uptoBulkEntry {H : Type} : Lit × DataW H → Nat
  | (.string bytes, d) => bytes.length + uptoBulk d + 1
  | (_, d) => uptoBulk d + 1
 end
def uptoSmall : (H : Type) → List (DataW H) → Bool := fun _ ds => decide (uptoBulkAll ds ≤ 1048576)
def OpenSpec.upto (s : _root_.Go.ChangeSpec) : _root_.Go.OpenSpec := { _root_.Go.OpenSpec.ofChange s with cond := some uptoSmall }

/-- 'armoirelaw13.AdtAnswers', WHERE WHAT IT READS IS OF BULK AT MOST 1048576: true; the input reads as it did. -/
def adtAnswersUptoRow : OpenClaim := { program := "ytadngcjchlpkaaadoor", sum := "17a2578a75a0c1e21b7d613d33628f87bb7ac5b2a07af58328ba1b5da64b0f04", func := "armoire/armoirelaw13.AdtAnswers", spec := "adtAnswers", named := ["armoire/method.factsOf"], apart := false, laid := [("armoire/method.factsOf", laid_armoire_method_factsOf)], narrowed := true }
def AdtAnswersUptoSaid : Prop := adtAnswersUptoRow.holds Tryd.pinned (OpenSpec.upto adtAnswersSpec)

/-- 'armoirelaw13.AdtLegal', WHERE WHAT IT READS IS OF BULK AT MOST 1048576: true; the input reads as it did. -/
def adtLegalUptoRow : OpenClaim := { program := "ytadngcjchlpkaaadoor", sum := "17a2578a75a0c1e21b7d613d33628f87bb7ac5b2a07af58328ba1b5da64b0f04", func := "armoire/armoirelaw13.AdtLegal", spec := "adtLegal", named := ["armoire/method.factsOf"], apart := false, laid := [("armoire/method.factsOf", laid_armoire_method_factsOf)], narrowed := true }
def AdtLegalUptoSaid : Prop := adtLegalUptoRow.holds Tryd.pinned (OpenSpec.upto adtLegalSpec)

/-- 'armoirelaw13.AdtRoom', WHERE WHAT IT READS IS OF BULK AT MOST 1048576: true; the input reads as it did. -/
def adtRoomUptoRow : OpenClaim := { program := "ytadngcjchlpkaaadoor", sum := "17a2578a75a0c1e21b7d613d33628f87bb7ac5b2a07af58328ba1b5da64b0f04", func := "armoire/armoirelaw13.AdtRoom", spec := "adtRoom", named := ["armoire/method.factsOf", "armoire/value.words"], apart := false, laid := [("armoire/value.words", laid_armoire_value_words), ("armoire/method.factsOf", laid_armoire_method_factsOf)], narrowed := true }
def AdtRoomUptoSaid : Prop := adtRoomUptoRow.holds Tryd.pinned (OpenSpec.upto adtRoomSpec)

/-- 'armoirelaw13.AdtRuns', WHERE WHAT IT READS IS OF BULK AT MOST 1048576: true; the input reads as it did. -/
def adtRunsUptoRow : OpenClaim := { program := "ytadngcjchlpkaaadoor", sum := "17a2578a75a0c1e21b7d613d33628f87bb7ac5b2a07af58328ba1b5da64b0f04", func := "armoire/armoirelaw13.AdtRuns", spec := "adtRuns", named := ["armoire/method.factsOf"], apart := false, laid := [("armoire/method.factsOf", laid_armoire_method_factsOf)], narrowed := true }
def AdtRunsUptoSaid : Prop := adtRunsUptoRow.holds Tryd.pinned (OpenSpec.upto adtRunsSpec)

end Rows
end Go.Proofs.YtadngcjchlpkaaaDoor
