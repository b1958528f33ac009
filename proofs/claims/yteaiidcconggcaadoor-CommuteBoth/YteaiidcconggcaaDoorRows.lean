/-
  NARROWER THAN 'FOR EVERY INPUT', by the rows' own cells (each row's printed sentence says how): CommuteExact: laid · CommuteStates: laid · CommuteBoth: laid · CommuteAny: laid.
  DERIVED. THE GIVEN ROWS OF THIS SEAT. 4 by the template 'for every input the law returns true; each argument reads behind the call as it read before'; 0 by the template 'total and deterministic' (their statements: YteaiidcconggcaaDoorTotals.lean).
  GIVEN WITH THE SEED: the statements are not yours to turn. If you find one false, say at which input.
  Laid BY PROGRAM, IN A SANDBOX (cutbox-rows.mjs): the forced cells as the released guide's own fill.sh prints them over the translation fdca625f11259999… (all of the seat's roots in one cut). By AI agents, Wed Nov 11 2026. No macro, syntax, notation, axiom, sorry.
-/
import Derived.Test.YteaiidcconggcaaDoorChecked
import GoSem.Claim
import GoSem.ClaimJoined
import GoSem.ClaimMapViews
import Derived.JoinedTies
import Derived.KernelRfl
namespace Go.Proofs.YteaiidcconggcaaDoor
/- THE CELL 'sum', in the pinned program and in every row, IS THE sha256 OF THE DUMP (.gsa) THAT YteaiidcconggcaaDoorProg.lean LOADS. Nothing in Lean hashes anything: it is a label: what it is worth is what the hold of that sum in a sandbox is worth. -/
noncomputable def Tryd.pinned : Pinned := { name := "yteaiidcconggcaadoor", sum := "fdca625f112599990c4398a6d196d03eb0b567baa85a5fe0f5599f29a2a849c4", checked := Tryd.checked }
namespace Rows
def none {H : Type} : Left H := { results := [], args := [] }

/- WHAT THE LISTED PACKAGE-LEVEL VARIABLES READ AS WHEN THE CALL BEGINS. Each datum BY PROGRAM (the guide's laid-datum.mjs) off the statement by which the dump's own 'gosem.cut.vars' lays the variable. In a bare row this is a premise. The card (YteaiidcconggcaaDoorCards.lean) ties it to the program's text. -/
def laid_armoire_method_factsOf {H : Type} : DataW H := .agg [.agg [.lit (.string []), .lit (.int .i64 0), .lit (.bool false), .lit (.bool false), .lit (.bool false)], .agg [.lit (.string [114, 101, 97, 100]), .lit (.int .i64 1), .lit (.bool false), .lit (.bool false), .lit (.bool false)], .agg [.lit (.string [119, 114, 105, 116, 101]), .lit (.int .i64 1), .lit (.bool true), .lit (.bool false), .lit (.bool false)], .agg [.lit (.string [97, 100, 100]), .lit (.int .i64 2), .lit (.bool false), .lit (.bool false), .lit (.bool true)], .agg [.lit (.string [99, 111, 117, 110, 116]), .lit (.int .i64 2), .lit (.bool false), .lit (.bool false), .lit (.bool false)], .agg [.lit (.string [99, 114, 101, 100, 105, 116]), .lit (.int .i64 3), .lit (.bool false), .lit (.bool false), .lit (.bool true)], .agg [.lit (.string [100, 101, 98, 105, 116]), .lit (.int .i64 3), .lit (.bool false), .lit (.bool false), .lit (.bool true)], .agg [.lit (.string [98, 97, 108, 97, 110, 99, 101]), .lit (.int .i64 3), .lit (.bool false), .lit (.bool false), .lit (.bool false)], .agg [.lit (.string [105, 110, 115, 101, 114, 116]), .lit (.int .i64 4), .lit (.bool true), .lit (.bool false), .lit (.bool false)], .agg [.lit (.string [114, 101, 109, 111, 118, 101]), .lit (.int .i64 4), .lit (.bool true), .lit (.bool false), .lit (.bool false)], .agg [.lit (.string [104, 97, 115]), .lit (.int .i64 4), .lit (.bool true), .lit (.bool false), .lit (.bool false)], .agg [.lit (.string [98, 105, 110, 100]), .lit (.int .i64 5), .lit (.bool true), .lit (.bool true), .lit (.bool false)], .agg [.lit (.string [117, 110, 98, 105, 110, 100]), .lit (.int .i64 5), .lit (.bool true), .lit (.bool false), .lit (.bool false)], .agg [.lit (.string [108, 111, 111, 107]), .lit (.int .i64 5), .lit (.bool true), .lit (.bool false), .lit (.bool false)], .agg [.lit (.string [101, 110, 113]), .lit (.int .i64 6), .lit (.bool true), .lit (.bool false), .lit (.bool false)], .agg [.lit (.string [100, 101, 113]), .lit (.int .i64 6), .lit (.bool false), .lit (.bool false), .lit (.bool false)], .agg [.lit (.string [112, 117, 116]), .lit (.int .i64 7), .lit (.bool true), .lit (.bool false), .lit (.bool false)], .agg [.lit (.string [116, 97, 107, 101]), .lit (.int .i64 7), .lit (.bool false), .lit (.bool false), .lit (.bool false)]]

/-- 'armoirelaw14.CommuteExact': WHATEVER THE INPUT: true; the input reads as it did. -/
def commuteExactSpec : ChangeSpec := { name := "commuteExact", fn := fun _ => fun
  | [d1, d2, d3, d4, d5] => { results := [.lit (.bool true)], args := [d1, d2, d3, d4, d5] }
  | _ => none }
def commuteExactRow : OpenClaim := { program := "yteaiidcconggcaadoor", sum := "fdca625f112599990c4398a6d196d03eb0b567baa85a5fe0f5599f29a2a849c4", func := "armoire/armoirelaw14.CommuteExact", spec := "commuteExact", unfollowed := true, recurses := true, named := ["armoire/method.factsOf"], apart := false, laid := [("armoire/method.factsOf", laid_armoire_method_factsOf)] }
def CommuteExactSaid : Prop := commuteExactRow.holds Tryd.pinned (OpenSpec.ofChange commuteExactSpec)

/-- ITS FALSE NEIGHBOUR: 'it returns false'. Refute it at one input. -/
def commuteExactWrong : ChangeSpec := { name := "commuteExact", fn := fun _ => fun
  | [d1, d2, d3, d4, d5] => { results := [.lit (.bool false)], args := [d1, d2, d3, d4, d5] }
  | _ => none }
def CommuteExactWrongFalsely : Prop := commuteExactRow.holds Tryd.pinned (OpenSpec.ofChange commuteExactWrong)

/-- 'armoirelaw14.CommuteStates': WHATEVER THE INPUT: true; the input reads as it did. -/
def commuteStatesSpec : ChangeSpec := { name := "commuteStates", fn := fun _ => fun
  | [d1, d2, d3, d4, d5] => { results := [.lit (.bool true)], args := [d1, d2, d3, d4, d5] }
  | _ => none }
def commuteStatesRow : OpenClaim := { program := "yteaiidcconggcaadoor", sum := "fdca625f112599990c4398a6d196d03eb0b567baa85a5fe0f5599f29a2a849c4", func := "armoire/armoirelaw14.CommuteStates", spec := "commuteStates", unfollowed := true, recurses := true, named := ["armoire/method.factsOf"], apart := false, laid := [("armoire/method.factsOf", laid_armoire_method_factsOf)] }
def CommuteStatesSaid : Prop := commuteStatesRow.holds Tryd.pinned (OpenSpec.ofChange commuteStatesSpec)

/-- ITS FALSE NEIGHBOUR: 'it returns false'. Refute it at one input. -/
def commuteStatesWrong : ChangeSpec := { name := "commuteStates", fn := fun _ => fun
  | [d1, d2, d3, d4, d5] => { results := [.lit (.bool false)], args := [d1, d2, d3, d4, d5] }
  | _ => none }
def CommuteStatesWrongFalsely : Prop := commuteStatesRow.holds Tryd.pinned (OpenSpec.ofChange commuteStatesWrong)

/-- 'armoirelaw14.CommuteBoth': WHATEVER THE INPUT: true; the input reads as it did. -/
def commuteBothSpec : ChangeSpec := { name := "commuteBoth", fn := fun _ => fun
  | [d1, d2, d3, d4] => { results := [.lit (.bool true)], args := [d1, d2, d3, d4] }
  | _ => none }
def commuteBothRow : OpenClaim := { program := "yteaiidcconggcaadoor", sum := "fdca625f112599990c4398a6d196d03eb0b567baa85a5fe0f5599f29a2a849c4", func := "armoire/armoirelaw14.CommuteBoth", spec := "commuteBoth", unfollowed := true, recurses := true, named := ["armoire/method.factsOf"], apart := false, laid := [("armoire/method.factsOf", laid_armoire_method_factsOf)] }
def CommuteBothSaid : Prop := commuteBothRow.holds Tryd.pinned (OpenSpec.ofChange commuteBothSpec)

/-- ITS FALSE NEIGHBOUR: 'it returns false'. Refute it at one input. -/
def commuteBothWrong : ChangeSpec := { name := "commuteBoth", fn := fun _ => fun
  | [d1, d2, d3, d4] => { results := [.lit (.bool false)], args := [d1, d2, d3, d4] }
  | _ => none }
def CommuteBothWrongFalsely : Prop := commuteBothRow.holds Tryd.pinned (OpenSpec.ofChange commuteBothWrong)

/-- 'armoirelaw14.CommuteAny': WHATEVER THE INPUT: true; the input reads as it did. -/
def commuteAnySpec : ChangeSpec := { name := "commuteAny", fn := fun _ => fun
  | [d1, d2, d3] => { results := [.lit (.bool true)], args := [d1, d2, d3] }
  | _ => none }
def commuteAnyRow : OpenClaim := { program := "yteaiidcconggcaadoor", sum := "fdca625f112599990c4398a6d196d03eb0b567baa85a5fe0f5599f29a2a849c4", func := "armoire/armoirelaw14.CommuteAny", spec := "commuteAny", unfollowed := true, recurses := true, named := ["armoire/method.factsOf"], apart := false, laid := [("armoire/method.factsOf", laid_armoire_method_factsOf)] }
def CommuteAnySaid : Prop := commuteAnyRow.holds Tryd.pinned (OpenSpec.ofChange commuteAnySpec)

/-- ITS FALSE NEIGHBOUR: 'it returns false'. Refute it at one input. -/
def commuteAnyWrong : ChangeSpec := { name := "commuteAny", fn := fun _ => fun
  | [d1, d2, d3] => { results := [.lit (.bool false)], args := [d1, d2, d3] }
  | _ => none }
def CommuteAnyWrongFalsely : Prop := commuteAnyRow.holds Tryd.pinned (OpenSpec.ofChange commuteAnyWrong)

/- THE SECOND FORM. 'bulk': how many values and letters a reading holds, each counted each time it is reached (what is shared counts as often as it is met; a slice's spare places count too). A statement '..UptoSaid' is the law's where the arguments, and the package variables that the reading takes, are together of bulk at most 1048576: NARROWER than '..Said'. Prove '..Said' where nothing that the law and all that it calls make is longer than what came in: it says more and counts as full. Else prove '..UptoSaid'. A law counts once. -/
mutual
def uptoBulk {H : Type} : DataW H → Nat
  | .lit (.string bytes) => bytes.length + 1
  | .lit _ => 1
  | .nil => 1
  | .ptr d => uptoBulk d + 1
  | .slice elems spare => uptoBulkAll elems + uptoBulkAll spare + 1
  | .agg parts => uptoBulkAll parts + 1
  | .iface _ d => uptoBulk d + 1
  | .map entries => uptoBulkEntries entries + 1
  | .held _ => 1
def uptoBulkAll {H : Type} : List (DataW H) → Nat
  | [] => 0
  | d :: r => uptoBulk d + uptoBulkAll r
def uptoBulkEntries {H : Type} : List (Lit × DataW H) → Nat
  | [] => 0
  | x :: r => uptoBulkEntry x + uptoBulkEntries r
def uptoBulkEntry {H : Type} : Lit × DataW H → Nat
  | (.string bytes, d) => bytes.length + uptoBulk d + 1
  | (_, d) => uptoBulk d + 1
 end
def uptoSmall : (H : Type) → List (DataW H) → Bool := fun _ ds => decide (uptoBulkAll ds ≤ 1048576)
def OpenSpec.upto (s : _root_.Go.ChangeSpec) : _root_.Go.OpenSpec := { _root_.Go.OpenSpec.ofChange s with cond := some uptoSmall }

/-- 'armoirelaw14.CommuteExact', WHERE WHAT IT READS IS OF BULK AT MOST 1048576: true; the input reads as it did. -/
def commuteExactUptoRow : OpenClaim := { program := "yteaiidcconggcaadoor", sum := "fdca625f112599990c4398a6d196d03eb0b567baa85a5fe0f5599f29a2a849c4", func := "armoire/armoirelaw14.CommuteExact", spec := "commuteExact", unfollowed := true, recurses := true, named := ["armoire/method.factsOf"], apart := false, laid := [("armoire/method.factsOf", laid_armoire_method_factsOf)], narrowed := true }
def CommuteExactUptoSaid : Prop := commuteExactUptoRow.holds Tryd.pinned (OpenSpec.upto commuteExactSpec)

/-- 'armoirelaw14.CommuteStates', WHERE WHAT IT READS IS OF BULK AT MOST 1048576: true; the input reads as it did. -/
def commuteStatesUptoRow : OpenClaim := { program := "yteaiidcconggcaadoor", sum := "fdca625f112599990c4398a6d196d03eb0b567baa85a5fe0f5599f29a2a849c4", func := "armoire/armoirelaw14.CommuteStates", spec := "commuteStates", unfollowed := true, recurses := true, named := ["armoire/method.factsOf"], apart := false, laid := [("armoire/method.factsOf", laid_armoire_method_factsOf)], narrowed := true }
def CommuteStatesUptoSaid : Prop := commuteStatesUptoRow.holds Tryd.pinned (OpenSpec.upto commuteStatesSpec)

/-- 'armoirelaw14.CommuteBoth', WHERE WHAT IT READS IS OF BULK AT MOST 1048576: true; the input reads as it did. -/
def commuteBothUptoRow : OpenClaim := { program := "yteaiidcconggcaadoor", sum := "fdca625f112599990c4398a6d196d03eb0b567baa85a5fe0f5599f29a2a849c4", func := "armoire/armoirelaw14.CommuteBoth", spec := "commuteBoth", unfollowed := true, recurses := true, named := ["armoire/method.factsOf"], apart := false, laid := [("armoire/method.factsOf", laid_armoire_method_factsOf)], narrowed := true }
def CommuteBothUptoSaid : Prop := commuteBothUptoRow.holds Tryd.pinned (OpenSpec.upto commuteBothSpec)

/-- 'armoirelaw14.CommuteAny', WHERE WHAT IT READS IS OF BULK AT MOST 1048576: true; the input reads as it did. -/
def commuteAnyUptoRow : OpenClaim := { program := "yteaiidcconggcaadoor", sum := "fdca625f112599990c4398a6d196d03eb0b567baa85a5fe0f5599f29a2a849c4", func := "armoire/armoirelaw14.CommuteAny", spec := "commuteAny", unfollowed := true, recurses := true, named := ["armoire/method.factsOf"], apart := false, laid := [("armoire/method.factsOf", laid_armoire_method_factsOf)], narrowed := true }
def CommuteAnyUptoSaid : Prop := commuteAnyUptoRow.holds Tryd.pinned (OpenSpec.upto commuteAnySpec)

end Rows
end Go.Proofs.YteaiidcconggcaaDoor
