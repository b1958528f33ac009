/-
  NARROWER THAN 'FOR EVERY INPUT', by the rows' own cells (each row's printed sentence says how): MethodCalls: laid · MethodResults: laid · MethodReads: laid.
  DERIVED. THE GIVEN ROWS OF THIS SEAT. 3 by the template 'for every input the law returns true; each argument reads behind the call as it read before'; 0 by the template 'total and deterministic' (their statements: YtfehpjmjchdkgaaDoorTotals.lean).
  GIVEN WITH THE SEED: the statements are not yours to turn. If you find one false, say at which input.
  Laid BY PROGRAM, IN A SANDBOX (cutbox-rows.mjs): the forced cells as the released guide's own fill.sh prints them over the translation c1b697bf2f46aa42… (all of the seat's roots in one cut). By AI agents, Wed Nov 11 2026. No macro, syntax, notation, axiom, sorry.
-/
import Derived.Test.YtfehpjmjchdkgaaDoorChecked
import GoSem.Claim
import GoSem.ClaimJoined
import GoSem.ClaimMapViews
import Derived.JoinedTies
import Derived.KernelRfl
namespace Go.Proofs.YtfehpjmjchdkgaaDoor
/- THE CELL 'sum', in the pinned program and in every row, IS THE sha256 OF THE DUMP (.gsa) THAT YtfehpjmjchdkgaaDoorProg.lean LOADS. Nothing in Lean hashes anything: it is a label: what it is worth is what the hold of that sum in a sandbox is worth. -/
noncomputable def Tryd.pinned : Pinned := { name := "ytfehpjmjchdkgaadoor", sum := "c1b697bf2f46aa42ebb48b0c2c12f5dcf6768085f5c5cb082f0316f6fa6b8d56", checked := Tryd.checked }
namespace Rows
def none {H : Type} : Left H := { results := [], args := [] }

/- WHAT THE LISTED PACKAGE-LEVEL VARIABLES READ AS WHEN THE CALL BEGINS. Each datum BY PROGRAM (the guide's laid-datum.mjs) off the statement by which the dump's own 'gosem.cut.vars' lays the variable. In a bare row this is a premise. The card (YtfehpjmjchdkgaaDoorCards.lean) ties it to the program's text. -/
def laid_armoire_method_factsOf {H : Type} : DataW H := .agg [.agg [.lit (.string []), .lit (.int .i64 0), .lit (.bool false), .lit (.bool false), .lit (.bool false)], .agg [.lit (.string [114, 101, 97, 100]), .lit (.int .i64 1), .lit (.bool false), .lit (.bool false), .lit (.bool false)], .agg [.lit (.string [119, 114, 105, 116, 101]), .lit (.int .i64 1), .lit (.bool true), .lit (.bool false), .lit (.bool false)], .agg [.lit (.string [97, 100, 100]), .lit (.int .i64 2), .lit (.bool false), .lit (.bool false), .lit (.bool true)], .agg [.lit (.string [99, 111, 117, 110, 116]), .lit (.int .i64 2), .lit (.bool false), .lit (.bool false), .lit (.bool false)], .agg [.lit (.string [99, 114, 101, 100, 105, 116]), .lit (.int .i64 3), .lit (.bool false), .lit (.bool false), .lit (.bool true)], .agg [.lit (.string [100, 101, 98, 105, 116]), .lit (.int .i64 3), .lit (.bool false), .lit (.bool false), .lit (.bool true)], .agg [.lit (.string [98, 97, 108, 97, 110, 99, 101]), .lit (.int .i64 3), .lit (.bool false), .lit (.bool false), .lit (.bool false)], .agg [.lit (.string [105, 110, 115, 101, 114, 116]), .lit (.int .i64 4), .lit (.bool true), .lit (.bool false), .lit (.bool false)], .agg [.lit (.string [114, 101, 109, 111, 118, 101]), .lit (.int .i64 4), .lit (.bool true), .lit (.bool false), .lit (.bool false)], .agg [.lit (.string [104, 97, 115]), .lit (.int .i64 4), .lit (.bool true), .lit (.bool false), .lit (.bool false)], .agg [.lit (.string [98, 105, 110, 100]), .lit (.int .i64 5), .lit (.bool true), .lit (.bool true), .lit (.bool false)], .agg [.lit (.string [117, 110, 98, 105, 110, 100]), .lit (.int .i64 5), .lit (.bool true), .lit (.bool false), .lit (.bool false)], .agg [.lit (.string [108, 111, 111, 107]), .lit (.int .i64 5), .lit (.bool true), .lit (.bool false), .lit (.bool false)], .agg [.lit (.string [101, 110, 113]), .lit (.int .i64 6), .lit (.bool true), .lit (.bool false), .lit (.bool false)], .agg [.lit (.string [100, 101, 113]), .lit (.int .i64 6), .lit (.bool false), .lit (.bool false), .lit (.bool false)], .agg [.lit (.string [112, 117, 116]), .lit (.int .i64 7), .lit (.bool true), .lit (.bool false), .lit (.bool false)], .agg [.lit (.string [116, 97, 107, 101]), .lit (.int .i64 7), .lit (.bool false), .lit (.bool false), .lit (.bool false)]]

/-- 'armoirelaw12.MethodCalls': WHATEVER THE INPUT: true; the input reads as it did. -/
def methodCallsSpec : ChangeSpec := { name := "methodCalls", fn := fun _ => fun
  | [d1, d2] => { results := [.lit (.bool true)], args := [d1, d2] }
  | _ => none }
def methodCallsRow : OpenClaim := { program := "ytfehpjmjchdkgaadoor", sum := "c1b697bf2f46aa42ebb48b0c2c12f5dcf6768085f5c5cb082f0316f6fa6b8d56", func := "armoire/armoirelaw12.MethodCalls", spec := "methodCalls", named := ["armoire/method.factsOf"], apart := false, laid := [("armoire/method.factsOf", laid_armoire_method_factsOf)] }
def MethodCallsSaid : Prop := methodCallsRow.holds Tryd.pinned (OpenSpec.ofChange methodCallsSpec)

/-- ITS FALSE NEIGHBOUR: 'it returns false'. Refute it at one input. -/
def methodCallsWrong : ChangeSpec := { name := "methodCalls", fn := fun _ => fun
  | [d1, d2] => { results := [.lit (.bool false)], args := [d1, d2] }
  | _ => none }
def MethodCallsWrongFalsely : Prop := methodCallsRow.holds Tryd.pinned (OpenSpec.ofChange methodCallsWrong)

/-- 'armoirelaw12.MethodResults': WHATEVER THE INPUT: true; the input reads as it did. -/
def methodResultsSpec : ChangeSpec := { name := "methodResults", fn := fun _ => fun
  | [d] => { results := [.lit (.bool true)], args := [d] }
  | _ => none }
def methodResultsRow : OpenClaim := { program := "ytfehpjmjchdkgaadoor", sum := "c1b697bf2f46aa42ebb48b0c2c12f5dcf6768085f5c5cb082f0316f6fa6b8d56", func := "armoire/armoirelaw12.MethodResults", spec := "methodResults", named := ["armoire/method.factsOf"], apart := false, laid := [("armoire/method.factsOf", laid_armoire_method_factsOf)] }
def MethodResultsSaid : Prop := methodResultsRow.holds Tryd.pinned (OpenSpec.ofChange methodResultsSpec)

/-- ITS FALSE NEIGHBOUR: 'it returns false'. Refute it at one input. -/
def methodResultsWrong : ChangeSpec := { name := "methodResults", fn := fun _ => fun
  | [d] => { results := [.lit (.bool false)], args := [d] }
  | _ => none }
def MethodResultsWrongFalsely : Prop := methodResultsRow.holds Tryd.pinned (OpenSpec.ofChange methodResultsWrong)

/-- 'armoirelaw12.MethodReads': WHATEVER THE INPUT: true; the input reads as it did. -/
def methodReadsSpec : ChangeSpec := { name := "methodReads", fn := fun _ => fun
  | [d] => { results := [.lit (.bool true)], args := [d] }
  | _ => none }
def methodReadsRow : OpenClaim := { program := "ytfehpjmjchdkgaadoor", sum := "c1b697bf2f46aa42ebb48b0c2c12f5dcf6768085f5c5cb082f0316f6fa6b8d56", func := "armoire/armoirelaw12.MethodReads", spec := "methodReads", named := ["armoire/method.factsOf"], apart := false, laid := [("armoire/method.factsOf", laid_armoire_method_factsOf)] }
def MethodReadsSaid : Prop := methodReadsRow.holds Tryd.pinned (OpenSpec.ofChange methodReadsSpec)

/-- ITS FALSE NEIGHBOUR: 'it returns false'. Refute it at one input. -/
def methodReadsWrong : ChangeSpec := { name := "methodReads", fn := fun _ => fun
  | [d] => { results := [.lit (.bool false)], args := [d] }
  | _ => none }
def MethodReadsWrongFalsely : Prop := methodReadsRow.holds Tryd.pinned (OpenSpec.ofChange methodReadsWrong)

/- THE SECOND FORM. 'bulk': how many values and letters a reading holds, each counted each time it is reached (what is shared counts as often as it is met; a slice's spare places count too). A statement '..UptoSaid' is the law's where the arguments, and the package variables that the reading takes, are together of bulk at most 1048576: NARROWER than '..Said'. Prove '..Said' where nothing that the law and all that it calls make is longer than what came in: it says more and counts as full. Else prove '..UptoSaid'. A law counts once. -/
mutual
def uptoBulk {H : Type} : DataW H → Nat
  | .lit (.string bytes) => bytes.length + 1
  | .lit _ => 1
  | .nil => 1
  | .ptr d => uptoBulk d + 1
  | .slice elems spare => uptoBulkAll elems + uptoBulkAll spare + 1
  | .agg parts => uptoBulkAll parts + 1
  | .iface _ d => uptoBulk d + 1
  | .map entries => uptoBulkEntries entries + 1
  | .held _ => 1
def uptoBulkAll {H : Type} : List (DataW H) → Nat
  | [] => 0
  | d :: r => uptoBulk d + uptoBulkAll r
def uptoBulkEntries {H : Type} : List (Lit × DataW H) → Nat
  | [] => 0
  | x :: r => uptoBulkEntry x + uptoBulkEntries r
def uptoBulkEntry {H : Type} : Lit × DataW H → Nat
  | (.string bytes, d) => bytes.length + uptoBulk d + 1
  | (_, d) => uptoBulk d + 1
 end
def uptoSmall : (H : Type) → List (DataW H) → Bool := fun _ ds => decide (uptoBulkAll ds ≤ 1048576)
def OpenSpec.upto (s : _root_.Go.ChangeSpec) : _root_.Go.OpenSpec := { _root_.Go.OpenSpec.ofChange s with cond := some uptoSmall }

/-- 'armoirelaw12.MethodCalls', WHERE WHAT IT READS IS OF BULK AT MOST 1048576: true; the input reads as it did. -/
def methodCallsUptoRow : OpenClaim := { program := "ytfehpjmjchdkgaadoor", sum := "c1b697bf2f46aa42ebb48b0c2c12f5dcf6768085f5c5cb082f0316f6fa6b8d56", func := "armoire/armoirelaw12.MethodCalls", spec := "methodCalls", named := ["armoire/method.factsOf"], apart := false, laid := [("armoire/method.factsOf", laid_armoire_method_factsOf)], narrowed := true }
def MethodCallsUptoSaid : Prop := methodCallsUptoRow.holds Tryd.pinned (OpenSpec.upto methodCallsSpec)

/-- 'armoirelaw12.MethodResults', WHERE WHAT IT READS IS OF BULK AT MOST 1048576: true; the input reads as it did. -/
def methodResultsUptoRow : OpenClaim := { program := "ytfehpjmjchdkgaadoor", sum := "c1b697bf2f46aa42ebb48b0c2c12f5dcf6768085f5c5cb082f0316f6fa6b8d56", func := "armoire/armoirelaw12.MethodResults", spec := "methodResults", named := ["armoire/method.factsOf"], apart := false, laid := [("armoire/method.factsOf", laid_armoire_method_factsOf)], narrowed := true }
def MethodResultsUptoSaid : Prop := methodResultsUptoRow.holds Tryd.pinned (OpenSpec.upto methodResultsSpec)

/-- 'armoirelaw12.MethodReads', WHERE WHAT IT READS IS OF BULK AT MOST 1048576: true; the input reads as it did. -/
def methodReadsUptoRow : OpenClaim := { program := "ytfehpjmjchdkgaadoor", sum := "c1b697bf2f46aa42ebb48b0c2c12f5dcf6768085f5c5cb082f0316f6fa6b8d56", func := "armoire/armoirelaw12.MethodReads", spec := "methodReads", named := ["armoire/method.factsOf"], apart := false, laid := [("armoire/method.factsOf", laid_armoire_method_factsOf)], narrowed := true }
def MethodReadsUptoSaid : Prop := methodReadsUptoRow.holds Tryd.pinned (OpenSpec.upto methodReadsSpec)

end Rows
end Go.Proofs.YtfehpjmjchdkgaaDoor
