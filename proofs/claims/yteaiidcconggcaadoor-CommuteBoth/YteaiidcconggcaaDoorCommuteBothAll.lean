/- For every input the law CommuteBoth returns true and leaves its arguments as they read before: the walk, lifted to the given statement. No condition of our own. -/
import Derived.Test.YteaiidcconggcaaDoorRows
import Derived.Test.YteaiidcconggcaaDoorQBothW
import Derived.Test.YteaiidcconggcaaDoorTie
import Derived.Test.YteaiidcconggcaaDoorMLaid
import Derived.Test.YteaiidcconggcaaDoorCards
import Derived.ProofKit
import Derived.OpenShut
import Derived.ShutString
import Derived.ChangeOld
import Derived.Below
import Derived.SliceStrings
import Derived.ChangeSlices
import Derived.Lib.SmallJoins
import Derived.Lay
import Derived.LaidOnce
import Derived.SevenTiedAt
namespace Go.Proofs.YteaiidcconggcaaDoor.commuteBoth
open Go.ChangeShapes Go.WideShapes Go.ChangeAt Go.RowKit
open Go.ChangeMaps (open_string shut_string)
set_option linter.unusedVariables false

theorem own : ownKnob Tryd.prog.godebug = none := by kernel_rfl
theorem laidOut : laidOutB Tryd.prog = true := by kernel_rfl

set_option maxRecDepth 100000 in
theorem lifted (os : Os) (started : os.Started) (H : Type) (enc : TypeId × Value → H) :
    ReturnsInHanded {} Tryd.checked os 5 .any (fun w args => (Rows.commuteBothSpec.pre enc Tryd.prog Tryd.f5 [] false w args ∧ laidMetH Tryd.prog Rows.commuteBothRow.laid w) ∧ sizedMet enc Tryd.prog Tryd.f5 (OpenSpec.ofChange Rows.commuteBothSpec) false w args)
      (Rows.commuteBothSpec.post enc Tryd.prog Tryd.f5 false true false false) := by
  refine returnsInHanded_of_change_and (C := Tryd.checked) (X := fun w _ => laidMetH Tryd.prog Rows.commuteBothRow.laid w) (fun _ _ _ hh h => h.of_heap hh) own started (by kernel_rfl) Tryd.func5
    (ChangeSpec.witness_shaped (enc := enc) (C := Tryd.checked) (os := os) (X := fun w _ => laidMetH Tryd.prog Rows.commuteBothRow.laid w) false (World.laidAll Tryd.prog os Rows.commuteBothRow.laid) #[.agg #[.int .i64 0, .string ByteArray.empty, .string ByteArray.empty, .int .i64 0], .agg #[.int .i64 0, .string ByteArray.empty, .string ByteArray.empty, .int .i64 0], .agg #[.int .i64 0, .string ByteArray.empty, .int .i64 0], .agg #[.int .i64 0, .string ByteArray.empty, .int .i64 0]] 8 (World.laidAll_os _ _ _)
      (World.shaped_of_ZipB (by kernel_rfl) (by kernel_rfl)) (by kernel_rfl) (by kernel_rfl) (by kernel_rfl)
      (by rw [MakeChecks.laidMetH_plain _ _ _ (by kernel_rfl)]; exact laidMet_laidAll _ (by kernel_rfl) (by kernel_rfl))) ?_
  intro W base args ds gs before hval0 hW _ _ hL _
  have hval : ∀ (j : Nat) t v, Tryd.f5.params[j]? = some t → args[j]? = some v → Value.okWide Tryd.prog W .any base t v := hval0
  have hW' := hW
  obtain ⟨p, q, hA0, hV, rfl, hfz, hnd⟩ := hW
  have hA : DataW.TrodAll enc Tryd.prog W 0 (fun _ => true) true Tryd.f5.params.toList args.toList ds p := hA0
  rw [Tryd.params5] at hA hval
  obtain ⟨v0, vs0, d0, ds0, p0, q0, hargs, rfl, rfl, h0, r0⟩ := trodAll_cons hA
  obtain ⟨v1, vs1, d1, ds1, p1, q1, rfl, rfl, rfl, h1, r1⟩ := trodAll_cons r0
  obtain ⟨v2, vs2, d2, ds2, p2, q2, rfl, rfl, rfl, h2, r2⟩ := trodAll_cons r1
  obtain ⟨v3, vs3, d3, ds3, p3, q3, rfl, rfl, rfl, h3, r3⟩ := trodAll_cons r2
  obtain ⟨rfl, rfl, rfl⟩ := trodAll_nil r3
  obtain rfl : args = #[v0, v1, v2, v3] := by cases args; simp_all
  obtain ⟨rfl, rfl⟩ := trodVars_none hV
  have k0 := h0
  have lt0 : ∀ x ∈ p0, x.block < W.heap.size := by obtain ⟨m, hm⟩ := k0; exact DataW.trod_lt m _ _ _ hm
  obtain ⟨c00, c01, c02, c03, y00, y01, y02, y03, m0, rfl, _, _, g00, g01, g02, g03⟩ := Go.Joins.open_agg4 Tryd.underlying24 (by kernel_rfl) (by kernel_rfl) (hval 0 24 v0 rfl rfl) h0
  obtain ⟨a00, e00, _, w00⟩ := DataW.trod_int Tryd.underlying22 g00
  obtain rfl := (List.cons.inj e00).1
  obtain ⟨a01, e01, _, w01⟩ := DataW.trod_string Tryd.underlying9 g01
  obtain rfl := (List.cons.inj e01).1
  obtain ⟨a02, e02, _, w02⟩ := DataW.trod_string Tryd.underlying9 g02
  obtain rfl := (List.cons.inj e02).1
  obtain ⟨a03, e03, _, w03⟩ := DataW.trod_int Tryd.underlying2 g03
  obtain rfl := (List.cons.inj e03).1
  have k1 := h1
  have lt1 : ∀ x ∈ p1, x.block < W.heap.size := by obtain ⟨m, hm⟩ := k1; exact DataW.trod_lt m _ _ _ hm
  obtain ⟨c10, c11, c12, c13, y10, y11, y12, y13, m1, rfl, _, _, g10, g11, g12, g13⟩ := Go.Joins.open_agg4 Tryd.underlying24 (by kernel_rfl) (by kernel_rfl) (hval 1 24 v1 rfl rfl) h1
  obtain ⟨a10, e10, _, w10⟩ := DataW.trod_int Tryd.underlying22 g10
  obtain rfl := (List.cons.inj e10).1
  obtain ⟨a11, e11, _, w11⟩ := DataW.trod_string Tryd.underlying9 g11
  obtain rfl := (List.cons.inj e11).1
  obtain ⟨a12, e12, _, w12⟩ := DataW.trod_string Tryd.underlying9 g12
  obtain rfl := (List.cons.inj e12).1
  obtain ⟨a13, e13, _, w13⟩ := DataW.trod_int Tryd.underlying2 g13
  obtain rfl := (List.cons.inj e13).1
  have k2 := h2
  have lt2 : ∀ x ∈ p2, x.block < W.heap.size := by obtain ⟨m, hm⟩ := k2; exact DataW.trod_lt m _ _ _ hm
  obtain ⟨c20, c21, c22, y20, y21, y22, m2, rfl, _, _, g20, g21, g22⟩ := Go.Joins.open_agg3 Tryd.underlying26 (by kernel_rfl) (by kernel_rfl) (hval 2 26 v2 rfl rfl) h2
  obtain ⟨a20, e20, _, w20⟩ := DataW.trod_int Tryd.underlying3 g20
  obtain rfl := (List.cons.inj e20).1
  obtain ⟨a21, e21, _, w21⟩ := DataW.trod_string Tryd.underlying9 g21
  obtain rfl := (List.cons.inj e21).1
  obtain ⟨a22, e22, _, w22⟩ := DataW.trod_int Tryd.underlying2 g22
  obtain rfl := (List.cons.inj e22).1
  have k3 := h3
  have lt3 : ∀ x ∈ p3, x.block < W.heap.size := by obtain ⟨m, hm⟩ := k3; exact DataW.trod_lt m _ _ _ hm
  obtain ⟨c30, c31, c32, y30, y31, y32, m3, rfl, _, _, g30, g31, g32⟩ := Go.Joins.open_agg3 Tryd.underlying26 (by kernel_rfl) (by kernel_rfl) (hval 3 26 v3 rfl rfl) h3
  obtain ⟨a30, e30, _, w30⟩ := DataW.trod_int Tryd.underlying3 g30
  obtain rfl := (List.cons.inj e30).1
  obtain ⟨a31, e31, _, w31⟩ := DataW.trod_string Tryd.underlying9 g31
  obtain rfl := (List.cons.inj e31).1
  obtain ⟨a32, e32, _, w32⟩ := DataW.trod_int Tryd.underlying2 g32
  obtain rfl := (List.cons.inj e32).1
  clear hA0 hval0
  refine (commuteBoth_walk a00 w00 a01 w01 a02 w02 a03 w03 a10 w10 a11 w11 a12 w12 a13 w13 a20 w20 a21 w21 a22 w22 a30 w30 a31 w31 a32 w32 W (facts_of_laid hL)).mono fun e W' ⟨he, bel⟩ => ?_
  subst he
  exact ⟨_, rfl, _, _, _, [], _, [], hW', trodAll_mk1 (shut_bool Tryd.underlying4 _), (trodAll_cons_mk (Below.trod laidOut (by kernel_rfl) (of_decide_eq_true (by kernel_rfl)) k0 bel lt0) (trodAll_cons_mk (Below.trod laidOut (by kernel_rfl) (of_decide_eq_true (by kernel_rfl)) k1 bel lt1) (trodAll_cons_mk (Below.trod laidOut (by kernel_rfl) (of_decide_eq_true (by kernel_rfl)) k2 bel lt2) (trodAll_cons_mk (Below.trod laidOut (by kernel_rfl) (of_decide_eq_true (by kernel_rfl)) k3 bel lt3) trodAll_mk0)))), rfl, bel.frame _, fun h => by cases h⟩

theorem over : Rows.commuteBothRow.holds Tryd.pinned (OpenSpec.ofChange Rows.commuteBothSpec) :=
  OpenClaim.holds_of_wide 5 Tryd.f5 rfl rfl rfl rfl rfl rfl rfl ⟨rfl, rfl, rfl, rfl, rfl⟩ rfl rfl rfl rfl rfl (by kernel_rfl) Tryd.func5 (by kernel_rfl)
    (of_decide_eq_true (by kernel_rfl)) (by unfold Func.isWrapper; first | (rw [if_pos (by decide +kernel)]; kernel_rfl) | (rw [if_neg (by decide +kernel)]; exact ⟨rfl, rfl⟩))
    (fun os started H enc _ => lifted os started H enc)
end Go.Proofs.YteaiidcconggcaaDoor.commuteBoth

namespace Go.Proofs.YteaiidcconggcaaDoor
theorem commuteBoth_holds : Rows.CommuteBothCardSaid :=
  Claim7.holds_tied_plain_at .later [] [.data] true (true, "40c8e8f8a35f6d0ebd30b8a6bd38989378867e4aa77b60e3f0ff9b5a479fcc24") false commuteBoth.over (fun _ h => by cases h) (by kernel_rfl) (fun _ h => by cases h) commuteBoth_row_tie rfl ⟨rfl, rfl⟩ (by kernel_rfl) rfl
    (fun f fn hf hfn => by
      obtain rfl : f = 5 := Option.some.inj ((show Tryd.prog.funcNamed "armoire/armoirelaw14.CommuteBoth" = some 5 by kernel_rfl).symm.trans hf) |>.symm
      obtain rfl : fn = Tryd.f5 := (Option.some.inj (Tryd.func5.symm.trans hfn)).symm
      exact ⟨by kernel_rfl, fun j t ht => by
        rw [Tryd.params5] at ht
        have hm : t ∈ [24, 24, 26, 26] := by simpa using Array.mem_of_getElem? ht
        have hall : ([24, 24, 26, 26].all fun u => !Tryd.prog.wantsStandIn u) = true := by kernel_rfl
        exact (show Tryd.prog.wantsStandIn t = false by simpa using List.all_eq_true.1 hall t hm)⟩)
    (by kernel_rfl)
#print axioms commuteBoth_holds
end Go.Proofs.YteaiidcconggcaaDoor
