/- The contract of slices.Concat, of rows of two texts. -/
import Derived.Test.YteaiidcconggcaaDoorVBase
import Derived.Test.YteaiidcconggcaaDoorVShelf
import Derived.Test.YteaiidcconggcaaDoorACopy
namespace Go.Proofs.YteaiidcconggcaaDoor
open Go.RowKit
set_option linter.unusedVariables false
set_option maxRecDepth 100000

theorem under_vrows : Tryd.prog.underlying 45 = some (.slice 82) := by kernel_rfl
theorem info_vrow : (Tryd.prog.info? 82).map (fun i => (i.zero, i.size, i.bytes)) = some (some (.agg #[.string ⟨#[]⟩, .string ⟨#[]⟩]), 2, 32) := by kernel_rfl
theorem run_append_none {P : Program} (w : World) (t ty e : TypeId) (i : TypeInfo) (size : Nat) (ht : P.underlying t = some (.slice e)) (hi : P.info? e = some i) (hsz : i.size = size) (x : Value) (hs : Src P size t x 0 [] w) :
    (Builtin.append_ #[t, t] ty #[.slice none 0 0, x]).run P w = .ok (.slice none 0 0) w := by
  subst hsz
  simp [Builtin.append_, run_underlying ht, sizeOf, typeInfo, hi, hs.len, hs.cells]

theorem take_flat {α : Type} (ls : List (List α)) (k : Nat) (h : k < ls.length) : (ls.take (k + 1)).flatten = (ls.take k).flatten ++ ls[k]'h := by
  rw [List.take_succ_eq_append_getElem h, List.flatten_append]; simp
theorem flat_le {α : Type} (ls : List (List α)) (k : Nat) : (ls.take k).flatten.length ≤ ls.flatten.length := by
  have e : ls.flatten = (ls.take k).flatten ++ (ls.drop k).flatten := by rw [← List.flatten_append, List.take_append_drop]
  rw [e, List.length_append]
  omega

set_option maxHeartbeats 3200000 in
theorem vconcat_any (ls : List (List (List UInt8 × List UInt8))) (vs : List Value) (b m : Nat) (w : World) (hm : vs.length = m) (hl : ls.length = m) (hblk : w.heap[b]? = some (.cells vs.toArray 45 (0, 0))) (hrows : ∀ i (h1 : i < vs.length) (h2 : i < ls.length), Row2 w (vs[i]'h1) (ls[i]'h2)) (hm1 : m ≤ 8) (hb : ls.flatten.length ≤ 3000) :
    Calls Tryd.prog 76 #[.slice (some ⟨b, 0, none⟩) m m] w fun e w' => ∃ v', e = .returned v' ∧ w'.ownsRow w.heap.size 82 2 v' ls.flatten.length (R9 ls.flatten) ∧ Below w.heap.size w w' := by
  obtain ⟨i0, hi, hz0, hz1, hz2⟩ := info_parts info_vrow
  have hlt := block_lt hblk
  have HROW : Hid (∀ (wr : World) (k : Nat), Below w.heap.size w wr → (h : k < m) → ∃ a c, wr.cell? ⟨b, k, none⟩ = some (.slice a (ls[k]'(by omega)).length c) ∧ Src Tryd.prog 2 45 (.slice a (ls[k]'(by omega)).length c) (ls[k]'(by omega)).length (R9 (ls[k]'(by omega))) wr) := fun wr k hb h => by
    have hr := (hrows k (by omega) (by omega)).later hb
    obtain ⟨a, c, e, hs⟩ := hr.src under_vrows
    refine ⟨a, c, ?_, hs⟩
    rw [hb.cell (p := ⟨b, k, none⟩) hlt, block_cell hblk, ← e]
    simp [show k < vs.length by omega]
  have HTF := hide (fun k (h : k < m) => take_flat ls k (by omega))
  have HFL := hide (flat_le ls)
  have HALL : Hid ((ls.take m).flatten = ls.flatten) := by
    show _ = _
    rw [List.take_of_length_le (by omega)]
  have HLL := hide hl
  obtain ⟨T, hT⟩ : ∃ T, ls.flatten.length = T := ⟨_, rfl⟩
  have HT := hide hT
  rw [hT] at hb ⊢
  clear hblk hrows hT hm
  go_enter Tryd.func76, Tryd.ntmps76
  go_wp2_with fail
  go_loopw [3, 11] (fun s i wr => ∃ k : Nat, k ≤ m ∧ i = .int .i64 k ∧ s = .int .i64 ((ls.take k).flatten.length : Nat) ∧ wr = w) (fun _ i _ => m - (intOf i).toNat)
  case atStart => exact ⟨0, Nat.zero_le _, rfl, rfl, rfl⟩
  case round =>
    obtain ⟨k, hk, rfl, rfl, hww⟩ := hrel
    have hww' := hww.symm
    subst hww'
    clear hww
    have h1 := unhide HFL k
    rw [unhide HT] at h1
    by_cases hlk : k < m
    · obtain ⟨a, c, hc, _⟩ := unhide HROW w k (Below.refl _ _) hlk
      have h2 := unhide HFL (k + 1)
      have h3 := unhide HTF k hlk
      rw [unhide HT, h3, List.length_append] at h2
      have HN : Hid ((ls.take (k + 1)).flatten.length = (ls.take k).flatten.length + (ls[k]'(by omega)).length) := by
        show _ = _
        rw [h3, List.length_append]
      clear h3
      generalize (ls.take k).flatten.length = x at *
      generalize (ls[k]'(by omega)).length = y at *
      have hw : IntKind.i64.wrap ((x : Int) + (y : Int)) = ((x + y : Nat) : Int) := by rw [IntKind.wrap_i64]; omega
      have hp : ¬ (((x + y : Nat) : Int) < 0) := by omega
      have hi1 : (0 : Int) ≤ (k : Int) := by omega
      have hi2 : (k : Int) < (m : Int) := by omega
      go_wp2_with fail
      go_roundw
      case rel => exact ⟨k + 1, by omega, by go_num, by rw [unhide HN, Int.natCast_add], by trivial⟩
      case measure => simp [intOf]; omega
    · have hkm : k = m := by omega
      subst hkm
      rw [unhide HALL, unhide HT]
      have HGR : Hid (Calls Tryd.prog 79 #[.slice none 0 0, .int .i64 (T : Int)] w fun e w' => ∃ v, e = .returned v ∧ w'.ownsRow w.heap.size 82 2 v 0 [] ∧ Below w.heap.size w w' ∧ (v = .slice none 0 0 ∧ T = 0 ∨ v ≠ .slice none 0 0)) := by
        show Calls _ _ _ _ _
        by_cases hT0 : T = 0
        · subst hT0
          refine (Any8.slices_Grow_room Tryd.laysGrowR none 0 0 0 w (by omega) (by omega) (by omega) (by omega)).mono ?_
          rintro e w' ⟨rfl, rfl⟩
          exact ⟨_, rfl, World.ownsRow_nil _ _ _ _, Below.refl _ _, Or.inl ⟨rfl, rfl⟩⟩
        · refine (Any8.slices_Grow_grow Tryd.laysGrowR i0 (.agg #[.string ⟨#[]⟩, .string ⟨#[]⟩]) hi hz0 (by omega) none 0 0 T [] w (by omega) (by omega) (by rw [hz2]; omega) (by omega) (by simp) (fun _ => rfl) (fun a e => by cases e)).mono ?_
          rintro e w' ⟨rfl, rfl⟩
          refine ⟨_, rfl, ⟨by simp, Or.inr ⟨w.heap.size, _, _, rfl, Nat.le_refl _, heap_alloc_new w.drew _, Nat.zero_le _, grownCap_le_maxLen w (0 + T) 0 _ (by unfold maxLen; omega), ?_, by simp⟩⟩, (Below.refl _ w).drew.alloc (Nat.le_refl _) _, Or.inr (by simp)⟩
          have hge := grownCap_ge w (0 + T) 0 82
          simp [size_zeroCells, Value.cells]
          simp at hge
          have e9 : Tryd.laysGrowR_ren.t 25 = 82 := rfl
          rw [e9]
          omega
      go_wp2_with fail
      refine (unhide HGR).mono ?_
      rintro e w2 ⟨v2, rfl, ho2, hb2, hv2⟩
      obtain ⟨a2, c2, rfl, _⟩ := ownsRow_slice ho2
      have HO2 := hide ho2
      have HB2 := hide hb2
      have HV2 := hide hv2
      clear ho2 hb2 hv2 HGR h1
      go_wp2_with fail
      go_loopw [6, 27] (fun x i wq => ∃ j : Nat, j ≤ k ∧ i = .int .i64 j ∧ wq.ownsRow w.heap.size 82 2 x (ls.take j).flatten.length (R9 (ls.take j).flatten) ∧ Below w.heap.size w wq ∧ (x = .slice none 0 0 ∧ T = 0 ∨ x ≠ .slice none 0 0)) (fun _ i _ => k - (intOf i).toNat)
      case atStart => exact ⟨0, Nat.zero_le _, rfl, unhide HO2, unhide HB2, unhide HV2⟩
      case round =>
        obtain ⟨j, hj, rfl, ho, hbq, hx⟩ := hrel
        clear HO2 HB2 HV2
        by_cases hjk : j < k
        · obtain ⟨a, c, hc, hs⟩ := unhide HROW wr j hbq hjk
          have h2 := unhide HFL (j + 1)
          have h3 := unhide HTF j hjk
          rw [unhide HT, h3, List.length_append] at h2
          have hi1 : (0 : Int) ≤ (j : Int) := by omega
          have hi2 : (j : Int) < (k : Int) := by omega
          have HTN : Hid (R9 (ls.take (j + 1)).flatten = R9 (ls.take j).flatten ++ R9 (ls[j]'(by have := unhide HLL; omega))) := by
            show _ = _
            rw [h3, R9_append]
          have HLN : Hid ((ls.take (j + 1)).flatten.length = (ls.take j).flatten.length + (ls[j]'(by have := unhide HLL; omega)).length) := by
            show _ = _
            rw [h3, List.length_append]
          rcases hx with ⟨hx0, hT0⟩ | hx1
          · have hz : (ls[j]'(by have := unhide HLL; omega)) = [] := List.eq_nil_of_length_eq_zero (by omega)
            rw [hz] at hs HTN HLN hc
            have hrun := run_append_none (P := Tryd.prog) wr 45 45 82 i0 2 under_vrows hi hz1 _ hs
            have HRUN := hide hrun
            have HO := hide ho
            have HB := hide hbq
            subst hx0
            have HT0 := hide hT0
            clear hrun ho hbq hs h3 h2 HTF hT0
            rw [show ([] : List (List UInt8 × List UInt8)).length = 0 from rfl] at hc HRUN
            go_wp2_with (first | (at_builtin; refine wpList_append_is rfl _ _ 45 rfl _ _ _ _ rfl rfl (unhide HRUN) ?_) | fail)
            go_wp2_with fail
            go_roundw
            case rel =>
              exact ⟨j + 1, by omega, by go_num, (by rw [unhide HTN, unhide HLN]; simpa [R9] using unhide HO), unhide HB, Or.inl ⟨rfl, unhide HT0⟩⟩
            case measure => simp [intOf]; omega
          · obtain ⟨xa, xc, rfl, _⟩ := ownsRow_slice ho
            have HO := hide ho
            have HB := hide hbq
            have HS := hide hs
            have HX := hide hx1
            have hsz := hbq.size
            clear ho hbq hs h3 HTF hx1
            generalize (ls.take j).flatten = J at *
            generalize (ls[j]'(by have := unhide HLL; omega)) = y at *
            go_wp2_with (first | (at_builtin; refine wpList_append_src rfl _ _ 45 45 rfl w.heap.size 82 i0 (.agg #[.string ⟨#[]⟩, .string ⟨#[]⟩]) 2 32 under_vrows hi hz0 hz1 hz2 rfl (by decide) _ _ _ rfl (unhide HO) (unhide HX) _ _ _ rfl (unhide HS) ?c3 ?c4 ?c5 ?_) | fail)
            case c3 => unfold maxLen; omega
            case c4 => omega
            case c5 => exact hsz
            intro v' w3 hown' hgrow hfresh hne
            have hlo := (unhide HO).lt
            have HB3 := hide ((unhide HB).grown hgrow hsz (fun q hq => (hlo q hq).1))
            obtain ⟨va, vc, rfl, _⟩ := ownsRow_slice hown'
            have HO3 := hide hown'
            have HN3 := hide hne
            clear hown' hgrow hfresh hlo hne
            go_wp2_with fail
            go_roundw
            case rel => exact ⟨j + 1, by omega, by go_num, by rw [unhide HTN, unhide HLN]; exact unhide HO3, unhide HB3, Or.inr (unhide HN3)⟩
            case measure => simp [intOf]; omega
        · have hjk2 : j = k := by omega
          subst hjk2
          rw [unhide HALL, unhide HT] at ho
          have HO := hide ho
          have HB := hide hbq
          clear ho hbq hx
          go_wp2_with fail
          go_ret
          exact ⟨_, rfl, unhide HO, unhide HB⟩
end Go.Proofs.YteaiidcconggcaaDoor
