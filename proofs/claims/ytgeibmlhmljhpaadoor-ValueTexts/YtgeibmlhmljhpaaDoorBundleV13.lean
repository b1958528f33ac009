/- Texts that this proof needs, one behind the other: VConcat, VWith, VTold, VCheck2, VRow, VRefCheck, VRefWith. -/
import Derived.Test.YtgeibmlhmljhpaaDoorBundleV4
import Derived.Test.YtgeibmlhmljhpaaDoorBundleV11
import Derived.Test.YtgeibmlhmljhpaaDoorBundleA12
import Derived.Test.YtgeibmlhmljhpaaDoorBundleV7
import Derived.BigQuiet
import Derived.Deep.DeepCutAuto
import Derived.Deep.CutBlock
import Derived.Test.YtgeibmlhmljhpaaDoorBundleV9
/- The contract of slices.Concat, of rows of two texts. -/
namespace Go.Proofs.YtgeibmlhmljhpaaDoor
open Go.RowKit
set_option linter.unusedVariables false
set_option maxRecDepth 100000

theorem under_vrows : Tryd.prog.underlying 22 = some (.slice 47) := by kernel_rfl
theorem info_vrow : (Tryd.prog.info? 47).map (fun i => (i.zero, i.size, i.bytes)) = some (some (.agg #[.string ⟨#[]⟩, .string ⟨#[]⟩]), 2, 32) := by kernel_rfl
theorem run_append_none {P : Program} (w : World) (t ty e : TypeId) (i : TypeInfo) (size : Nat) (ht : P.underlying t = some (.slice e)) (hi : P.info? e = some i) (hsz : i.size = size) (x : Value) (hs : Src P size t x 0 [] w) :
    (Builtin.append_ #[t, t] ty #[.slice none 0 0, x]).run P w = .ok (.slice none 0 0) w := by
  subst hsz
  simp [Builtin.append_, run_underlying ht, sizeOf, typeInfo, hi, hs.len, hs.cells]

theorem take_flat {α : Type} (ls : List (List α)) (k : Nat) (h : k < ls.length) : (ls.take (k + 1)).flatten = (ls.take k).flatten ++ ls[k]'h := by
  rw [List.take_succ_eq_append_getElem h, List.flatten_append]; simp
theorem flat_le {α : Type} (ls : List (List α)) (k : Nat) : (ls.take k).flatten.length ≤ ls.flatten.length := by
  have e : ls.flatten = (ls.take k).flatten ++ (ls.drop k).flatten := by rw [← List.flatten_append, List.take_append_drop]
  rw [e, List.length_append]
  omega

set_option maxHeartbeats 3200000 in
theorem vconcat_any (ls : List (List (List UInt8 × List UInt8))) (vs : List Value) (b m : Nat) (w : World) (hm : vs.length = m) (hl : ls.length = m) (hblk : w.heap[b]? = some (.cells vs.toArray 22 (0, 0))) (hrows : ∀ i (h1 : i < vs.length) (h2 : i < ls.length), Row2 w (vs[i]'h1) (ls[i]'h2)) (hm1 : m ≤ 8) (hb : ls.flatten.length ≤ 3000) :
    Calls Tryd.prog 53 #[.slice (some ⟨b, 0, none⟩) m m] w fun e w' => ∃ v', e = .returned v' ∧ w'.ownsRow w.heap.size 47 2 v' ls.flatten.length (R9 ls.flatten) ∧ Below w.heap.size w w' := by
  obtain ⟨i0, hi, hz0, hz1, hz2⟩ := info_parts info_vrow
  have hlt := block_lt hblk
  have HROW : Hid (∀ (wr : World) (k : Nat), Below w.heap.size w wr → (h : k < m) → ∃ a c, wr.cell? ⟨b, k, none⟩ = some (.slice a (ls[k]'(by omega)).length c) ∧ Src Tryd.prog 2 22 (.slice a (ls[k]'(by omega)).length c) (ls[k]'(by omega)).length (R9 (ls[k]'(by omega))) wr) := fun wr k hb h => by
    have hr := (hrows k (by omega) (by omega)).later hb
    obtain ⟨a, c, e, hs⟩ := hr.src under_vrows
    refine ⟨a, c, ?_, hs⟩
    rw [hb.cell (p := ⟨b, k, none⟩) hlt, block_cell hblk, ← e]
    simp [show k < vs.length by omega]
  have HTF := hide (fun k (h : k < m) => take_flat ls k (by omega))
  have HFL := hide (flat_le ls)
  have HALL : Hid ((ls.take m).flatten = ls.flatten) := by
    show _ = _
    rw [List.take_of_length_le (by omega)]
  have HLL := hide hl
  obtain ⟨T, hT⟩ : ∃ T, ls.flatten.length = T := ⟨_, rfl⟩
  have HT := hide hT
  rw [hT] at hb ⊢
  clear hblk hrows hT hm
  go_enter Tryd.func53, Tryd.ntmps53
  go_wp2_with fail
  go_loopw [3, 11] (fun s i wr => ∃ k : Nat, k ≤ m ∧ i = .int .i64 k ∧ s = .int .i64 ((ls.take k).flatten.length : Nat) ∧ wr = w) (fun _ i _ => m - (intOf i).toNat)
  case atStart => exact ⟨0, Nat.zero_le _, rfl, rfl, rfl⟩
  case round =>
    obtain ⟨k, hk, rfl, rfl, hww⟩ := hrel
    have hww' := hww.symm
    subst hww'
    clear hww
    have h1 := unhide HFL k
    rw [unhide HT] at h1
    by_cases hlk : k < m
    · obtain ⟨a, c, hc, _⟩ := unhide HROW w k (Below.refl _ _) hlk
      have h2 := unhide HFL (k + 1)
      have h3 := unhide HTF k hlk
      rw [unhide HT, h3, List.length_append] at h2
      have HN : Hid ((ls.take (k + 1)).flatten.length = (ls.take k).flatten.length + (ls[k]'(by omega)).length) := by
        show _ = _
        rw [h3, List.length_append]
      clear h3
      generalize (ls.take k).flatten.length = x at *
      generalize (ls[k]'(by omega)).length = y at *
      have hw : IntKind.i64.wrap ((x : Int) + (y : Int)) = ((x + y : Nat) : Int) := by rw [IntKind.wrap_i64]; omega
      have hp : ¬ (((x + y : Nat) : Int) < 0) := by omega
      have hi1 : (0 : Int) ≤ (k : Int) := by omega
      have hi2 : (k : Int) < (m : Int) := by omega
      go_wp2_with fail
      go_roundw
      case rel => exact ⟨k + 1, by omega, by go_num, by rw [unhide HN, Int.natCast_add], by trivial⟩
      case measure => simp [intOf]; omega
    · have hkm : k = m := by omega
      subst hkm
      rw [unhide HALL, unhide HT]
      have HGR : Hid (Calls Tryd.prog 68 #[.slice none 0 0, .int .i64 (T : Int)] w fun e w' => ∃ v, e = .returned v ∧ w'.ownsRow w.heap.size 47 2 v 0 [] ∧ Below w.heap.size w w' ∧ (v = .slice none 0 0 ∧ T = 0 ∨ v ≠ .slice none 0 0)) := by
        show Calls _ _ _ _ _
        by_cases hT0 : T = 0
        · subst hT0
          refine (Any8.slices_Grow_room Tryd.laysGrowR none 0 0 0 w (by omega) (by omega) (by omega) (by omega)).mono ?_
          rintro e w' ⟨rfl, rfl⟩
          exact ⟨_, rfl, World.ownsRow_nil _ _ _ _, Below.refl _ _, Or.inl ⟨rfl, rfl⟩⟩
        · refine (Any8.slices_Grow_grow Tryd.laysGrowR i0 (.agg #[.string ⟨#[]⟩, .string ⟨#[]⟩]) hi hz0 (by omega) none 0 0 T [] w (by omega) (by omega) (by rw [hz2]; omega) (by omega) (by simp) (fun _ => rfl) (fun a e => by cases e)).mono ?_
          rintro e w' ⟨rfl, rfl⟩
          refine ⟨_, rfl, ⟨by simp, Or.inr ⟨w.heap.size, _, _, rfl, Nat.le_refl _, heap_alloc_new w.drew _, Nat.zero_le _, grownCap_le_maxLen w (0 + T) 0 _ (by unfold maxLen; omega), ?_, by simp⟩⟩, (Below.refl _ w).drew.alloc (Nat.le_refl _) _, Or.inr (by simp)⟩
          have hge := grownCap_ge w (0 + T) 0 47
          simp [size_zeroCells, Value.cells]
          simp at hge
          have e9 : Tryd.laysGrowR_ren.t 25 = 47 := rfl
          rw [e9]
          omega
      go_wp2_with fail
      refine (unhide HGR).mono ?_
      rintro e w2 ⟨v2, rfl, ho2, hb2, hv2⟩
      obtain ⟨a2, c2, rfl, _⟩ := ownsRow_slice ho2
      have HO2 := hide ho2
      have HB2 := hide hb2
      have HV2 := hide hv2
      clear ho2 hb2 hv2 HGR h1
      go_wp2_with fail
      go_loopw [6, 27] (fun x i wq => ∃ j : Nat, j ≤ k ∧ i = .int .i64 j ∧ wq.ownsRow w.heap.size 47 2 x (ls.take j).flatten.length (R9 (ls.take j).flatten) ∧ Below w.heap.size w wq ∧ (x = .slice none 0 0 ∧ T = 0 ∨ x ≠ .slice none 0 0)) (fun _ i _ => k - (intOf i).toNat)
      case atStart => exact ⟨0, Nat.zero_le _, rfl, unhide HO2, unhide HB2, unhide HV2⟩
      case round =>
        obtain ⟨j, hj, rfl, ho, hbq, hx⟩ := hrel
        clear HO2 HB2 HV2
        by_cases hjk : j < k
        · obtain ⟨a, c, hc, hs⟩ := unhide HROW wr j hbq hjk
          have h2 := unhide HFL (j + 1)
          have h3 := unhide HTF j hjk
          rw [unhide HT, h3, List.length_append] at h2
          have hi1 : (0 : Int) ≤ (j : Int) := by omega
          have hi2 : (j : Int) < (k : Int) := by omega
          have HTN : Hid (R9 (ls.take (j + 1)).flatten = R9 (ls.take j).flatten ++ R9 (ls[j]'(by have := unhide HLL; omega))) := by
            show _ = _
            rw [h3, R9_append]
          have HLN : Hid ((ls.take (j + 1)).flatten.length = (ls.take j).flatten.length + (ls[j]'(by have := unhide HLL; omega)).length) := by
            show _ = _
            rw [h3, List.length_append]
          rcases hx with ⟨hx0, hT0⟩ | hx1
          · have hz : (ls[j]'(by have := unhide HLL; omega)) = [] := List.eq_nil_of_length_eq_zero (by omega)
            rw [hz] at hs HTN HLN hc
            have hrun := run_append_none (P := Tryd.prog) wr 22 22 47 i0 2 under_vrows hi hz1 _ hs
            have HRUN := hide hrun
            have HO := hide ho
            have HB := hide hbq
            subst hx0
            have HT0 := hide hT0
            clear hrun ho hbq hs h3 h2 HTF hT0
            rw [show ([] : List (List UInt8 × List UInt8)).length = 0 from rfl] at hc HRUN
            go_wp2_with (first | (at_builtin; refine wpList_append_is rfl _ _ 22 rfl _ _ _ _ rfl rfl (unhide HRUN) ?_) | fail)
            go_wp2_with fail
            go_roundw
            case rel =>
              exact ⟨j + 1, by omega, by go_num, (by rw [unhide HTN, unhide HLN]; simpa [R9] using unhide HO), unhide HB, Or.inl ⟨rfl, unhide HT0⟩⟩
            case measure => simp [intOf]; omega
          · obtain ⟨xa, xc, rfl, _⟩ := ownsRow_slice ho
            have HO := hide ho
            have HB := hide hbq
            have HS := hide hs
            have HX := hide hx1
            have hsz := hbq.size
            clear ho hbq hs h3 HTF hx1
            generalize (ls.take j).flatten = J at *
            generalize (ls[j]'(by have := unhide HLL; omega)) = y at *
            go_wp2_with (first | (at_builtin; refine wpList_append_src rfl _ _ 22 22 rfl w.heap.size 47 i0 (.agg #[.string ⟨#[]⟩, .string ⟨#[]⟩]) 2 32 under_vrows hi hz0 hz1 hz2 rfl (by decide) _ _ _ rfl (unhide HO) (unhide HX) _ _ _ rfl (unhide HS) ?c3 ?c4 ?c5 ?_) | fail)
            case c3 => unfold maxLen; omega
            case c4 => omega
            case c5 => exact hsz
            intro v' w3 hown' hgrow hfresh hne
            have hlo := (unhide HO).lt
            have HB3 := hide ((unhide HB).grown hgrow hsz (fun q hq => (hlo q hq).1))
            obtain ⟨va, vc, rfl, _⟩ := ownsRow_slice hown'
            have HO3 := hide hown'
            have HN3 := hide hne
            clear hown' hgrow hfresh hlo hne
            go_wp2_with fail
            go_roundw
            case rel => exact ⟨j + 1, by omega, by go_num, by rw [unhide HTN, unhide HLN]; exact unhide HO3, unhide HB3, Or.inr (unhide HN3)⟩
            case measure => simp [intOf]; omega
        · have hjk2 : j = k := by omega
          subst hjk2
          rw [unhide HALL, unhide HT] at ho
          have HO := hide ho
          have HB := hide hbq
          clear ho hbq hx
          go_wp2_with fail
          go_ret
          exact ⟨_, rfl, unhide HO, unhide HB⟩
end Go.Proofs.YtgeibmlhmljhpaaDoor
/- The contract of With. -/
namespace Go.Proofs.YtgeibmlhmljhpaaDoor
open Go.RowKit
set_option linter.unusedVariables false
set_option maxRecDepth 100000

/- Where a row's key stands, of the first n rows. -/
def place (rows : List (List UInt8 × List UInt8)) (key : List UInt8) : Nat → Nat
  | 0 => 0
  | m + 1 => if Codec.lt key (rows.getD m ([], [])).1 = true then place rows key m else m + 1
theorem place_le (rows : List (List UInt8 × List UInt8)) (key : List UInt8) : ∀ n, place rows key n ≤ n
  | 0 => Nat.le_refl _
  | m + 1 => by
    unfold place
    split
    · exact Nat.le_succ_of_le (place_le rows key m)
    · exact Nat.le_refl _
def VS.spot (s : VS) (key : List UInt8) : Nat := if s.kind = 6 then s.rows.length else place s.rows key s.rows.length
theorem VS.spot_le (s : VS) (key : List UInt8) : s.spot key ≤ s.rows.length := by
  unfold VS.spot
  split
  · exact Nat.le_refl _
  · exact place_le _ _ _
def VS.with (s : VS) (r : List UInt8 × List UInt8) : VS := ⟨s.kind, s.n, s.rows.take (s.spot r.1) ++ [r] ++ s.rows.drop (s.spot r.1)⟩
theorem vrow_one {w : World} {b : Nat} {x y : List UInt8} {t : TypeId} (h : w.heap[b]? = some (.cells #[.string (S x), .string (S y)] t (0, 0))) : Row2 w (.slice (some ⟨b, 0, none⟩) 1 1) [(x, y)] := by
  refine ⟨_, 1, rfl, Nat.le_refl _, by simp [maxLen], fun e => (by cases e), fun i u hu => ⟨b, 0, rfl, block_lt h, ?_⟩⟩
  rw [Nat.zero_add, block_cell h]
  match i, hu with
  | 0, hu => exact hu
  | 1, hu => exact hu
  | i + 2, hu => simp [R9] at hu
theorem vconcat3 {w : World} {v1 v2 v3 : Value} {l1 l2 l3 : List (List UInt8 × List UInt8)} {b : Nat} (hblk : w.heap[b]? = some (.cells #[v1, v2, v3] 22 (0, 0))) (h1 : Row2 w v1 l1) (h2 : Row2 w v2 l2) (h3 : Row2 w v3 l3) (hb : l1.length + l2.length + l3.length ≤ 3000) :
    Calls Tryd.prog 53 #[.slice (some ⟨b, 0, none⟩) 3 3] w fun e w' => ∃ v', e = .returned v' ∧ w'.ownsRow w.heap.size 47 2 v' (l1 ++ l2 ++ l3).length (R9 (l1 ++ l2 ++ l3)) ∧ Below w.heap.size w w' := by
  have h := vconcat_any [l1, l2, l3] [v1, v2, v3] b 3 w rfl rfl hblk (fun i hi1 hi2 => by
    simp at hi1
    match i, hi1 with
    | 0, _ => exact h1
    | 1, _ => exact h2
    | 2, _ => exact h3) (by decide) (by simp; omega)
  rw [show [l1, l2, l3].flatten = l1 ++ l2 ++ l3 by simp] at h
  exact h
theorem vconcat2 {w : World} {v1 v2 : Value} {l1 l2 : List (List UInt8 × List UInt8)} {b : Nat} (hblk : w.heap[b]? = some (.cells #[v1, v2] 22 (0, 0))) (h1 : Row2 w v1 l1) (h2 : Row2 w v2 l2) (hb : l1.length + l2.length ≤ 3000) :
    Calls Tryd.prog 53 #[.slice (some ⟨b, 0, none⟩) 2 2] w fun e w' => ∃ v', e = .returned v' ∧ w'.ownsRow w.heap.size 47 2 v' (l1 ++ l2).length (R9 (l1 ++ l2)) ∧ Below w.heap.size w w' := by
  have h := vconcat_any [l1, l2] [v1, v2] b 2 w rfl rfl hblk (fun i hi1 hi2 => by
    simp at hi1
    match i, hi1 with
    | 0, _ => exact h1
    | 1, _ => exact h2) (by decide) (by simpa using hb)
  simpa using h

theorem elem_vrows : Tryd.prog.underlying 22 = some (.slice (Tryd.prog.elem 22)) := by kernel_rfl
theorem two_vrow (w : World) : (sizeOf (Tryd.prog.elem 22)).run Tryd.prog w = .ok 2 w := Tryd.sizeOf47 w
/- A row of rows, cut at a place. -/
theorem Row2.ahead {w : World} {a : Option Addr} {n c : Nat} {l : List (List UInt8 × List UInt8)} (h : Row2 w (.slice a n c) l) (j : Nat) (hj : j ≤ l.length) :
    ∃ a' c', (∀ wx, (Instr.slice 22 (.slice a n c) none (some (.int .i64 (j : Int))) none).run Tryd.prog wx = .ok (.slice a' j c') wx) ∧ Row2 w (.slice a' j c') (l.take j) := by
  obtain ⟨a0, c0, e0, h1, h2, h0, h3⟩ := h
  injection e0 with e1 e2 e3
  subst e1 e2 e3
  have hrow : Row2 w (.slice a l.length c) l := ⟨a, c, rfl, h1, h2, h0, h3⟩
  have hrun : ∀ wx, (Instr.slice 22 (.slice a l.length c) none (some (.int .i64 (j : Int))) none).run Tryd.prog wx = .ok (sliced a 0 j c 2) wx := fun wx => by
    rw [run_slice_h wx 22 a l.length c elem_vrows .i64 (j : Int) (by omega) (by omega), two_vrow]
    simp [Result.andThen]
  unfold sliced at hrun
  have := hrow.part 0 j (Nat.zero_le _) hj (if c = 0 then a else a.map (·.add (0 * 2))) (fun hp => ?_) (fun hn => ?_)
  · simp only [Nat.sub_zero, List.drop_zero] at this hrun
    exact ⟨_, _, hrun, this⟩
  · obtain ⟨b, off, rfl, _, _⟩ := h3 0 _ (R9_get l 0 (by omega)).1
    exact ⟨b, off, rfl, by rw [if_neg (by omega)]; simp [plain_add]⟩
  · by_cases hc : c = 0
    · omega
    · rw [if_neg hc] at hn
      have : a = none := by simpa using hn
      have := h0 this
      omega
theorem Row2.behind {w : World} {a : Option Addr} {n c : Nat} {l : List (List UInt8 × List UInt8)} (h : Row2 w (.slice a n c) l) (j : Nat) (hj : j ≤ l.length) :
    ∃ a' c', (∀ wx, (Instr.slice 22 (.slice a n c) (some (.int .i64 (j : Int))) none none).run Tryd.prog wx = .ok (.slice a' (l.length - j) c') wx) ∧ Row2 w (.slice a' (l.length - j) c') (l.drop j) := by
  obtain ⟨a0, c0, e0, h1, h2, h0, h3⟩ := h
  injection e0 with e1 e2 e3
  subst e1 e2 e3
  have hrow : Row2 w (.slice a l.length c) l := ⟨a, c, rfl, h1, h2, h0, h3⟩
  have hrun : ∀ wx, (Instr.slice 22 (.slice a l.length c) (some (.int .i64 (j : Int))) none none).run Tryd.prog wx = .ok (sliced a j l.length c 2) wx := fun wx => by
    rw [run_slice_l wx 22 a l.length c elem_vrows .i64 (j : Int) (by omega) (by omega), two_vrow]
    simp [Result.andThen]
  unfold sliced at hrun
  have := hrow.part j l.length hj (Nat.le_refl _) (if c = j then a else a.map (·.add (j * 2))) (fun hp => ?_) (fun hn => ?_)
  · rw [List.take_length] at this
    exact ⟨_, _, hrun, this⟩
  · obtain ⟨b, off, rfl, _, _⟩ := h3 0 _ (R9_get l 0 (by omega)).1
    exact ⟨b, off, rfl, by rw [if_neg (by omega)]; simp [plain_add]⟩
  · by_cases hc : c = j
    · omega
    · rw [if_neg hc] at hn
      have : a = none := by simpa using hn
      have := h0 this
      omega

theorem valloc_new {w : World} {o : Obj} {k : Nat} (h : w.heap.size = k) : (w.alloc o).heap[k]? = some o := by subst h; exact heap_alloc_new w o
theorem valloc_old {w : World} {o : Obj} {k : Nat} {x : Obj} (h : k < w.heap.size) (hx : w.heap[k]? = some x) : (w.alloc o).heap[k]? = some x := (Below.heap_alloc w o k h).trans hx
theorem vlow_two {w wr : World} {B : Nat} (h : Below B w wr) (hB : B ≤ wr.heap.size) (o o' : Obj) : Below B w (((wr.alloc o).alloc o').drew) := ((h.alloc hB o).alloc (by simp; omega) o').drew
/- Three boxes: a state's, a row's, a result's. -/
structure Bw (w : World) (kd n sl x y : Value) (wr : World) : Prop where
  low : Below w.heap.size w wr
  size : w.heap.size + 1 + 1 + 1 ≤ wr.heap.size
  st : ∃ t, wr.heap[w.heap.size]? = some (.cells #[kd, n, sl] t (0, 0))
  row : ∃ t, wr.heap[w.heap.size + 1]? = some (.cells #[x, y] t (0, 0))
  res : ∃ a b c t, wr.heap[w.heap.size + 1 + 1]? = some (.cells #[a, b, c] t (0, 0))
theorem Bw.below {w wr w' : World} {kd n sl x y : Value} (h : Bw w kd n sl x y wr) (hb : Below wr.heap.size wr w') : Bw w kd n sl x y w' := by
  have hs := h.size
  obtain ⟨t1, h1⟩ := h.st
  obtain ⟨t2, h2⟩ := h.row
  obtain ⟨a, b, c, t3, h3⟩ := h.res
  exact ⟨h.low.trans (hb.mono (by omega)), Nat.le_trans hs hb.size, ⟨t1, (hb.block _ (by omega)).trans h1⟩, ⟨t2, (hb.block _ (by omega)).trans h2⟩, ⟨a, b, c, t3, (hb.block _ (by omega)).trans h3⟩⟩

theorem Bw.start (w : World) (kd n sl x y a b c : Value) (t t' t'' : TypeId) : Bw w kd n sl x y (((w.alloc (.cells #[kd, n, sl] t)).alloc (.cells #[x, y] t')).alloc (.cells #[a, b, c] t'')) := by
  refine ⟨((Below.refl _ _).alloc (Nat.le_refl _) _ |>.alloc (by simp) _).alloc (by simp; omega) _, by simp, ⟨t, ?_⟩, ⟨t', ?_⟩, ⟨a, b, c, t'', ?_⟩⟩
  · rw [Below.heap_alloc _ _ _ (by simp; omega), Below.heap_alloc _ _ _ (by simp)]; exact heap_alloc_new w _
  · rw [Below.heap_alloc _ _ _ (by simp)]
    have := heap_alloc_new (w.alloc (.cells #[kd, n, sl] t)) (.cells #[x, y] t')
    rwa [World.size_alloc] at this
  · have := heap_alloc_new ((w.alloc (.cells #[kd, n, sl] t)).alloc (.cells #[x, y] t')) (.cells #[a, b, c] t'')
    rwa [World.size_alloc, World.size_alloc] at this
theorem Bw.facts {w wr : World} {kd n sl x y : Value} (h : Bw w kd n sl x y wr) : (wr.cell? ⟨w.heap.size, 0, none⟩ = some kd ∧ wr.cell? ⟨w.heap.size, 1, none⟩ = some n ∧ wr.cell? ⟨w.heap.size, 2, none⟩ = some sl) ∧ (wr.cell? ⟨w.heap.size + 1, 0, none⟩ = some x ∧ wr.cell? ⟨w.heap.size + 1, 1, none⟩ = some y) ∧ (wr.frozen? ⟨w.heap.size, 2, none⟩ = false) ∧ (∀ j, wr.frozen? ⟨w.heap.size + 1 + 1, j, none⟩ = false) := by
  obtain ⟨t1, h1⟩ := h.st
  obtain ⟨t2, h2⟩ := h.row
  obtain ⟨a, b, c, t3, h3⟩ := h.res
  refine ⟨⟨?_, ?_, ?_⟩, ⟨?_, ?_⟩, block_frozen h1 2, fun j => block_frozen h3 j⟩
  · rw [block_cell h1]; rfl
  · rw [block_cell h1]; rfl
  · rw [block_cell h1]; rfl
  · rw [block_cell h2]; rfl
  · rw [block_cell h2]; rfl

/- The same, whatever the state's rows are. -/
def Bv (w : World) (kd n x y : Value) (wr : World) : Prop := ∃ sl, Bw w kd n sl x y wr
theorem Bv.below {w wr w' : World} {kd n x y : Value} (h : Bv w kd n x y wr) (hb : Below wr.heap.size wr w') : Bv w kd n x y w' := by
  obtain ⟨sl, h⟩ := h
  exact ⟨sl, h.below hb⟩
theorem Bv.alloc {w wr : World} {kd n x y : Value} (h : Bv w kd n x y wr) (o : Obj) : Bv w kd n x y (wr.alloc o) := h.below (under_box o)
theorem Bv.drew {w wr : World} {kd n x y : Value} (h : Bv w kd n x y wr) : Bv w kd n x y wr.drew := h.below (Below.refl _ _).drew
theorem Bv.undrew {w wr : World} {kd n x y : Value} (h : Bv w kd n x y wr.drew) : Bv w kd n x y wr := h.below ⟨rfl, rfl, rfl, Nat.le_refl _, fun k hk => rfl⟩
theorem Bv.put {w wr : World} {kd n x y : Value} (h : Bv w kd n x y wr) (z : Value) : Bv w kd n x y (wr.setCell ⟨w.heap.size, 2, none⟩ z) := by
  obtain ⟨sl, h⟩ := h
  obtain ⟨t1, h1⟩ := h.st
  obtain ⟨t2, h2⟩ := h.row
  obtain ⟨a, b, c, t3, h3⟩ := h.res
  refine ⟨z, ⟨h.low.os, h.low.tape, h.low.output, by simpa using h.low.size, fun k hk => ?_⟩, by simpa using h.size, ⟨t1, ?_⟩, ⟨t2, ?_⟩, ⟨a, b, c, t3, ?_⟩⟩
  · rw [heap_setCell_other _ ⟨w.heap.size, 2, none⟩ _ _ (by simp; omega)]; exact h.low.block k hk
  · have := heap_setCell_same wr w.heap.size 2 _ _ z h1
    simpa [Array.setIfInBounds] using this
  · rw [heap_setCell_other _ ⟨w.heap.size, 2, none⟩ _ _ (by simp)]; exact h2
  · rw [heap_setCell_other _ ⟨w.heap.size, 2, none⟩ _ _ (by simp; omega)]; exact h3
theorem Bv.row0 {w : World} {kd n x y : Value} : ∀ wr, Bv w kd n x y wr → wr.cell? ⟨w.heap.size + 1, 0, none⟩ = some x := fun wr ⟨_, h⟩ => h.facts.2.1.1
theorem Bv.row1 {w : World} {kd n x y : Value} : ∀ wr, Bv w kd n x y wr → wr.cell? ⟨w.heap.size + 1, 1, none⟩ = some y := fun wr ⟨_, h⟩ => h.facts.2.1.2

/- The end of With: the row is laid, the state, with its new rows, handed back. -/
def put3 (w : World) (N : Nat) (a b c : Value) : World := ((w.setCell ⟨N, 0, none⟩ a).setCell ⟨N, 1, none⟩ b).setCell ⟨N, 2, none⟩ c
theorem put3_other (w : World) {N : Nat} (a b c : Value) {k : Nat} (hk : k ≠ N) : (put3 w N a b c).heap[k]? = w.heap[k]? := by
  unfold put3
  rw [heap_setCell_other _ ⟨N, 2, none⟩ k _ hk, heap_setCell_other _ ⟨N, 1, none⟩ k _ hk, heap_setCell_other _ ⟨N, 0, none⟩ k _ hk]
theorem put3_size (w : World) {N : Nat} (a b c : Value) : (put3 w N a b c).heap.size = w.heap.size := by simp [put3]
theorem put3_cells {w : World} {N : Nat} {a0 b0 c0 : Value} {t : TypeId} (h : w.heap[N]? = some (.cells #[a0, b0, c0] t (0, 0))) (a b c : Value) :
    (put3 w N a b c).cell? ⟨N, 0, none⟩ = some a ∧ (put3 w N a b c).cell? ⟨N, 1, none⟩ = some b ∧ (put3 w N a b c).cell? ⟨N, 2, none⟩ = some c := by
  have h1 := heap_setCell_same w N 0 _ _ a h
  have h2 := heap_setCell_same _ N 1 _ _ b h1
  have h3 := heap_setCell_same _ N 2 _ _ c h2
  have h4 : (put3 w N a b c).heap[N]? = some (.cells #[a, b, c] t (0, 0)) := by
    unfold put3
    simpa [Array.setIfInBounds] using h3
  refine ⟨?_, ?_, ?_⟩ <;> rw [block_cell h4] <;> rfl
theorem Bw.done {w wr : World} {kd n sl x y : Value} (h : Bw w kd n sl x y wr) (z a b c : Value) :
    (put3 (wr.setCell ⟨w.heap.size, 2, none⟩ z) (w.heap.size + 1 + 1) a b c).cell? ⟨w.heap.size + 1 + 1, 0, none⟩ = some a ∧ (put3 (wr.setCell ⟨w.heap.size, 2, none⟩ z) (w.heap.size + 1 + 1) a b c).cell? ⟨w.heap.size + 1 + 1, 1, none⟩ = some b ∧ (put3 (wr.setCell ⟨w.heap.size, 2, none⟩ z) (w.heap.size + 1 + 1) a b c).cell? ⟨w.heap.size + 1 + 1, 2, none⟩ = some c ∧
    Below w.heap.size w (put3 (wr.setCell ⟨w.heap.size, 2, none⟩ z) (w.heap.size + 1 + 1) a b c) ∧
    ∀ (u : Value) (nn : Nat) (xs : List Value) (e : TypeId), wr.ownsRow (w.heap.size + 1 + 1 + 1) e 2 u nn xs → (put3 (wr.setCell ⟨w.heap.size, 2, none⟩ z) (w.heap.size + 1 + 1) a b c).ownsRow w.heap.size e 2 u nn xs := by
  obtain ⟨a0, b0, c0, t3, h3⟩ := h.res
  have h3' : (wr.setCell ⟨w.heap.size, 2, none⟩ z).heap[w.heap.size + 1 + 1]? = some (.cells #[a0, b0, c0] t3 (0, 0)) := by
    rw [heap_setCell_other _ ⟨w.heap.size, 2, none⟩ _ _ (by simp; omega)]; exact h3
  obtain ⟨p0, p1, p2⟩ := put3_cells h3' a b c
  refine ⟨p0, p1, p2, ⟨h.low.os, h.low.tape, h.low.output, by rw [put3_size]; simpa using h.low.size, fun k hk => ?_⟩, fun u nn xs e hu => ownsRow_less (ownsRow_same hu fun k hk => ?_) (by omega)⟩
  · rw [put3_other _ _ _ _ (by omega), heap_setCell_other _ ⟨w.heap.size, 2, none⟩ _ _ (by simp; omega)]; exact h.low.block k hk
  · have := (hu.lt k hk).1
    rw [put3_other _ _ _ _ (by omega), heap_setCell_other _ ⟨w.heap.size, 2, none⟩ _ _ (by simp; omega)]

set_option maxHeartbeats 6400000 in
theorem with_any {w : World} {v : Value} {s : VS} (h : StAt w v s) (hs : s.rows.length ≤ 1000) (r : List UInt8 × List UInt8) :
    Calls Tryd.prog 22 #[v, .agg #[.string (S r.1), .string (S r.2)]] w fun e w' => ∃ v', e = .returned v' ∧ StOwn w.heap.size 47 w' v' (s.with r) ∧ Below w.heap.size w w' := by
  obtain ⟨k, rfl, hr⟩ := h
  obtain ⟨a, c, rfl, hc, hm⟩ := hr.shape
  unfold maxLen at hm
  obtain ⟨x, y⟩ := r
  obtain ⟨kd, n, rows⟩ := s
  dsimp only at *
  have HA := hide (fun (j : Nat) (hj : j ≤ rows.length) => hr.ahead j hj)
  have HD := hide (fun (j : Nat) (hj : j ≤ rows.length) => hr.behind j hj)
  have HCC := hide (fun (w1 : World) (hb : Below w.heap.size w w1) (j : Nat) (hj : j ≤ rows.length) (v1 v3 : Value) (h1 : Row2 w v1 (rows.take j)) (h3 : Row2 w v3 (rows.drop j)) (q q0 : Nat) hq (h0 : w1.heap[q0]? = some (.cells #[.string (S x), .string (S y)] 47 (0, 0))) => vconcat3 (b := q) (l1 := rows.take j) (l2 := [(x, y)]) (l3 := rows.drop j) hq (h1.later hb) (vrow_one h0) (h3.later hb) (by simp; omega))
  obtain ⟨P, hP⟩ : ∃ P, VS.spot ⟨kd, n, rows⟩ x = P := ⟨_, rfl⟩
  have hPl : P ≤ rows.length := by rw [← hP]; exact VS.spot_le _ _
  have HSP : Hid (VS.with ⟨kd, n, rows⟩ (x, y) = ⟨kd, n, rows.take P ++ [(x, y)] ++ rows.drop P⟩) := by
    show _ = _
    unfold VS.with
    rw [hP]
  obtain ⟨a1, c1, hs1, hr1⟩ := unhide HA P hPl
  obtain ⟨a2, c2, hs2, hr2⟩ := unhide HD P hPl
  obtain ⟨Dn, hDn⟩ : ∃ Dn, rows.length - P = Dn := ⟨_, rfl⟩
  rw [hDn] at hs2 hr2
  have HC := hide (fun (w1 : World) (hb : Below w.heap.size w w1) (q q0 : Nat) hq h0 => unhide HCC w1 hb P hPl _ _ hr1 hr2 q q0 hq h0)
  obtain ⟨L, hL⟩ : ∃ L, rows.take P ++ [(x, y)] ++ rows.drop P = L := ⟨_, rfl⟩
  rw [hL] at HC HSP
  rw [unhide HSP]
  unfold VS.spot at hP
  dsimp only at hP
  have HP := hide hP
  have HROW := hide (fun (i : Nat) (hi : i < rows.length) => hr.place (by omega))
  clear hr1 hr2 HCC HA HD hL hP HSP hDn
  have HST := hide (Bw.start w (.int .i64 kd) (.int .i64 n) (.slice a rows.length c) (.string (S x)) (.string (S y)) (.int .i64 0) (.int .i64 0) (.slice none 0 0) 24 47 24)
  have e1 : ((P : Nat) : Int) ≤ ((rows.length : Nat) : Int) := by omega
  have e0 : (0 : Int) ≤ ((P : Nat) : Int) := by omega
  have hne0 : w.heap.size ≠ w.heap.size + 1 := by omega
  clear hr
  go_enter Tryd.func22, Tryd.ntmps22
  go_upto_if 11 with fail
  obtain ⟨Wr, hWr⟩ : ∃ Wr, (((w.alloc (.cells #[.int .i64 kd, .int .i64 n, .slice a rows.length c] 24)).alloc (.cells #[.string (S x), .string (S y)] 47)).alloc (.cells #[.int .i64 0, .int .i64 0, .slice none 0 0] 24)) = Wr := ⟨_, rfl⟩
  rw [hWr] at HST ⊢
  clear hWr
  obtain ⟨⟨p0, p1, p2⟩, ⟨r0, r1⟩, f2, f3⟩ := (unhide HST).facts
  go_cut [5, 11] (fun s5 _ wx => s5 = .int .i64 (P : Int) ∧ Bw w (.int .i64 kd) (.int .i64 n) (.slice a rows.length c) (.string (S x)) (.string (S y)) wx)
  case first =>
    by_cases h6 : kd = 6
    · have hP := unhide HP
      rw [if_pos h6] at hP
      have e6 : (kd != 6) = false := by rw [h6]; rfl
      subst hP
      clear h6
      go_wp2_with fail
      go_meet
      case rel => exact ⟨rfl, unhide HST⟩
    · have hP := unhide HP
      rw [if_neg h6] at hP
      have e6 : (kd != 6) = true := by rw [bne_iff_ne]; exact h6
      have HP2 := hide hP
      clear h6 hP HP HC hs1 hs2 e0 e1
      go_wp2_with fail
      go_loopw [5] (fun s5 wx => ∃ k : Nat, k ≤ rows.length ∧ s5 = .int .i64 (k : Int) ∧ place rows x k = P ∧ Bw w (.int .i64 kd) (.int .i64 n) (.slice a rows.length c) (.string (S x)) (.string (S y)) wx) (fun s5 _ => (intOf s5).toNat)
      case atStart => exact ⟨rows.length, Nat.le_refl _, rfl, unhide HP2, unhide HST⟩
      case round =>
        obtain ⟨k, hk, rfl, hpl, hbw⟩ := hrel
        have HBW := hide hbw
        clear p0 p1 p2 r0 r1 f2 f3
        obtain ⟨⟨p0, p1, p2⟩, ⟨r0, r1⟩, f2, f3⟩ := hbw.facts
        have HD := hide (fun (q : Nat) => hbw.below (w' := wr.drewN q) ⟨rfl, rfl, rfl, Nat.le_refl _, fun k hk => rfl⟩)
        clear hbw HP2
        rcases Nat.eq_zero_or_pos k with hk0 | hk0
        · subst hk0
          have hP0 : 0 = P := hpl
          subst hP0
          clear hpl
          have z0 : ¬ (0 : Int) < ((0 : Nat) : Int) := by omega
          go_wp2_with fail
          go_quiet (fail)
          go_wp2_with fail
          go_meet
          case rel => exact ⟨rfl, unhide HD _⟩
        · obtain ⟨m, rfl⟩ : ∃ m, k = m + 1 := ⟨k - 1, by omega⟩
          have hm1 : m < rows.length := by omega
          obtain ⟨b, off, rfl, hlt, hcell⟩ := unhide HROW m hm1
          have hc1 := (hcell m hm1).1
          rw [← (unhide HBW).low.cell (p := ⟨b, off + m * 2, none⟩) hlt] at hc1
          have hgd : (rows.getD m ([], [])).1 = (rows[m]'hm1).1 := by simp [List.getD, hm1]
          unfold place at hpl
          rw [hgd] at hpl
          have hg := S_gt (rows[m]'hm1).1 x
          have HPL := hide hpl
          clear hgd hcell hpl
          generalize (rows[m]'hm1).1 = z at *
          have z0 : (0 : Int) < ((m + 1 : Nat) : Int) := by omega
          have hw1 : IntKind.i64.wrap (((m + 1 : Nat) : Int) - 1) = (m : Int) := by rw [IntKind.wrap_i64]; omega
          have hi0 : (0 : Int) ≤ (m : Int) := by omega
          have hi1 : (m : Int) < ((rows.length : Nat) : Int) := by omega
          cases hl : Codec.lt x z
          · rw [hl] at hg HPL
            rw [if_neg (by simp)] at HPL
            have hP0 := unhide HPL
            subst hP0
            have hg2 : (!Op.bytesLess (S z).toList (S x).toList && !(S z).toList == (S x).toList) = false := by rw [← hg]; simp
            clear hl HPL
            go_wp2_with fail
            go_quiet (fail)
            go_wp2_with fail
            go_meet
            case rel => exact ⟨rfl, unhide HD _⟩
          · rw [hl] at hg HPL
            rw [if_pos rfl] at HPL
            have hg2 : (!Op.bytesLess (S z).toList (S x).toList && !(S z).toList == (S x).toList) = true := by rw [← hg]; simp
            clear hl
            go_wp2_with fail
            go_quiet (fail)
            go_wp2_with fail
            go_roundw
            case rel => exact ⟨m, by omega, by go_num, unhide HPL, unhide HD _⟩
            case measure => simp [intOf]
  case rest =>
  obtain ⟨rfl, hbw⟩ := hcut
  have HST := hide hbw
  clear p0 p1 p2 r0 r1 f2 f3 hbw HP HROW
  rename_i Wx _
  obtain ⟨⟨p0, p1, p2⟩, ⟨r0, r1⟩, f2, f3⟩ := (unhide HST).facts
  have A0 := fun o => ((unhide HST).below (under_box o)).facts
  have q0 := fun o => (A0 o).1.2.2
  have q1 := fun o => (A0 o).2.1.1
  have q2 := fun o => (A0 o).2.1.2
  have HLR := hide (unhide HST).low
  have HLS := hide (unhide HST).low.size
  clear A0
  go_upto_region 5 with fail
  go_cut [] (fun wx => ∃ wk ka kc, wx = wk.setCell ⟨w.heap.size, 2, none⟩ (.slice ka L.length kc) ∧ Bw w (.int .i64 kd) (.int .i64 n) (.slice a rows.length c) (.string (S x)) (.string (S y)) wk ∧ wk.ownsRow (w.heap.size + 1 + 1 + 1) 47 2 (.slice ka L.length kc) L.length (R9 L))
  case first =>
    go_region_with (go_at_call 53; refine (unhide HC _ (vlow_two (unhide HLR) (unhide HLS) _ _) _ _ (by exact valloc_new (by simp)) (by exact valloc_old (by simp) (valloc_new (by simp)))).mono ?_; rintro e wk ⟨kv, rfl, hok, hbk⟩; obtain ⟨ka, kc, rfl, _⟩ := ownsRow_slice hok; have HOK := hide (ownsRow_less hok (show w.heap.size + 1 + 1 + 1 ≤ _ by have := (unhide HST).size; simp; omega)); have HW3 := hide ((unhide HST).below ((vlow_two (Below.refl _ _) (Nat.le_refl _) _ _).trans (hbk.mono (by simp; omega)))); obtain ⟨⟨u0, u1, u2⟩, _, g2, g3⟩ := (unhide HW3).facts; clear hok hbk)
    all_goals go_wp2_with fail
    all_goals go_meet
    all_goals exact ⟨wk, ka, kc, rfl, unhide HW3, unhide HOK⟩
  case rest =>
  obtain ⟨wk, ka, kc, rfl, hW3, hok⟩ := hcut
  clear p0 p1 p2 r0 r1 f2 f3 q0 q1 q2
  obtain ⟨⟨u0, u1, u2⟩, _, g2, g3⟩ := hW3.facts
  obtain ⟨ra, rb, rc, rt, hres⟩ := hW3.res
  have y0 : wk.cell? ⟨w.heap.size + 1 + 1, 0, none⟩ = some ra := by rw [block_cell hres]; rfl
  have y1 : wk.cell? ⟨w.heap.size + 1 + 1, 1, none⟩ = some rb := by rw [block_cell hres]; rfl
  have y2 : wk.cell? ⟨w.heap.size + 1 + 1, 2, none⟩ = some rc := by rw [block_cell hres]; rfl
  clear hres
  obtain ⟨z0, z1, z2, zlow, zown⟩ := hW3.done (.slice ka L.length kc) (.int .i64 kd) (.int .i64 n) (.slice ka L.length kc)
  have hown := zown _ _ _ _ hok
  unfold put3 at z0 z1 z2 zlow hown
  clear hW3 zown hok
  go_wp2_with fail
  exact bodyPost_ret (v := .agg #[.int .i64 kd, .int .i64 n, .slice ka L.length kc]) (by simp [results, Tryd.results22, go_sem, z0, z1, z2]) rfl ⟨_, rfl, ⟨_, rfl, hown⟩, zlow⟩
end Go.Proofs.YtgeibmlhmljhpaaDoor
/- The contracts of the law's Told and Own: a state's rows, copied one by one. -/
namespace Go.Proofs.YtgeibmlhmljhpaaDoor
open Go.RowKit
set_option linter.unusedVariables false
set_option maxRecDepth 100000

theorem under_rrows : Tryd.prog.underlying 27 = some (.slice 55) := by kernel_rfl
theorem info_rrow : (Tryd.prog.info? 55).map (fun i => (i.zero, i.size, i.bytes)) = some (some (.agg #[.string ⟨#[]⟩, .string ⟨#[]⟩]), 2, 32) := by kernel_rfl

/- Three boxes: a state's, a result's, and a new state's, which has its own rows. -/
structure Tx (w : World) (t tr : TypeId) (kd n : Int) (l : List (List UInt8 × List UInt8)) (v : Value) (wr : World) : Prop where
  low : Below w.heap.size w wr
  res : ∃ a b c t', wr.heap[w.heap.size + 1]? = some (.cells #[a, b, c] t' (0, 0))
  x : wr.heap[w.heap.size + 1 + 1]? = some (.cells #[.int .i64 kd, .int .i64 n, v] t (0, 0))
  own : wr.ownsRow (w.heap.size + 1 + 1 + 1) tr 2 v l.length (R9 l)
section
variable {w wr : World} {t tr : TypeId} {kd n : Int} {l : List (List UInt8 × List UInt8)} {v : Value}
theorem Tx.start (w : World) (o : Obj) (t tr t' : TypeId) (kd n : Int) (a b c : Value) : Tx w t tr kd n [] (.slice none 0 0) (((w.alloc o).alloc (.cells #[a, b, c] t')).alloc (.cells #[.int .i64 kd, .int .i64 n, .slice none 0 0] t)) := by
  refine ⟨((under_box o).alloc (by simp) _).alloc (by simp; omega) _, ⟨a, b, c, t', ?_⟩, ?_, World.ownsRow_nil _ _ _ _⟩
  · rw [Below.heap_alloc _ _ _ (by simp)]
    have := heap_alloc_new (w.alloc o) (.cells #[a, b, c] t')
    rwa [World.size_alloc] at this
  · have := heap_alloc_new ((w.alloc o).alloc (.cells #[a, b, c] t')) (.cells #[.int .i64 kd, .int .i64 n, .slice none 0 0] t)
    rwa [World.size_alloc, World.size_alloc] at this
theorem Tx.size (h : Tx w t tr kd n l v wr) : w.heap.size + 1 + 1 < wr.heap.size := block_lt h.x
theorem Tx.cells (h : Tx w t tr kd n l v wr) (w' : World) (hb : Below wr.heap.size wr w') : w'.cell? ⟨w.heap.size + 1 + 1, 0, none⟩ = some (.int .i64 kd) ∧ w'.cell? ⟨w.heap.size + 1 + 1, 1, none⟩ = some (.int .i64 n) ∧ w'.cell? ⟨w.heap.size + 1 + 1, 2, none⟩ = some v ∧ w'.frozen? ⟨w.heap.size + 1 + 1, 2, none⟩ = false := by
  have hx := (hb.block _ h.size).trans h.x
  refine ⟨?_, ?_, ?_, block_frozen hx 2⟩ <;> rw [block_cell hx] <;> rfl
theorem Tx.grown (h : Tx w t tr kd n l v wr) {o o' : Obj} {w2 : World} (hg : ((wr.alloc o).alloc o').grownBy w2 v.ownBlock) : Below (w.heap.size + 1 + 1 + 1) wr w2 ∧ w2.cell? ⟨w.heap.size + 1 + 1, 2, none⟩ = some v ∧ w2.frozen? ⟨w.heap.size + 1 + 1, 2, none⟩ = false := by
  have hs := h.size
  have hb : Below (w.heap.size + 1 + 1 + 1) wr w2 := ((((Below.refl (w.heap.size + 1 + 1 + 1) wr).alloc (by omega) o).alloc (by simp; omega) o').grown hg (by simp; omega) (fun j hj => (h.own.lt j hj).1))
  have hx := (hb.block (w.heap.size + 1 + 1) (by omega)).trans h.x
  exact ⟨hb, by rw [block_cell hx]; rfl, block_frozen hx 2⟩
theorem Tx.step (h : Tx w t tr kd n l v wr) {o o' : Obj} {w2 : World} {v' : Value} {r : List UInt8 × List UInt8} (hg : ((wr.alloc o).alloc o').grownBy w2 v.ownBlock) (ho : w2.ownsRow (w.heap.size + 1 + 1 + 1) tr 2 v' (l.length + 1) (R9 l ++ [.string (S r.1), .string (S r.2)])) :
    Tx w t tr kd n (l ++ [r]) v' (w2.setCell ⟨w.heap.size + 1 + 1, 2, none⟩ v') := by
  obtain ⟨hb, _, _⟩ := h.grown hg
  have hx := (hb.block (w.heap.size + 1 + 1) (by omega)).trans h.x
  obtain ⟨a, b, c, t', hr⟩ := h.res
  have hr2 := (hb.block (w.heap.size + 1) (by omega)).trans hr
  refine ⟨⟨hb.os.trans h.low.os, hb.tape.trans h.low.tape, hb.output.trans h.low.output, ?_, fun k hk => ?_⟩, ⟨a, b, c, t', ?_⟩, ?_, ?_⟩
  · have h1 := h.low.size
    have h2 := hb.size
    simp
    omega
  · rw [heap_setCell_other _ ⟨w.heap.size + 1 + 1, 2, none⟩ _ _ (by simp; omega), hb.block k (by omega)]; exact h.low.block k hk
  · rw [heap_setCell_other _ ⟨w.heap.size + 1 + 1, 2, none⟩ _ _ (by simp)]; exact hr2
  · have := heap_setCell_same w2 (w.heap.size + 1 + 1) 2 _ _ v' hx
    simpa [Array.setIfInBounds] using this
  · rw [List.length_append, R9_append]
    refine ownsRow_same ho fun k hk => ?_
    have := (ho.lt k hk).1
    rw [heap_setCell_other _ ⟨w.heap.size + 1 + 1, 2, none⟩ _ _ (by simp; omega)]
theorem Tx.done (h : Tx w t tr kd n l v wr) (a b c : Value) :
    (put3 wr (w.heap.size + 1) a b c).cell? ⟨w.heap.size + 1, 0, none⟩ = some a ∧ (put3 wr (w.heap.size + 1) a b c).cell? ⟨w.heap.size + 1, 1, none⟩ = some b ∧ (put3 wr (w.heap.size + 1) a b c).cell? ⟨w.heap.size + 1, 2, none⟩ = some c ∧
    Below w.heap.size w (put3 wr (w.heap.size + 1) a b c) ∧ (put3 wr (w.heap.size + 1) a b c).ownsRow w.heap.size tr 2 v l.length (R9 l) ∧ (∃ a0, wr.cell? ⟨w.heap.size + 1, 0, none⟩ = some a0) ∧ (∃ a0, wr.cell? ⟨w.heap.size + 1, 1, none⟩ = some a0) ∧ (∃ a0, wr.cell? ⟨w.heap.size + 1, 2, none⟩ = some a0) ∧ ∀ j, wr.frozen? ⟨w.heap.size + 1, j, none⟩ = false := by
  obtain ⟨a0, b0, c0, t', hr⟩ := h.res
  obtain ⟨p0, p1, p2⟩ := put3_cells hr a b c
  refine ⟨p0, p1, p2, ⟨h.low.os, h.low.tape, h.low.output, by rw [put3_size]; exact h.low.size, fun k hk => ?_⟩, ownsRow_less (ownsRow_same h.own fun k hk => ?_) (by omega), ⟨a0, by rw [block_cell hr]; rfl⟩, ⟨b0, by rw [block_cell hr]; rfl⟩, ⟨c0, by rw [block_cell hr]; rfl⟩, fun j => block_frozen hr j⟩
  · rw [put3_other _ _ _ _ (by omega)]; exact h.low.block k hk
  · have := (h.own.lt k hk).1
    rw [put3_other _ _ _ _ (by omega)]
end
theorem pair_new (w : World) (a b : Value) (t : TypeId) : ∀ j u, [a, b][j]? = some u → (w.alloc (.cells #[a, b] t)).cell? ((⟨w.heap.size, 0, none⟩ : Addr).add j) = some u := by
  intro j u hu
  rw [plain_add, Nat.zero_add, block_cell (heap_alloc_new w _)]
  match j, hu with
  | 0, hu => exact hu
  | 1, hu => exact hu
  | j + 2, hu => simp at hu

set_option maxHeartbeats 3200000 in
theorem told_any {w : World} {v : Value} {s : VS} (h : StAt w v s) (hs : s.rows.length ≤ 1000) :
    Calls Tryd.prog 14 #[v] w fun e w' => ∃ v', e = .returned v' ∧ StOwn w.heap.size 55 w' v' s ∧ Below w.heap.size w w' := by
  obtain ⟨i0, hi, hz0, hz1, hz2⟩ := info_parts info_rrow
  obtain ⟨k0, rfl, hr⟩ := h
  obtain ⟨a, c, rfl, hc, hm⟩ := hr.shape
  unfold maxLen at hm
  obtain ⟨kd, n, rows⟩ := s
  dsimp only at *
  have HROW := hide hr
  have HST := hide (Tx.start w (.cells #[.int .i64 kd, .int .i64 n, .slice a rows.length c] 24) 29 55 29 kd n (.int .i64 0) (.int .i64 0) (.slice none 0 0))
  have HTK : Hid (rows.take rows.length = rows) := List.take_length
  clear hr
  go_enter Tryd.func14, Tryd.ntmps14
  go_wp2_with fail
  go_loopw [14] (fun i wr => ∃ (k : Nat) (v : Value), k ≤ rows.length ∧ i = .int .i64 (k : Int) ∧ Tx w 29 55 kd n (rows.take k) v wr) (fun i _ => rows.length - (intOf i).toNat)
  case atStart => exact ⟨0, _, Nat.zero_le _, rfl, by rw [List.take_zero]; exact unhide HST⟩
  case round =>
    obtain ⟨k, v, hk, rfl, htx⟩ := hrel
    obtain ⟨xa, xc, rfl, _⟩ := ownsRow_slice htx.own
    have hlen : (rows.take k).length = k := by simp; omega
    rw [hlen] at htx
    have HTX := hide htx
    have hlow := htx.low
    clear htx HST
    by_cases hlt : k < rows.length
    · obtain ⟨b, off, rfl, hbl, e1, e2⟩ := (unhide HROW).at k hlt
      rw [← hlow.cell (p := ⟨b, off + k * 2, none⟩) hbl] at e1
      rw [← hlow.cell (p := ⟨b, off + k * 2 + 1, none⟩) hbl] at e2
      have hne : wr.heap.size ≠ b := by have := hlow.size; omega
      have HSN := hide (List.take_succ_eq_append_getElem hlt)
      generalize rows[k]'hlt = r at *
      obtain ⟨x, y⟩ := r
      dsimp only at *
      have hx1 := fun (o : Obj) => ((unhide HTX).cells _ (under_box o)).2.2.1
      have hi0 : (0 : Int) ≤ (k : Int) := by omega
      have hi1 : (k : Int) < ((rows.length : Nat) : Int) := by omega
      have HOW := hide (unhide HTX).own
      rw [hlen] at HOW
      have HLN := hide hlen
      have hsz := (unhide HTX).size
      clear hlow hlen
      go_wp2_with (first | (at_builtin; refine wpList_append_fresh rfl _ _ 27 rfl (w.heap.size + 1 + 1 + 1) 55 i0 (.agg #[.string ⟨#[]⟩, .string ⟨#[]⟩]) 2 32 under_rrows hi hz0 hz1 hz2 rfl (by decide) _ _ _ rfl (((unhide HOW).alloc _).alloc _) ⟨wr.heap.size + 1, 0, none⟩ 1 1 [.string (S x), .string (S y)] rfl rfl (by have := pair_new (wr.alloc (.cells #[.string (S x), .string (S y)] 47)) (.string (S x)) (.string (S y)) 55; rwa [World.size_alloc] at this) ?c2 ?c3 ?c4 ?c5 ?_) | fail)
      case c2 => intro u hu; simp at hu; rcases hu with rfl | rfl <;> rfl
      case c3 => unfold maxLen; omega
      case c4 => omega
      case c5 => simp; omega
      intro v' w2 hown' hgrow _
      obtain ⟨va, vc, rfl, _⟩ := ownsRow_slice hown'
      obtain ⟨_, y1, y2⟩ := (unhide HTX).grown hgrow
      have HN := hide ((unhide HTX).step (r := (x, y)) hgrow (by rw [unhide HLN]; exact hown'))
      rw [← unhide HSN] at HN
      clear hown' hgrow hx1 e1 e2 HOW
      go_wp2_with fail
      go_roundw
      case rel => exact ⟨k + 1, _, by omega, by go_num, unhide HN⟩
      case measure => simp [intOf]; omega
    · have hkn : k = rows.length := by omega
      subst hkn
      rw [unhide HTK] at HTX
      obtain ⟨x0, x1, x2, _⟩ := (unhide HTX).cells _ (Below.refl _ _)
      obtain ⟨z0, z1, z2, zlow, zown, ⟨y0, hy0⟩, ⟨y1, hy1⟩, ⟨y2, hy2⟩, zf⟩ := (unhide HTX).done (.int .i64 kd) (.int .i64 n) (.slice xa rows.length xc)
      unfold put3 at z0 z1 z2 zlow zown
      clear hlow HTX
      go_wp2_with fail
      exact bodyPost_ret (v := .agg #[.int .i64 kd, .int .i64 n, .slice xa rows.length xc]) (by simp [results, Tryd.results14, go_sem, z0, z1, z2]) rfl ⟨_, rfl, ⟨_, rfl, zown⟩, zlow⟩

set_option maxHeartbeats 3200000 in
theorem own_any {w : World} {v : Value} {s : VS} (h : StAt w v s) (hs : s.rows.length ≤ 1000) :
    Calls Tryd.prog 9 #[v] w fun e w' => ∃ v', e = .returned v' ∧ StOwn w.heap.size 47 w' v' s ∧ Below w.heap.size w w' := by
  obtain ⟨i0, hi, hz0, hz1, hz2⟩ := info_parts info_vrow
  obtain ⟨k0, rfl, hr⟩ := h
  obtain ⟨a, c, rfl, hc, hm⟩ := hr.shape
  unfold maxLen at hm
  obtain ⟨kd, n, rows⟩ := s
  dsimp only at *
  have HROW := hide hr
  have HST := hide (Tx.start w (.cells #[.int .i64 kd, .int .i64 n, .slice a rows.length c] 29) 24 47 24 kd n (.int .i64 0) (.int .i64 0) (.slice none 0 0))
  have HTK : Hid (rows.take rows.length = rows) := List.take_length
  clear hr
  go_enter Tryd.func9, Tryd.ntmps9
  go_wp2_with fail
  go_loopw [14] (fun i wr => ∃ (k : Nat) (v : Value), k ≤ rows.length ∧ i = .int .i64 (k : Int) ∧ Tx w 24 47 kd n (rows.take k) v wr) (fun i _ => rows.length - (intOf i).toNat)
  case atStart => exact ⟨0, _, Nat.zero_le _, rfl, by rw [List.take_zero]; exact unhide HST⟩
  case round =>
    obtain ⟨k, v, hk, rfl, htx⟩ := hrel
    obtain ⟨xa, xc, rfl, _⟩ := ownsRow_slice htx.own
    have hlen : (rows.take k).length = k := by simp; omega
    rw [hlen] at htx
    have HTX := hide htx
    have hlow := htx.low
    clear htx HST
    by_cases hlt : k < rows.length
    · obtain ⟨b, off, rfl, hbl, e1, e2⟩ := (unhide HROW).at k hlt
      rw [← hlow.cell (p := ⟨b, off + k * 2, none⟩) hbl] at e1
      rw [← hlow.cell (p := ⟨b, off + k * 2 + 1, none⟩) hbl] at e2
      have hne : wr.heap.size ≠ b := by have := hlow.size; omega
      have HSN := hide (List.take_succ_eq_append_getElem hlt)
      generalize rows[k]'hlt = r at *
      obtain ⟨x, y⟩ := r
      dsimp only at *
      have hx1 := fun (o : Obj) => ((unhide HTX).cells _ (under_box o)).2.2.1
      have hi0 : (0 : Int) ≤ (k : Int) := by omega
      have hi1 : (k : Int) < ((rows.length : Nat) : Int) := by omega
      have HOW := hide (unhide HTX).own
      rw [hlen] at HOW
      have HLN := hide hlen
      have hsz := (unhide HTX).size
      clear hlow hlen
      go_wp2_with (first | (at_builtin; refine wpList_append_fresh rfl _ _ 22 rfl (w.heap.size + 1 + 1 + 1) 47 i0 (.agg #[.string ⟨#[]⟩, .string ⟨#[]⟩]) 2 32 under_vrows hi hz0 hz1 hz2 rfl (by decide) _ _ _ rfl (((unhide HOW).alloc _).alloc _) ⟨wr.heap.size + 1, 0, none⟩ 1 1 [.string (S x), .string (S y)] rfl rfl (by have := pair_new (wr.alloc (.cells #[.string (S x), .string (S y)] 55)) (.string (S x)) (.string (S y)) 47; rwa [World.size_alloc] at this) ?c2 ?c3 ?c4 ?c5 ?_) | fail)
      case c2 => intro u hu; simp at hu; rcases hu with rfl | rfl <;> rfl
      case c3 => unfold maxLen; omega
      case c4 => omega
      case c5 => simp; omega
      intro v' w2 hown' hgrow _
      obtain ⟨va, vc, rfl, _⟩ := ownsRow_slice hown'
      obtain ⟨_, y1, y2⟩ := (unhide HTX).grown hgrow
      have HN := hide ((unhide HTX).step (r := (x, y)) hgrow (by rw [unhide HLN]; exact hown'))
      rw [← unhide HSN] at HN
      clear hown' hgrow hx1 e1 e2 HOW
      go_wp2_with fail
      go_roundw
      case rel => exact ⟨k + 1, _, by omega, by go_num, unhide HN⟩
      case measure => simp [intOf]; omega
    · have hkn : k = rows.length := by omega
      subst hkn
      rw [unhide HTK] at HTX
      obtain ⟨x0, x1, x2, _⟩ := (unhide HTX).cells _ (Below.refl _ _)
      obtain ⟨z0, z1, z2, zlow, zown, ⟨y0, hy0⟩, ⟨y1, hy1⟩, ⟨y2, hy2⟩, zf⟩ := (unhide HTX).done (.int .i64 kd) (.int .i64 n) (.slice xa rows.length xc)
      unfold put3 at z0 z1 z2 zlow zown
      clear hlow HTX
      go_wp2_with fail
      exact bodyPost_ret (v := .agg #[.int .i64 kd, .int .i64 n, .slice xa rows.length xc]) (by simp [results, Tryd.results9, go_sem, z0, z1, z2]) rfl ⟨_, rfl, ⟨_, rfl, zown⟩, zlow⟩
end Go.Proofs.YtgeibmlhmljhpaaDoor
/- The contract of a state's Check. -/
namespace Go.Proofs.YtgeibmlhmljhpaaDoor
open Go.RowKit
set_option linter.unusedVariables false
set_option maxRecDepth 100000

theorem word_none (k : Int) (h : k < 1 ∨ 7 < k) : wordOf k = [] := by
  unfold wordOf
  by_cases h0 : k < 0 ∨ 8 ≤ k
  · rw [if_pos h0]
  · rw [if_neg h0]
    have : k = 0 := by omega
    subst this
    rfl
theorem word_some (k : Int) (h : ¬ (k < 1 ∨ 7 < k)) : (S (wordOf k)).toList.isEmpty = false := by
  rw [S_isEmpty]
  have hk : k = 1 ∨ k = 2 ∨ k = 3 ∨ k = 4 ∨ k = 5 ∨ k = 6 ∨ k = 7 := by omega
  rcases hk with rfl | rfl | rfl | rfl | rfl | rfl | rfl <;> rfl

set_option maxHeartbeats 3200000 in
theorem vcheck_any {w : World} {v : Value} {s : VS} (h : StAt w v s) (hw : WD w) :
    Calls Tryd.prog 12 #[v] w fun e w' => e = .returned (.int .i64 s.check) ∧ Below w.heap.size w w' := by
  have HWO := hide (fun (w1 : World) (hb : Below w.heap.size w w1) => word_any (hw.later hb) s.kind)
  have HNU := hide (fun (w1 : World) (hb : Below w.heap.size w w1) => numFits_any (h.later hb))
  have HMO := hide (fun (w1 : World) (hb : Below w.heap.size w w1) => most_any (h.later hb))
  have HCK := hide (fun (w1 : World) (hb : Below w.heap.size w w1) (i : Nat) hi => checkRow_any (h.later hb) i hi)
  obtain ⟨k, rfl, hr⟩ := h
  obtain ⟨a, c, rfl, hc, hm⟩ := hr.shape
  obtain ⟨R, hR⟩ : ∃ R, s.check = R := ⟨_, rfl⟩
  rw [hR]
  unfold VS.check at hR
  unfold maxLen at hm
  clear hr hw
  by_cases hk : s.kind < 1 ∨ 7 < s.kind
  · rw [if_pos hk] at hR
    subst hR
    rw [word_none _ hk] at HWO
    have he : (S []).toList.isEmpty = true := by rw [S_isEmpty]; rfl
    go_enter Tryd.func12, Tryd.ntmps12
    go_wp2_with fail
    refine (unhide HWO _ (under_box _)).mono ?_
    rintro e w1 ⟨rfl, rfl⟩
    go_wp2
    go_ret
    exact ⟨rfl, under_box _⟩
  rw [if_neg hk] at hR
  have he := word_some _ hk
  generalize wordOf s.kind = wd at *
  cases hn : s.numOk
  · rw [hn, if_pos rfl] at hR
    subst hR
    rw [hn] at HNU
    go_enter Tryd.func12, Tryd.ntmps12
    go_wp2_with fail
    refine (unhide HWO _ (under_box _)).mono ?_
    rintro e w1 ⟨rfl, rfl⟩
    go_wp2_with fail
    refine (unhide HNU _ (under_box _)).mono ?_
    rintro e w1 ⟨rfl, hb1⟩
    have HB := hide ((under_box _).trans (hb1.mono (by simp)))
    clear hb1
    go_wp2
    go_ret
    exact ⟨rfl, unhide HB⟩
  rw [hn, if_neg (by simp)] at hR
  rw [hn] at HNU
  clear hn hk
  have hif : R = if s.most < s.rows.length then 7 else first s.rowErr s.rows.length := hR.symm
  obtain ⟨B, hB⟩ : ∃ B : Obj, B = .cells #[.int .i64 s.kind, .int .i64 s.n, .slice a s.rows.length c] 24 (0, 0) := ⟨_, rfl⟩
  obtain ⟨c0, c1, c2⟩ := Bx.cells3 (w0 := w) hB
  have HIF := hide hif
  clear hif hR
  generalize s.most = M at *
  go_enter Tryd.func12, Tryd.ntmps12
  go_wp2_with fail
  refine (unhide HWO _ (under_box _)).mono ?_
  rintro e w1 ⟨rfl, rfl⟩
  go_wp2_with fail
  refine (unhide HNU _ (under_box _)).mono ?_
  rintro e w1 ⟨rfl, hb1⟩
  rw [← hB] at hb1
  have hst : Bx w B w1 := (Bx.start w B).below hb1
  have hstd : Bx w B w1.drew := hst.drew
  clear hb1 HWO HNU hB
  go_wp2_with fail
  go_region_held3 (fun w' => Bx w B w') (with_reducible (first | exact hstd | exact hst | (refine Bx.below ?_ (by assumption) <;> assumption)))
    (first | (go_at_call 33; refine (unhide HMO _ (Bx.low (by assumption))).mono ?_; rintro e wm ⟨rfl, hbm⟩) | fail)
  all_goals
    have hfin : Bx w B wm := Bx.below (by assumption) hbm
    have HFIN := hide hfin
    clear hbm hst hstd HMO
    have hlm := Bx.low (unhide HFIN)
    by_cases hmo : M < s.rows.length
    · have h7 : R = 7 := by rw [unhide HIF, if_pos hmo]
      subst h7
      have hgt : ((M : Nat) : Int) < ((s.rows.length : Nat) : Int) := by omega
      clear hmo HIF
      go_wp2_with fail
      go_ret
      exact ⟨rfl, hlm⟩
    have hR2 : R = first s.rowErr s.rows.length := by rw [unhide HIF, if_neg hmo]
    have hgt : ¬ ((M : Nat) : Int) < ((s.rows.length : Nat) : Int) := by omega
    have HR2 := hide hR2
    clear hmo HIF hR2
    go_wp2_with fail
    clear hlm hfin
    go_loopw [21] (fun i wr => ∃ k : Nat, k ≤ s.rows.length ∧ i = .int .i64 k ∧ first s.rowErr k = 0 ∧ Bx w B wr) (fun i _ => s.rows.length - (intOf i).toNat)
    case atStart => exact ⟨0, Nat.zero_le _, rfl, rfl, unhide HFIN⟩
    case round =>
      obtain ⟨k, hk, rfl, hf, hbw⟩ := hrel
      have HF := hide hf
      have HLW := hide hbw.low
      clear hf HFIN
      by_cases hlt : k < s.rows.length
      · have HC := hide (unhide HCK wr (unhide HLW) k hlt)
        have HC0 := hide (fun (e : s.rowErr k = 0) => first_next (unhide HF) e)
        have HC1 := hide (fun (e : s.rowErr k ≠ 0) => first_stop (unhide HF) e hlt)
        clear HCK
        obtain ⟨z, hz⟩ : ∃ z, s.rowErr k = z := ⟨_, rfl⟩
        rw [hz] at HC HC0 HC1
        clear hz
        go_wp2_with fail
        refine (unhide HC).mono ?_
        rintro e w3 ⟨rfl, hb3⟩
        have hx3 := hbw.below hb3
        have HX3 := hide hx3
        clear hb3 HC hbw HLW hx3
        by_cases hc0 : z = 0
        · have e2 : (z != 0) = false := by rw [hc0]; rfl
          have HN := hide (unhide HC0 hc0)
          clear hc0 HC0 HC1
          go_wp2_with fail
          go_roundw
          case rel => exact ⟨k + 1, by omega, by go_num, unhide HN, unhide HX3⟩
          case measure => simp [intOf]; omega
        · have e2 : (z != 0) = true := by rw [bne_iff_ne]; exact hc0
          have hRc : R = z := by rw [unhide HR2]; exact unhide HC1 hc0
          subst hRc
          clear hc0 HC0 HC1
          go_wp2_with fail
          go_ret
          exact ⟨rfl, (unhide HX3).low⟩
      · have hkn : k = s.rows.length := by omega
        have hR0 : R = 0 := by rw [unhide HR2, ← hkn]; exact unhide HF
        subst hR0
        go_wp2_with fail
        go_ret
        exact ⟨rfl, unhide HLW⟩
end Go.Proofs.YtgeibmlhmljhpaaDoor
/- The contracts of the document's row and Check. -/
namespace Go.Proofs.YtgeibmlhmljhpaaDoor
open Go.RowKit
set_option linter.unusedVariables false
set_option maxRecDepth 100000

def rErr (kd : Int) (i : Nat) (x y z : List UInt8) : Int :=
  if 24 < x.length ∨ 24 < y.length then 3
  else if y ≠ [] ∧ kd ≠ 5 ∨ (if kd = 1 then decide (x ≠ []) else if kd = 4 ∨ kd = 5 then decide (i = 0) || Codec.lt z x else if kd = 7 then decide (i = 0) || !Codec.lt x z else true) = false then 2 else 0
theorem rowErr_eq (s : VS) (i : Nat) : s.rowErr i = rErr s.kind i (s.key i) (s.val i) (s.key (i - 1)) := rfl
theorem drewN_low (w : World) (q : Nat) {B : Nat} : Below B w (w.drewN q) := ⟨rfl, rfl, rfl, Nat.le_refl _, fun k hk => rfl⟩

set_option maxHeartbeats 6400000 in
theorem rrow_any {w : World} {a : Option Addr} {c : Nat} (s : VS) (hr : Row2 w (.slice a s.rows.length c) s.rows) (i : Nat) (hi : i < s.rows.length) :
    Calls Tryd.prog 35 #[.int .i64 s.kind, .slice a s.rows.length c, .int .i64 (i : Int)] w fun e w' => e = .returned (.int .i64 (s.rowErr i)) ∧ Below w.heap.size w w' := by
  obtain ⟨_, _, e0, hc, hm⟩ := hr.shape
  injection e0 with e1 e2 e3
  subst e3
  clear e1 e2
  obtain ⟨b, off, rfl, hlt, hcell⟩ := hr.place (by omega)
  unfold maxLen at hm
  rw [rowErr_eq]
  have hk1 : w.cell? ⟨b, off + i * 2, none⟩ = some (.string (S (s.key i))) := by
    rw [(hcell i hi).1]
    simp [VS.key, List.getD, hi]
  have hv1 : w.cell? ⟨b, off + i * 2 + 1, none⟩ = some (.string (S (s.val i))) := by
    rw [(hcell i hi).2]
    simp [VS.val, List.getD, hi]
  have hk0 : 0 < i → ∀ o, (w.alloc o).cell? ⟨b, off + (i - 1) * 2, none⟩ = some (.string (S (s.key (i - 1)))) := fun h0 o => by
    have hi' : i - 1 < s.rows.length := by omega
    rw [(under_box o).cell (p := ⟨b, off + (i - 1) * 2, none⟩) hlt, (hcell (i - 1) hi').1]
    simp [VS.key, List.getD, hi']
  have hi0 : (0 : Int) ≤ (i : Int) := by omega
  have hi1 : (i : Int) < ((s.rows.length : Nat) : Int) := by omega
  have hne : w.heap.size ≠ b := by omega
  generalize s.key i = x at *
  generalize s.val i = y at *
  generalize s.key (i - 1) = z at *
  clear hcell hr
  obtain ⟨kd, n, rows⟩ := s
  dsimp only at *
  have hsx : (S x).size = x.length := rfl
  have hsy : (S y).size = y.length := rfl
  by_cases b1 : 24 < x.length
  · have hR : rErr kd i x y z = 3 := by unfold rErr; rw [if_pos (Or.inl b1)]
    have hb1 : (24 : Int) < ((x.length : Nat) : Int) := by omega
    clear hk0
    rw [hR]
    clear hR
    try clear h0
    go_enter Tryd.func35, Tryd.ntmps35
    go_wp2_with fail
    go_ret
    exact ⟨rfl, by first | exact under_box _ | exact (under_box _).trans (drewN_low _ _) | exact ((under_box _).trans (drewN_low _ _)).trans (drewN_low _ _)⟩
  have hb1 : ¬ (24 : Int) < ((x.length : Nat) : Int) := by omega
  by_cases b2 : 24 < y.length
  · have hR : rErr kd i x y z = 3 := by unfold rErr; rw [if_pos (Or.inr b2)]
    have hb2 : (24 : Int) < ((y.length : Nat) : Int) := by omega
    clear hk0
    rw [hR]
    clear hR
    try clear h0
    go_enter Tryd.func35, Tryd.ntmps35
    go_wp2_with fail
    go_ret
    exact ⟨rfl, by first | exact under_box _ | exact (under_box _).trans (drewN_low _ _) | exact ((under_box _).trans (drewN_low _ _)).trans (drewN_low _ _)⟩
  have hb2 : ¬ (24 : Int) < ((y.length : Nat) : Int) := by omega
  have hS : rErr kd i x y z = if y ≠ [] ∧ kd ≠ 5 ∨ (if kd = 1 then decide (x ≠ []) else if kd = 4 ∨ kd = 5 then decide (i = 0) || Codec.lt z x else if kd = 7 then decide (i = 0) || !Codec.lt x z else true) = false then 2 else 0 := by
    unfold rErr
    rw [if_neg (by omega)]
  have HS := hide hS
  clear hS
  by_cases hy : y ≠ [] ∧ kd ≠ 5
  · have hR : rErr kd i x y z = 2 := by rw [unhide HS, if_pos (Or.inl hy)]
    have he : (S y).toList.isEmpty = false := by rw [S_isEmpty]; cases y with | nil => exact absurd rfl hy.1 | cons _ _ => rfl
    have h5 : (kd != 5) = true := by rw [bne_iff_ne]; exact hy.2
    clear hk0 HS
    rw [hR]
    clear hR
    try clear h0
    go_enter Tryd.func35, Tryd.ntmps35
    go_wp2_with fail
    go_ret
    exact ⟨rfl, by first | exact under_box _ | exact (under_box _).trans (drewN_low _ _) | exact ((under_box _).trans (drewN_low _ _)).trans (drewN_low _ _)⟩
  by_cases c1 : kd = 1
  · subst c1
    have he : (S y).toList.isEmpty = true := by
      rw [S_isEmpty]
      cases y with
      | nil => rfl
      | cons _ _ => exact absurd ⟨by simp, by decide⟩ hy
    by_cases hx : x = []
    · have hxe : (S x).toList.isEmpty = true := by rw [S_isEmpty, hx]; rfl
      have hR : rErr 1 i x y z = 2 := by rw [unhide HS, if_pos (Or.inr (by simp [hx]))]
      clear hk0 HS hx hy
      rw [hR]
      clear hR
      try clear h0
      go_enter Tryd.func35, Tryd.ntmps35
      go_wp2_with fail
      go_ret
      exact ⟨rfl, by first | exact under_box _ | exact (under_box _).trans (drewN_low _ _) | exact ((under_box _).trans (drewN_low _ _)).trans (drewN_low _ _)⟩
    · have hxe : (S x).toList.isEmpty = false := by rw [S_isEmpty]; cases x with | nil => exact absurd rfl hx | cons _ _ => rfl
      have hR : rErr 1 i x y z = 0 := by rw [unhide HS, if_neg (by rintro (h | h); exact hy h; simp [hx] at h)]
      clear hk0 HS hx hy
      rcases Nat.eq_zero_or_pos i with h0 | h0
      · have z0 : ¬ (0 : Int) < (i : Int) := by omega
        have zd : decide (0 < i) = false := decide_eq_false (by omega)
        rw [hR]
        clear hR
        try clear h0
        go_enter Tryd.func35, Tryd.ntmps35
        go_wp2_with fail
        go_quiet (fail)
        go_wp2_with fail
        go_quiet (fail)
        go_wp2_with fail
        go_ret
        exact ⟨rfl, by first | exact under_box _ | exact (under_box _).trans (drewN_low _ _) | exact ((under_box _).trans (drewN_low _ _)).trans (drewN_low _ _)⟩
      · have z0 : (0 : Int) < (i : Int) := by omega
        have zd : decide (0 < i) = true := decide_eq_true (by omega)
        rw [hR]
        clear hR
        try clear h0
        go_enter Tryd.func35, Tryd.ntmps35
        go_wp2_with fail
        go_quiet (fail)
        go_wp2_with fail
        go_quiet (fail)
        go_wp2_with fail
        go_ret
        exact ⟨rfl, by first | exact under_box _ | exact (under_box _).trans (drewN_low _ _) | exact ((under_box _).trans (drewN_low _ _)).trans (drewN_low _ _)⟩
  have e1 : (kd == 1) = false := by rw [beq_eq_false_iff_ne]; exact c1
  by_cases c4 : kd = 4
  · subst c4
    have he : (S y).toList.isEmpty = true := by
      rw [S_isEmpty]
      cases y with
      | nil => rfl
      | cons _ _ => exact absurd ⟨by simp, by decide⟩ hy
    rcases Nat.eq_zero_or_pos i with h0 | h0
    · have z0 : ¬ (0 : Int) < (i : Int) := by omega
      have zd : decide (0 < i) = false := decide_eq_false (by omega)
      have hR : rErr 4 i x y z = 0 := by rw [unhide HS, if_neg (by rintro (h | h); exact hy h; simp [h0] at h)]
      clear hk0 HS hy
      rw [hR]
      clear hR
      try clear h0
      go_enter Tryd.func35, Tryd.ntmps35
      go_wp2_with fail
      go_quiet (fail)
      go_wp2_with fail
      go_quiet (fail)
      go_wp2_with fail
      go_ret
      exact ⟨rfl, by first | exact under_box _ | exact (under_box _).trans (drewN_low _ _) | exact ((under_box _).trans (drewN_low _ _)).trans (drewN_low _ _)⟩
    · have hc0 := hk0 h0
      have hw1 : IntKind.i64.wrap ((i : Int) - 1) = ((i - 1 : Nat) : Int) := by rw [IntKind.wrap_i64]; omega
      have hi2 : (0 : Int) ≤ ((i - 1 : Nat) : Int) := by omega
      have hi3 : ((i - 1 : Nat) : Int) < ((rows.length : Nat) : Int) := by omega
      have z0 : (0 : Int) < (i : Int) := by omega
      have zd : decide (0 < i) = true := decide_eq_true (by omega)
      have hg := S_not_lt z x
      cases hl : Codec.lt z x
      · rw [hl] at hg
        have hR : rErr 4 i x y z = 2 := by rw [unhide HS, if_pos (Or.inr (by simp [hl]; omega))]
        clear hk0 HS hy hl
        rw [hR]
        clear hR
        try clear h0
        go_enter Tryd.func35, Tryd.ntmps35
        go_wp2_with fail
        go_quiet (fail)
        go_wp2_with fail
        go_ret
        exact ⟨rfl, by first | exact under_box _ | exact (under_box _).trans (drewN_low _ _) | exact ((under_box _).trans (drewN_low _ _)).trans (drewN_low _ _)⟩
      · rw [hl] at hg
        have hR : rErr 4 i x y z = 0 := by rw [unhide HS, if_neg (by rintro (h | h); exact hy h; simp [hl] at h)]
        clear hk0 HS hy hl
        rw [hR]
        clear hR
        try clear h0
        go_enter Tryd.func35, Tryd.ntmps35
        go_wp2_with fail
        go_quiet (fail)
        go_wp2_with fail
        go_quiet (fail)
        go_wp2_with fail
        go_ret
        exact ⟨rfl, by first | exact under_box _ | exact (under_box _).trans (drewN_low _ _) | exact ((under_box _).trans (drewN_low _ _)).trans (drewN_low _ _)⟩
  have e4 : (kd == 4) = false := by rw [beq_eq_false_iff_ne]; exact c4
  by_cases c5 : kd = 5
  · subst c5
    obtain ⟨ye, hye⟩ : ∃ ye, (S y).toList.isEmpty = ye := ⟨_, rfl⟩
    rcases Nat.eq_zero_or_pos i with h0 | h0
    · have z0 : ¬ (0 : Int) < (i : Int) := by omega
      have zd : decide (0 < i) = false := decide_eq_false (by omega)
      have hR : rErr 5 i x y z = 0 := by rw [unhide HS, if_neg (by rintro (h | h); exact hy h; simp [h0] at h)]
      clear hk0 HS hy
      rw [hR]
      clear hR
      try clear h0
      go_enter Tryd.func35, Tryd.ntmps35
      go_wp2_with fail
      go_quiet (fail)
      go_wp2_with fail
      go_quiet (fail)
      go_wp2_with fail
      go_ret
      exact ⟨rfl, by first | exact under_box _ | exact (under_box _).trans (drewN_low _ _) | exact ((under_box _).trans (drewN_low _ _)).trans (drewN_low _ _)⟩
    · have hc0 := hk0 h0
      have hw1 : IntKind.i64.wrap ((i : Int) - 1) = ((i - 1 : Nat) : Int) := by rw [IntKind.wrap_i64]; omega
      have hi2 : (0 : Int) ≤ ((i - 1 : Nat) : Int) := by omega
      have hi3 : ((i - 1 : Nat) : Int) < ((rows.length : Nat) : Int) := by omega
      have z0 : (0 : Int) < (i : Int) := by omega
      have zd : decide (0 < i) = true := decide_eq_true (by omega)
      have hg := S_not_lt z x
      cases hl : Codec.lt z x
      · rw [hl] at hg
        have hR : rErr 5 i x y z = 2 := by rw [unhide HS, if_pos (Or.inr (by simp [hl]; omega))]
        clear hk0 HS hy hl
        rw [hR]
        clear hR
        try clear h0
        go_enter Tryd.func35, Tryd.ntmps35
        go_wp2_with fail
        go_quiet (fail)
        go_wp2_with fail
        go_ret
        exact ⟨rfl, by first | exact under_box _ | exact (under_box _).trans (drewN_low _ _) | exact ((under_box _).trans (drewN_low _ _)).trans (drewN_low _ _)⟩
      · rw [hl] at hg
        have hR : rErr 5 i x y z = 0 := by rw [unhide HS, if_neg (by rintro (h | h); exact hy h; simp [hl] at h)]
        clear hk0 HS hy hl
        rw [hR]
        clear hR
        try clear h0
        go_enter Tryd.func35, Tryd.ntmps35
        go_wp2_with fail
        go_quiet (fail)
        go_wp2_with fail
        go_quiet (fail)
        go_wp2_with fail
        go_ret
        exact ⟨rfl, by first | exact under_box _ | exact (under_box _).trans (drewN_low _ _) | exact ((under_box _).trans (drewN_low _ _)).trans (drewN_low _ _)⟩
  have e5 : (kd == 5) = false := by rw [beq_eq_false_iff_ne]; exact c5
  have h5 : (kd != 5) = true := by rw [bne_iff_ne]; exact c5
  have he : (S y).toList.isEmpty = true := by
    rw [S_isEmpty]
    cases y with
    | nil => rfl
    | cons _ _ => exact absurd ⟨by simp, c5⟩ hy
  by_cases c7 : kd = 7
  · subst c7
    rcases Nat.eq_zero_or_pos i with h0 | h0
    · have z0 : ¬ (0 : Int) < (i : Int) := by omega
      have zd : decide (0 < i) = false := decide_eq_false (by omega)
      have hR : rErr 7 i x y z = 0 := by rw [unhide HS, if_neg (by rintro (h | h); exact hy h; simp [h0] at h)]
      clear hk0 HS hy
      rw [hR]
      clear hR
      try clear h0
      go_enter Tryd.func35, Tryd.ntmps35
      go_wp2_with fail
      go_quiet (fail)
      go_wp2_with fail
      go_quiet (fail)
      go_wp2_with fail
      go_ret
      exact ⟨rfl, by first | exact under_box _ | exact (under_box _).trans (drewN_low _ _) | exact ((under_box _).trans (drewN_low _ _)).trans (drewN_low _ _)⟩
    · have hc0 := hk0 h0
      have hw1 : IntKind.i64.wrap ((i : Int) - 1) = ((i - 1 : Nat) : Int) := by rw [IntKind.wrap_i64]; omega
      have hi2 : (0 : Int) ≤ ((i - 1 : Nat) : Int) := by omega
      have hi3 : ((i - 1 : Nat) : Int) < ((rows.length : Nat) : Int) := by omega
      have z0 : (0 : Int) < (i : Int) := by omega
      have zd : decide (0 < i) = true := decide_eq_true (by omega)
      have hg := S_gt z x
      cases hl : Codec.lt x z
      · rw [hl] at hg
        have hg2 : (!Op.bytesLess (S z).toList (S x).toList && !(S z).toList == (S x).toList) = false := by rw [← hg]; simp
        have hR : rErr 7 i x y z = 0 := by rw [unhide HS, if_neg (by rintro (h | h); exact hy h; simp [hl] at h)]
        clear hk0 HS hy hl
        rw [hR]
        clear hR
        try clear h0
        go_enter Tryd.func35, Tryd.ntmps35
        go_wp2_with fail
        go_quiet (fail)
        go_wp2_with fail
        go_quiet (fail)
        go_wp2_with fail
        go_ret
        exact ⟨rfl, by first | exact under_box _ | exact (under_box _).trans (drewN_low _ _) | exact ((under_box _).trans (drewN_low _ _)).trans (drewN_low _ _)⟩
      · rw [hl] at hg
        have hg2 : (!Op.bytesLess (S z).toList (S x).toList && !(S z).toList == (S x).toList) = true := by rw [← hg]; simp
        have hR : rErr 7 i x y z = 2 := by rw [unhide HS, if_pos (Or.inr (by simp [hl]; omega))]
        clear hk0 HS hy hl
        rw [hR]
        clear hR
        try clear h0
        go_enter Tryd.func35, Tryd.ntmps35
        go_wp2_with fail
        go_quiet (fail)
        go_wp2_with fail
        go_quiet (fail)
        go_wp2_with fail
        go_ret
        exact ⟨rfl, by first | exact under_box _ | exact (under_box _).trans (drewN_low _ _) | exact ((under_box _).trans (drewN_low _ _)).trans (drewN_low _ _)⟩
  have e7 : (kd == 7) = false := by rw [beq_eq_false_iff_ne]; exact c7
  have hR : rErr kd i x y z = 0 := by rw [unhide HS, if_neg (by rintro (h | h); exact hy h; simp [c1, c4, c5, c7] at h)]
  clear hk0 HS hy
  rcases Nat.eq_zero_or_pos i with h0 | h0
  · have z0 : ¬ (0 : Int) < (i : Int) := by omega
    have zd : decide (0 < i) = false := decide_eq_false (by omega)
    rw [hR]
    clear hR
    try clear h0
    go_enter Tryd.func35, Tryd.ntmps35
    go_wp2_with fail
    go_quiet (fail)
    go_wp2_with fail
    go_quiet (fail)
    go_wp2_with fail
    go_ret
    exact ⟨rfl, by first | exact under_box _ | exact (under_box _).trans (drewN_low _ _) | exact ((under_box _).trans (drewN_low _ _)).trans (drewN_low _ _)⟩
  · have z0 : (0 : Int) < (i : Int) := by omega
    have zd : decide (0 < i) = true := decide_eq_true (by omega)
    rw [hR]
    clear hR
    try clear h0
    go_enter Tryd.func35, Tryd.ntmps35
    go_wp2_with fail
    go_quiet (fail)
    go_wp2_with fail
    go_quiet (fail)
    go_wp2_with fail
    go_ret
    exact ⟨rfl, by first | exact under_box _ | exact (under_box _).trans (drewN_low _ _) | exact ((under_box _).trans (drewN_low _ _)).trans (drewN_low _ _)⟩
end Go.Proofs.YtgeibmlhmljhpaaDoor
/- The contract of the document's Check. -/
namespace Go.Proofs.YtgeibmlhmljhpaaDoor
open Go.RowKit
set_option linter.unusedVariables false
set_option maxRecDepth 100000

set_option maxHeartbeats 6400000 in
theorem rcheck_any {w : World} {v : Value} {s : VS} (h : StAt w v s) :
    Calls Tryd.prog 13 #[v] w fun e w' => e = .returned (.int .i64 s.check) ∧ Below w.heap.size w w' := by
  obtain ⟨k, rfl, hr⟩ := h
  obtain ⟨a, c, rfl, hc, hm⟩ := hr.shape
  unfold maxLen at hm
  have HCK := hide (fun (w1 : World) (hb : Below w.heap.size w w1) (i : Nat) hi => rrow_any s (hr.later hb) i hi)
  obtain ⟨kd, n, rows⟩ := s
  dsimp only at *
  clear hr
  have hch : VS.check ⟨kd, n, rows⟩ = if kd < 1 ∨ 7 < kd then 6 else if VS.numOk ⟨kd, n, rows⟩ = false then 2 else if VS.most ⟨kd, n, rows⟩ < rows.length then 7 else first (VS.rowErr ⟨kd, n, rows⟩) rows.length := rfl
  obtain ⟨R, hR⟩ : ∃ R, VS.check ⟨kd, n, rows⟩ = R := ⟨_, rfl⟩
  rw [hch] at hR ⊢
  clear hch
  by_cases h1 : kd < 1
  · rw [if_pos (Or.inl h1)] at hR ⊢
    clear hR
    go_enter Tryd.func13, Tryd.ntmps13
    go_wp2_with fail
    go_ret
    exact ⟨rfl, under_box _⟩
  by_cases h7 : 7 < kd
  · rw [if_pos (Or.inr h7)] at hR ⊢
    clear hR
    go_enter Tryd.func13, Tryd.ntmps13
    go_wp2_with fail
    go_ret
    exact ⟨rfl, under_box _⟩
  rw [if_neg (by omega)] at hR ⊢
  obtain ⟨B, hB⟩ : ∃ B : Obj, B = .cells #[.int .i64 kd, .int .i64 n, .slice a rows.length c] 29 (0, 0) := ⟨_, rfl⟩
  obtain ⟨c0, c1, c2⟩ := Bx.cells3 (w0 := w) hB
  by_cases k2 : kd = 2
  · subst k2
    by_cases hz : rows.length = 0
    · have e0 : ¬ (0 : Int) < ((rows.length : Nat) : Int) := by omega
      have e0' : decide (0 < rows.length) = false := decide_eq_false (by omega)
      have e0'' : ¬ 0 < rows.length := by omega
      have e8 : ¬ (8 : Int) < ((rows.length : Nat) : Int) := by omega
      rw [if_neg (by simp [VS.numOk, hz]), if_neg (by simp [VS.most]; omega)] at hR ⊢
      have HR := hide hR.symm
      rw [hR]
      clear hR hz
      go_enter Tryd.func13, Tryd.ntmps13
      go_wp2_with fail
      rw [← hB] at *
      clear hB
      go_loopw [65] (fun i wr => ∃ k : Nat, k ≤ rows.length ∧ i = .int .i64 (k : Int) ∧ first (VS.rowErr ⟨2, n, rows⟩) k = 0 ∧ Bx w B wr) (fun i _ => rows.length - (intOf i).toNat)
      case atStart => exact ⟨0, Nat.zero_le _, rfl, rfl, Bx.start w B⟩
      case round =>
        obtain ⟨k, hk, rfl, hf, hbw⟩ := hrel
        have HF := hide hf
        have HLW := hide hbw.low
        have HBW := hide hbw
        have d0 := c0 _ hbw
        have d2 := c2 _ hbw
        clear hf hbw
        by_cases hlt : k < rows.length
        · exact absurd hlt (by omega)
        · have hkn : k = rows.length := by omega
          have hR0 : R = 0 := by rw [unhide HR, ← hkn]; exact unhide HF
          subst hR0
          go_wp2_with fail
          go_ret
          exact ⟨rfl, unhide HLW⟩
    · have e0 : (0 : Int) < ((rows.length : Nat) : Int) := by omega
      rw [if_pos (by simp [VS.numOk, hz])]
      clear hR hB c0 c1 c2
      go_enter Tryd.func13, Tryd.ntmps13
      go_wp2_with fail
      go_ret
      exact ⟨rfl, under_box _⟩
  have q2 : (kd == 2) = false := by rw [beq_eq_false_iff_ne]; exact k2
  by_cases k3 : kd = 3
  · subst k3
    by_cases hz : rows.length = 0
    · by_cases hn0 : n < 0
      · have e0 : ¬ (0 : Int) < ((rows.length : Nat) : Int) := by omega
        have e0' : decide (0 < rows.length) = false := decide_eq_false (by omega)
        have e0'' : ¬ 0 < rows.length := by omega
        rw [if_pos (by simp [VS.numOk, hz, hn0])]
        clear hR hB c0 c1 c2
        go_enter Tryd.func13, Tryd.ntmps13
        go_wp2_with fail
        go_ret
        exact ⟨rfl, under_box _⟩
      · have e0 : ¬ (0 : Int) < ((rows.length : Nat) : Int) := by omega
        have e0' : decide (0 < rows.length) = false := decide_eq_false (by omega)
        have e0'' : ¬ 0 < rows.length := by omega
        have e8 : ¬ (8 : Int) < ((rows.length : Nat) : Int) := by omega
        rw [if_neg (by simp [VS.numOk, hz, Int.not_lt.1 hn0]), if_neg (by simp [VS.most]; omega)] at hR ⊢
        have HR := hide hR.symm
        rw [hR]
        clear hR hz
        go_enter Tryd.func13, Tryd.ntmps13
        go_wp2_with fail
        rw [← hB] at *
        clear hB
        go_loopw [65] (fun i wr => ∃ k : Nat, k ≤ rows.length ∧ i = .int .i64 (k : Int) ∧ first (VS.rowErr ⟨3, n, rows⟩) k = 0 ∧ Bx w B wr) (fun i _ => rows.length - (intOf i).toNat)
        case atStart => exact ⟨0, Nat.zero_le _, rfl, rfl, Bx.start w B⟩
        case round =>
          obtain ⟨k, hk, rfl, hf, hbw⟩ := hrel
          have HF := hide hf
          have HLW := hide hbw.low
          have HBW := hide hbw
          have d0 := c0 _ hbw
          have d2 := c2 _ hbw
          clear hf hbw
          by_cases hlt : k < rows.length
          · exact absurd hlt (by omega)
          · have hkn : k = rows.length := by omega
            have hR0 : R = 0 := by rw [unhide HR, ← hkn]; exact unhide HF
            subst hR0
            go_wp2_with fail
            go_ret
            exact ⟨rfl, unhide HLW⟩
    · have e0 : (0 : Int) < ((rows.length : Nat) : Int) := by omega
      rw [if_pos (by simp [VS.numOk, hz])]
      clear hR hB c0 c1 c2
      go_enter Tryd.func13, Tryd.ntmps13
      go_wp2_with fail
      go_ret
      exact ⟨rfl, under_box _⟩
  have q3 : (kd == 3) = false := by rw [beq_eq_false_iff_ne]; exact k3
  by_cases hn : n = 0
  · subst hn
    by_cases k1 : kd = 1
    · subst k1
      by_cases hl : 1 < rows.length
      · have e1 : (1 : Int) < ((rows.length : Nat) : Int) := by omega
        by_cases h8 : 8 < rows.length
        · have e8 : (8 : Int) < ((rows.length : Nat) : Int) := by omega
          rw [if_neg (by simp [VS.numOk]), if_pos (by simp [VS.most]; omega)]
          clear hR hB c0 c1 c2
          go_enter Tryd.func13, Tryd.ntmps13
          go_wp2_with fail
          go_ret
          exact ⟨rfl, under_box _⟩
        · have e8 : ¬ (8 : Int) < ((rows.length : Nat) : Int) := by omega
          rw [if_neg (by simp [VS.numOk]), if_pos (by simp [VS.most]; omega)]
          clear hR hB c0 c1 c2
          go_enter Tryd.func13, Tryd.ntmps13
          go_wp2_with fail
          go_ret
          exact ⟨rfl, under_box _⟩
      · have e1 : ¬ (1 : Int) < ((rows.length : Nat) : Int) := by omega
        have e8 : ¬ (8 : Int) < ((rows.length : Nat) : Int) := by omega
        rw [if_neg (by simp [VS.numOk]), if_neg (by simp [VS.most]; omega)] at hR ⊢
        have HR := hide hR.symm
        rw [hR]
        clear hR
        go_enter Tryd.func13, Tryd.ntmps13
        go_wp2_with fail
        rw [← hB] at *
        clear hB
        go_loopw [65] (fun i wr => ∃ k : Nat, k ≤ rows.length ∧ i = .int .i64 (k : Int) ∧ first (VS.rowErr ⟨1, 0, rows⟩) k = 0 ∧ Bx w B wr) (fun i _ => rows.length - (intOf i).toNat)
        case atStart => exact ⟨0, Nat.zero_le _, rfl, rfl, Bx.start w B⟩
        case round =>
          obtain ⟨k, hk, rfl, hf, hbw⟩ := hrel
          have HF := hide hf
          have HLW := hide hbw.low
          have HBW := hide hbw
          have d0 := c0 _ hbw
          have d2 := c2 _ hbw
          clear hf hbw
          by_cases hlt : k < rows.length
          · have HC := hide (fun (w1 : World) (hb : Below w.heap.size w w1) => unhide HCK w1 hb k hlt)
            have HC0 := hide (fun (e : VS.rowErr ⟨1, 0, rows⟩ k = 0) => first_next (unhide HF) e)
            have HC1 := hide (fun (e : VS.rowErr ⟨1, 0, rows⟩ k ≠ 0) => first_stop (unhide HF) e hlt)
            clear HCK
            obtain ⟨z, hz⟩ : ∃ z, VS.rowErr ⟨1, 0, rows⟩ k = z := ⟨_, rfl⟩
            rw [hz] at HC HC0 HC1
            clear hz
            go_wp2_with fail
            refine (unhide HC _ (unhide HLW)).mono ?_
            rintro e w3 ⟨rfl, hb3⟩
            have hx3 := (unhide HBW).below hb3
            have HX3 := hide hx3
            have f0 := c0 _ hx3
            have f2 := c2 _ hx3
            clear hb3 hx3 d0 d2
            by_cases hz0 : z = 0
            · have e2 : (z != 0) = false := by rw [hz0]; rfl
              have HN := hide (unhide HC0 hz0)
              clear hz0 HC0 HC1
              go_wp2_with fail
              go_roundw
              case rel => exact ⟨k + 1, by omega, by go_num, unhide HN, unhide HX3⟩
              case measure => simp [intOf]; omega
            · have e2 : (z != 0) = true := by rw [bne_iff_ne]; exact hz0
              have hRc : R = z := by rw [unhide HR]; exact unhide HC1 hz0
              subst hRc
              clear hz0 HC0 HC1
              go_wp2_with fail
              refine (unhide HC _ (unhide HX3).low).mono ?_
              rintro e w4 ⟨rfl, hb4⟩
              have HX4 := hide (((unhide HX3).below hb4).low)
              clear hb4
              go_wp2_with fail
              go_ret
              exact ⟨rfl, unhide HX4⟩
          · have hkn : k = rows.length := by omega
            have hR0 : R = 0 := by rw [unhide HR, ← hkn]; exact unhide HF
            subst hR0
            go_wp2_with fail
            go_ret
            exact ⟨rfl, unhide HLW⟩
    have q1 : (kd == 1) = false := by rw [beq_eq_false_iff_ne]; exact k1
    by_cases h8 : 8 < rows.length
    · have e8 : (8 : Int) < ((rows.length : Nat) : Int) := by omega
      rw [if_neg (by simp [VS.numOk, k2, k3]), if_pos (by simp [VS.most, k1]; omega)]
      clear hR hB c0 c1 c2
      go_enter Tryd.func13, Tryd.ntmps13
      go_wp2_with fail
      go_ret
      exact ⟨rfl, under_box _⟩
    · have e8 : ¬ (8 : Int) < ((rows.length : Nat) : Int) := by omega
      rw [if_neg (by simp [VS.numOk, k2, k3]), if_neg (by simp [VS.most, k1]; omega)] at hR ⊢
      have HR := hide hR.symm
      rw [hR]
      clear hR
      go_enter Tryd.func13, Tryd.ntmps13
      go_wp2_with fail
      rw [← hB] at *
      clear hB
      go_loopw [65] (fun i wr => ∃ k : Nat, k ≤ rows.length ∧ i = .int .i64 (k : Int) ∧ first (VS.rowErr ⟨kd, 0, rows⟩) k = 0 ∧ Bx w B wr) (fun i _ => rows.length - (intOf i).toNat)
      case atStart => exact ⟨0, Nat.zero_le _, rfl, rfl, Bx.start w B⟩
      case round =>
        obtain ⟨k, hk, rfl, hf, hbw⟩ := hrel
        have HF := hide hf
        have HLW := hide hbw.low
        have HBW := hide hbw
        have d0 := c0 _ hbw
        have d2 := c2 _ hbw
        clear hf hbw
        by_cases hlt : k < rows.length
        · have HC := hide (fun (w1 : World) (hb : Below w.heap.size w w1) => unhide HCK w1 hb k hlt)
          have HC0 := hide (fun (e : VS.rowErr ⟨kd, 0, rows⟩ k = 0) => first_next (unhide HF) e)
          have HC1 := hide (fun (e : VS.rowErr ⟨kd, 0, rows⟩ k ≠ 0) => first_stop (unhide HF) e hlt)
          clear HCK
          obtain ⟨z, hz⟩ : ∃ z, VS.rowErr ⟨kd, 0, rows⟩ k = z := ⟨_, rfl⟩
          rw [hz] at HC HC0 HC1
          clear hz
          go_wp2_with fail
          refine (unhide HC _ (unhide HLW)).mono ?_
          rintro e w3 ⟨rfl, hb3⟩
          have hx3 := (unhide HBW).below hb3
          have HX3 := hide hx3
          have f0 := c0 _ hx3
          have f2 := c2 _ hx3
          clear hb3 hx3 d0 d2
          by_cases hz0 : z = 0
          · have e2 : (z != 0) = false := by rw [hz0]; rfl
            have HN := hide (unhide HC0 hz0)
            clear hz0 HC0 HC1
            go_wp2_with fail
            go_roundw
            case rel => exact ⟨k + 1, by omega, by go_num, unhide HN, unhide HX3⟩
            case measure => simp [intOf]; omega
          · have e2 : (z != 0) = true := by rw [bne_iff_ne]; exact hz0
            have hRc : R = z := by rw [unhide HR]; exact unhide HC1 hz0
            subst hRc
            clear hz0 HC0 HC1
            go_wp2_with fail
            refine (unhide HC _ (unhide HX3).low).mono ?_
            rintro e w4 ⟨rfl, hb4⟩
            have HX4 := hide (((unhide HX3).below hb4).low)
            clear hb4
            go_wp2_with fail
            go_ret
            exact ⟨rfl, unhide HX4⟩
        · have hkn : k = rows.length := by omega
          have hR0 : R = 0 := by rw [unhide HR, ← hkn]; exact unhide HF
          subst hR0
          go_wp2_with fail
          go_ret
          exact ⟨rfl, unhide HLW⟩
  · have en : (n != 0) = true := by rw [bne_iff_ne]; exact hn
    rw [if_pos (by simp [VS.numOk, k2, k3, hn])]
    clear hR hB c0 c1 c2
    go_enter Tryd.func13, Tryd.ntmps13
    go_wp2_with fail
    go_ret
    exact ⟨rfl, under_box _⟩
end Go.Proofs.YtgeibmlhmljhpaaDoor
/- The contract of the document's With. -/
namespace Go.Proofs.YtgeibmlhmljhpaaDoor
open Go.RowKit
set_option linter.unusedVariables false
set_option maxRecDepth 100000

/- A row more, ahead of the first whose key is above its. -/
def putF (r : List UInt8 × List UInt8) : List (List UInt8 × List UInt8) → List (List UInt8 × List UInt8)
  | [] => [r]
  | x :: t => if Codec.lt r.1 x.1 = true then r :: x :: t else x :: putF r t
def putG (kd : Int) (r : List UInt8 × List UInt8) (l : List (List UInt8 × List UInt8)) : List (List UInt8 × List UInt8) := if kd = 6 then l ++ [r] else putF r l
def VS.rwith (s : VS) (r : List UInt8 × List UInt8) : VS := ⟨s.kind, s.n, putG s.kind r s.rows⟩
/- How far it is: what has been laid, and what is still to come, are the whole. -/
def Half (kd : Int) (r : List UInt8 × List UInt8) (rows out : List (List UInt8 × List UInt8)) (k : Nat) (dn : Bool) : Prop :=
  if dn then putG kd r rows = out ++ rows.drop k else out = rows.take k ∧ putG kd r rows = rows.take k ++ putG kd r (rows.drop k)
theorem Half.start (kd : Int) (r : List UInt8 × List UInt8) (rows : List (List UInt8 × List UInt8)) : Half kd r rows [] 0 false := ⟨rfl, rfl⟩
theorem Half.on {kd : Int} {r : List UInt8 × List UInt8} {rows out : List (List UInt8 × List UInt8)} {k : Nat} (h : Half kd r rows out k true) (hk : k < rows.length) : Half kd r rows (out ++ [rows[k]'hk]) (k + 1) true := by
  have h' : putG kd r rows = out ++ rows.drop k := h
  show putG kd r rows = _
  rw [h', List.drop_eq_getElem_cons hk]
  simp
theorem Half.by {kd : Int} {r : List UInt8 × List UInt8} {rows out : List (List UInt8 × List UInt8)} {k : Nat} (h : Half kd r rows out k false) (hk : k < rows.length) (hn : kd = 6 ∨ Codec.lt r.1 (rows[k]'hk).1 = false) : Half kd r rows (out ++ [rows[k]'hk]) (k + 1) false := by
  obtain ⟨h1, h2⟩ := (show out = rows.take k ∧ putG kd r rows = rows.take k ++ putG kd r (rows.drop k) from h)
  have e : putG kd r (rows.drop k) = rows[k]'hk :: putG kd r (rows.drop (k + 1)) := by
    rw [List.drop_eq_getElem_cons hk]
    unfold putG
    by_cases h6 : kd = 6
    · rw [if_pos h6, if_pos h6]; rfl
    · rw [if_neg h6, if_neg h6]
      show (if Codec.lt r.1 (rows[k]'hk).1 = true then _ else _) = _
      rw [if_neg (by rw [hn.resolve_left h6]; simp)]
  refine ⟨by rw [h1, List.take_succ_eq_append_getElem hk], ?_⟩
  rw [h2, e, List.take_succ_eq_append_getElem hk, List.append_assoc]
  rfl
theorem Half.here {kd : Int} {r : List UInt8 × List UInt8} {rows out : List (List UInt8 × List UInt8)} {k : Nat} (h : Half kd r rows out k false) (hk : k < rows.length) (h6 : kd ≠ 6) (hl : Codec.lt r.1 (rows[k]'hk).1 = true) : Half kd r rows (out ++ [r] ++ [rows[k]'hk]) (k + 1) true := by
  obtain ⟨h1, h2⟩ := (show out = rows.take k ∧ putG kd r rows = rows.take k ++ putG kd r (rows.drop k) from h)
  show putG kd r rows = _
  have e : putG kd r (rows.drop k) = r :: rows[k]'hk :: rows.drop (k + 1) := by
    rw [List.drop_eq_getElem_cons hk]
    unfold putG
    rw [if_neg h6]
    show (if Codec.lt r.1 (rows[k]'hk).1 = true then _ else _) = _
    rw [if_pos hl]
  rw [h2, e, h1]
  simp
theorem Half.last {kd : Int} {r : List UInt8 × List UInt8} {rows out : List (List UInt8 × List UInt8)} (h : Half kd r rows out rows.length false) : putG kd r rows = out ++ [r] := by
  obtain ⟨h1, h2⟩ := (show out = rows.take rows.length ∧ putG kd r rows = rows.take rows.length ++ putG kd r (rows.drop rows.length) from h)
  rw [h2, h1, List.drop_length]
  unfold putG putF
  split <;> rfl
theorem Half.full {kd : Int} {r : List UInt8 × List UInt8} {rows out : List (List UInt8 × List UInt8)} (h : Half kd r rows out rows.length true) : putG kd r rows = out := by
  have h' : putG kd r rows = out ++ rows.drop rows.length := h
  rw [h', List.drop_length, List.append_nil]
theorem Bw.lower {w wr w' : World} {kd n sl x y : Value} (h : Bw w kd n sl x y wr) (hb : Below (w.heap.size + 1 + 1 + 1) wr w') : Bw w kd n sl x y w' := by
  have hs := h.size
  obtain ⟨t1, h1⟩ := h.st
  obtain ⟨t2, h2⟩ := h.row
  obtain ⟨a, b, c, t3, h3⟩ := h.res
  exact ⟨h.low.trans (hb.mono (by omega)), Nat.le_trans hs hb.size, ⟨t1, (hb.block _ (by omega)).trans h1⟩, ⟨t2, (hb.block _ (by omega)).trans h2⟩, ⟨a, b, c, t3, (hb.block _ (by omega)).trans h3⟩⟩
theorem own_none (w : World) (base : Nat) (e : TypeId) (hb : base ≤ w.heap.size) {g : Nat} (hg : w.heap.size = g) : (w.alloc (.cells #[] e)).ownsRow base e 2 (.slice (some ⟨g, 0, none⟩) 0 0) 0 [] := by
  subst hg
  exact ⟨rfl, Or.inr ⟨w.heap.size, 0, #[], rfl, hb, heap_alloc_new w _, Nat.le_refl _, Nat.zero_le _, rfl, rfl⟩⟩
/- The end: the new rows are laid beside the state's type and number. -/
theorem Bw.end {w wr : World} {kd n sl x y : Value} (h : Bw w kd n sl x y wr) (a b c : Value) :
    (put3 wr (w.heap.size + 1 + 1) a b c).cell? ⟨w.heap.size + 1 + 1, 0, none⟩ = some a ∧ (put3 wr (w.heap.size + 1 + 1) a b c).cell? ⟨w.heap.size + 1 + 1, 1, none⟩ = some b ∧ (put3 wr (w.heap.size + 1 + 1) a b c).cell? ⟨w.heap.size + 1 + 1, 2, none⟩ = some c ∧
    Below w.heap.size w (put3 wr (w.heap.size + 1 + 1) a b c) ∧ (∀ (u : Value) (nn : Nat) (xs : List Value) (e : TypeId), wr.ownsRow (w.heap.size + 1 + 1 + 1) e 2 u nn xs → (put3 wr (w.heap.size + 1 + 1) a b c).ownsRow w.heap.size e 2 u nn xs) ∧
    (∃ a0, wr.cell? ⟨w.heap.size + 1 + 1, 0, none⟩ = some a0) ∧ (∃ a0, wr.cell? ⟨w.heap.size + 1 + 1, 1, none⟩ = some a0) ∧ (∃ a0, wr.cell? ⟨w.heap.size + 1 + 1, 2, none⟩ = some a0) := by
  obtain ⟨a0, b0, c0, t3, h3⟩ := h.res
  obtain ⟨p0, p1, p2⟩ := put3_cells h3 a b c
  refine ⟨p0, p1, p2, ⟨h.low.os, h.low.tape, h.low.output, by rw [put3_size]; exact h.low.size, fun k hk => ?_⟩, fun u nn xs e hu => ownsRow_less (ownsRow_same hu fun k hk => ?_) (by omega), ⟨a0, by rw [block_cell h3]; rfl⟩, ⟨b0, by rw [block_cell h3]; rfl⟩, ⟨c0, by rw [block_cell h3]; rfl⟩⟩
  · rw [put3_other _ _ _ _ (by omega)]; exact h.low.block k hk
  · have := (hu.lt k hk).1
    rw [put3_other _ _ _ _ (by omega)]

set_option maxHeartbeats 6400000 in
theorem rwith_any {w : World} {v : Value} {s : VS} (h : StAt w v s) (hs : s.rows.length ≤ 1000) (r : List UInt8 × List UInt8) :
    Calls Tryd.prog 27 #[v, .agg #[.string (S r.1), .string (S r.2)]] w fun e w' => ∃ v', e = .returned v' ∧ StOwn w.heap.size 55 w' v' (s.rwith r) ∧ Below w.heap.size w w' := by
  obtain ⟨i0, hi, hz0, hz1, hz2⟩ := info_parts info_rrow
  obtain ⟨k0, rfl, hr⟩ := h
  obtain ⟨a, c, rfl, hc, hm⟩ := hr.shape
  unfold maxLen at hm
  obtain ⟨x, y⟩ := r
  obtain ⟨kd, n, rows⟩ := s
  dsimp only at *
  have HROW := hide hr
  have hrw : VS.rwith ⟨kd, n, rows⟩ (x, y) = ⟨kd, n, putG kd (x, y) rows⟩ := rfl
  rw [hrw]
  have HST := hide (Bw.start w (.int .i64 kd) (.int .i64 n) (.slice a rows.length c) (.string (S x)) (.string (S y)) (.int .i64 0) (.int .i64 0) (.slice none 0 0) 29 55 29)
  have HHS := hide (Half.start kd (x, y) rows)
  clear hr hrw
  go_enter Tryd.func27, Tryd.ntmps27
  go_wp2_with fail
  go_loopw [5, 6, 13] (fun o d i wr => ∃ (k : Nat) (out : List (List UInt8 × List UInt8)) (dn : Bool), k ≤ rows.length ∧ i = .int .i64 (k : Int) ∧ d = .bool dn ∧ wr.ownsRow (w.heap.size + 1 + 1 + 1) 55 2 o out.length (R9 out) ∧ Bw w (.int .i64 kd) (.int .i64 n) (.slice a rows.length c) (.string (S x)) (.string (S y)) wr ∧ out.length ≤ k + 1 ∧ Half kd (x, y) rows out k dn) (fun _ _ i _ => rows.length - (intOf i).toNat)
  case atStart => exact ⟨0, [], false, Nat.zero_le _, rfl, rfl, own_none _ _ _ (unhide HST).size (by simp), (unhide HST).below (under_box _), by simp, unhide HHS⟩
  case round =>
    obtain ⟨k, out, dn, hk, rfl, rfl, hown, hbw, hlo, hhf⟩ := hrel
    obtain ⟨oa, oc, rfl, _⟩ := ownsRow_slice hown
    have HOW := hide hown
    have HBW := hide hbw
    have HLO := hide hlo
    have HLK : Hid (dn = false → out.length ≤ k) := fun e => by subst e; rw [hhf.1]; simp; omega
    have hlow := hbw.low
    have HSZ : Hid (w.heap.size + 1 + 1 + 1 ≤ wr.heap.size) := hbw.size
    by_cases hlt : k < rows.length
    · obtain ⟨b, off, rfl, hbl, e1, e2⟩ := (unhide HROW).at k hlt
      rw [← hlow.cell (p := ⟨b, off + k * 2, none⟩) hbl] at e1
      rw [← hlow.cell (p := ⟨b, off + k * 2 + 1, none⟩) hbl] at e2
      have hne : wr.heap.size ≠ b := by have := hlow.size; omega
      have HON : Hid (dn = true → Half kd (x, y) rows (out ++ [rows[k]'hlt]) (k + 1) true) := fun e => by subst e; exact hhf.on hlt
      have HBY : Hid (dn = false → (kd = 6 ∨ Codec.lt x (rows[k]'hlt).1 = false) → Half kd (x, y) rows (out ++ [rows[k]'hlt]) (k + 1) false) := fun e h => by subst e; exact hhf.by hlt h
      have HHE : Hid (dn = false → kd ≠ 6 → Codec.lt x (rows[k]'hlt).1 = true → Half kd (x, y) rows (out ++ [(x, y)] ++ [rows[k]'hlt]) (k + 1) true) := fun e h6 hl => by subst e; exact hhf.here hlt h6 hl
      generalize rows[k]'hlt = r at *
      obtain ⟨p, q⟩ := r
      dsimp only at *
      have A0 := fun o => (hbw.below (under_box o)).facts
      have s0 := fun o => (A0 o).1.1
      have r0 := fun o => (A0 o).2.1.1
      have r1 := fun o => (A0 o).2.1.2
      have hi0 : (0 : Int) ≤ (k : Int) := by omega
      have hi1 : (k : Int) < ((rows.length : Nat) : Int) := by omega
      have hg := S_gt p x
      clear A0 hhf hlow hown hbw HST HHS HROW
      cases dn
      · by_cases h6 : kd = 6
        · have e6 : (kd != 6) = false := by rw [h6]; rfl
          have HF := hide (unhide HBY rfl (Or.inl h6))
          clear HBY HHE HON h6 hg
          go_wp2_with (first | (at_builtin; refine wpList_append_fresh rfl _ _ 27 rfl (w.heap.size + 1 + 1 + 1) 55 i0 (.agg #[.string ⟨#[]⟩, .string ⟨#[]⟩]) 2 32 under_rrows hi hz0 hz1 hz2 rfl (by decide) _ _ _ rfl (((unhide HOW).alloc _).alloc _) ⟨wr.heap.size + 1, 0, none⟩ 1 1 [.string (S p), .string (S q)] rfl rfl (by have := pair_new (wr.alloc (.cells #[.string (S p), .string (S q)] 55)) (.string (S p)) (.string (S q)) 55; first | exact this | rwa [World.size_alloc] at this) ?c2 ?c3 ?c4 ?c5 ?_) | fail)
          case c2 => first | (intro u hu; simp at hu; rcases hu with rfl | rfl <;> rfl) | exact ⟨rfl, rfl⟩
          case c3 => unfold maxLen; omega
          case c4 => omega
          case c5 => first | (have := unhide HSZ; simp; omega) | (simp; omega) | omega
          intro v' w2 hown' hgrow _
          obtain ⟨va, vc, rfl, _⟩ := ownsRow_slice hown'
          have hb2 : Below (w.heap.size + 1 + 1 + 1) wr w2 := (((Below.refl (w.heap.size + 1 + 1 + 1) wr).alloc (unhide HSZ) _).alloc (by have := unhide HSZ; simp; omega) _).grown hgrow (by have := unhide HSZ; simp; omega) (fun j hj => ((unhide HOW).lt j hj).1)
          have HB2 := hide ((unhide HBW).lower hb2)
          have HN : Hid (w2.ownsRow (w.heap.size + 1 + 1 + 1) 55 2 (.slice va (out.length + 1) vc) (out ++ [(p, q)]).length (R9 (out ++ [(p, q)]))) := by
            show World.ownsRow _ _ _ _ _ _ _
            rw [List.length_append, R9_append]
            exact hown'
          clear hown' hgrow hb2
          go_wp2_with fail
          go_roundw
          case rel => exact ⟨k + 1, _, false, by omega, by go_num, rfl, by simpa using unhide HN, unhide HB2, by have := unhide HLO; simp; omega, unhide HF⟩
          case measure => simp [intOf]; omega
        · have e6 : (kd != 6) = true := by rw [bne_iff_ne]; exact h6
          cases hl : Codec.lt x p
          · rw [hl] at hg
            have hg2 : (!Op.bytesLess (S p).toList (S x).toList && !(S p).toList == (S x).toList) = false := by rw [← hg]; simp
            have HF := hide (unhide HBY rfl (Or.inr hl))
            clear HBY HHE HON h6 hl
            go_wp2_with (first | (at_builtin; refine wpList_append_fresh rfl _ _ 27 rfl (w.heap.size + 1 + 1 + 1) 55 i0 (.agg #[.string ⟨#[]⟩, .string ⟨#[]⟩]) 2 32 under_rrows hi hz0 hz1 hz2 rfl (by decide) _ _ _ rfl (((unhide HOW).alloc _).alloc _) ⟨wr.heap.size + 1, 0, none⟩ 1 1 [.string (S p), .string (S q)] rfl rfl (by have := pair_new (wr.alloc (.cells #[.string (S p), .string (S q)] 55)) (.string (S p)) (.string (S q)) 55; first | exact this | rwa [World.size_alloc] at this) ?c2 ?c3 ?c4 ?c5 ?_) | fail)
            case c2 => first | (intro u hu; simp at hu; rcases hu with rfl | rfl <;> rfl) | exact ⟨rfl, rfl⟩
            case c3 => unfold maxLen; omega
            case c4 => omega
            case c5 => first | (have := unhide HSZ; simp; omega) | (simp; omega) | omega
            intro v' w2 hown' hgrow _
            obtain ⟨va, vc, rfl, _⟩ := ownsRow_slice hown'
            have hb2 : Below (w.heap.size + 1 + 1 + 1) wr w2 := (((Below.refl (w.heap.size + 1 + 1 + 1) wr).alloc (unhide HSZ) _).alloc (by have := unhide HSZ; simp; omega) _).grown hgrow (by have := unhide HSZ; simp; omega) (fun j hj => ((unhide HOW).lt j hj).1)
            have HB2 := hide ((unhide HBW).lower hb2)
            have HN : Hid (w2.ownsRow (w.heap.size + 1 + 1 + 1) 55 2 (.slice va (out.length + 1) vc) (out ++ [(p, q)]).length (R9 (out ++ [(p, q)]))) := by
              show World.ownsRow _ _ _ _ _ _ _
              rw [List.length_append, R9_append]
              exact hown'
            clear hown' hgrow hb2
            go_wp2_with fail
            go_roundw
            case rel => exact ⟨k + 1, _, false, by omega, by go_num, rfl, by simpa using unhide HN, unhide HB2, by have := unhide HLO; simp; omega, unhide HF⟩
            case measure => simp [intOf]; omega
          · rw [hl] at hg
            have hg2 : (!Op.bytesLess (S p).toList (S x).toList && !(S p).toList == (S x).toList) = true := by rw [← hg]; simp
            have HF := hide (unhide HHE rfl h6 hl)
            clear HBY HHE HON h6 hl
            go_wp2_with (first | (at_builtin; refine wpList_append_fresh rfl _ _ 27 rfl (w.heap.size + 1 + 1 + 1) 55 i0 (.agg #[.string ⟨#[]⟩, .string ⟨#[]⟩]) 2 32 under_rrows hi hz0 hz1 hz2 rfl (by decide) _ _ _ rfl (((unhide HOW).alloc _).alloc _) ⟨wr.heap.size + 1, 0, none⟩ 1 1 [.string (S x), .string (S y)] rfl rfl (by have := pair_new (wr.alloc (.cells #[.string (S p), .string (S q)] 55)) (.string (S x)) (.string (S y)) 55; first | exact this | rwa [World.size_alloc] at this) ?c2 ?c3 ?c4 ?c5 ?_) | fail)
            case c2 => first | (intro u hu; simp at hu; rcases hu with rfl | rfl <;> rfl) | exact ⟨rfl, rfl⟩
            case c3 => unfold maxLen; omega
            case c4 => omega
            case c5 => first | (have := unhide HSZ; simp; omega) | (simp; omega) | omega
            intro v' w2 hown' hgrow _
            obtain ⟨va, vc, rfl, _⟩ := ownsRow_slice hown'
            have hb2 : Below (w.heap.size + 1 + 1 + 1) wr w2 := (((Below.refl (w.heap.size + 1 + 1 + 1) wr).alloc (unhide HSZ) _).alloc (by have := unhide HSZ; simp; omega) _).grown hgrow (by have := unhide HSZ; simp; omega) (fun j hj => ((unhide HOW).lt j hj).1)
            have hxb : w2.heap[wr.heap.size]? = some (.cells #[.string (S p), .string (S q)] 55 (0, 0)) := by
              rw [hgrow.block wr.heap.size (by simp; omega) (fun e => by have := ((unhide HOW).lt _ e.symm).2; omega), Below.heap_alloc _ _ _ (by simp)]
              exact heap_alloc_new wr _
            have x0 : w2.cell? ⟨wr.heap.size, 0, none⟩ = some (.string (S p)) := by rw [block_cell hxb]; rfl
            have x1 : w2.cell? ⟨wr.heap.size, 1, none⟩ = some (.string (S q)) := by rw [block_cell hxb]; rfl
            have HB2 := hide ((unhide HBW).lower hb2)
            have hsz2 : w.heap.size + 1 + 1 + 1 ≤ w2.heap.size := (unhide HB2).size
            have HOW2 := hide hown'
            clear hown' hgrow hb2 hxb e1 e2 s0 r0 r1
            go_wp2_with (first | (at_builtin; refine wpList_append_fresh rfl _ _ 27 rfl (w.heap.size + 1 + 1 + 1) 55 i0 (.agg #[.string ⟨#[]⟩, .string ⟨#[]⟩]) 2 32 under_rrows hi hz0 hz1 hz2 rfl (by decide) _ _ _ rfl ((unhide HOW2).alloc _) ⟨w2.heap.size, 0, none⟩ 1 1 [.string (S p), .string (S q)] rfl rfl (by have := pair_new (w2) (.string (S p)) (.string (S q)) 55; first | exact this | rwa [World.size_alloc] at this) ?c2 ?c3 ?c4 ?c5 ?_) | fail)
            case c2 => first | (intro u hu; simp at hu; rcases hu with rfl | rfl <;> rfl) | exact ⟨rfl, rfl⟩
            case c3 => unfold maxLen; omega
            case c4 => omega
            case c5 => first | (have := unhide HSZ; simp; omega) | (simp; omega) | omega
            intro v' w3 hown' hgrow _
            obtain ⟨ua, uc, rfl, _⟩ := ownsRow_slice hown'
            have hb3 : Below (w.heap.size + 1 + 1 + 1) w2 w3 := ((Below.refl (w.heap.size + 1 + 1 + 1) w2).alloc hsz2 _).grown hgrow (by simp; omega) (fun j hj => ((unhide HOW2).lt j hj).1)
            have HB3 := hide ((unhide HB2).lower hb3)
            have HN : Hid (w3.ownsRow (w.heap.size + 1 + 1 + 1) 55 2 (.slice ua (out.length + 1 + 1) uc) (out ++ [(x, y)] ++ [(p, q)]).length (R9 (out ++ [(x, y)] ++ [(p, q)]))) := by
              show World.ownsRow _ _ _ _ _ _ _
              rw [List.length_append, List.length_append, R9_append, R9_append]
              simpa [R9] using hown'
            clear hown' hgrow hb3
            go_wp2_with fail
            go_roundw
            case rel => exact ⟨k + 1, _, true, by omega, by go_num, rfl, by simpa using unhide HN, unhide HB3, by have := unhide HLK (by first | rfl | trivial); simp; omega, unhide HF⟩
            case measure => simp [intOf]; omega
      · have HF := hide (unhide HON rfl)
        clear HBY HHE HON hg
        go_wp2_with (first | (at_builtin; refine wpList_append_fresh rfl _ _ 27 rfl (w.heap.size + 1 + 1 + 1) 55 i0 (.agg #[.string ⟨#[]⟩, .string ⟨#[]⟩]) 2 32 under_rrows hi hz0 hz1 hz2 rfl (by decide) _ _ _ rfl (((unhide HOW).alloc _).alloc _) ⟨wr.heap.size + 1, 0, none⟩ 1 1 [.string (S p), .string (S q)] rfl rfl (by have := pair_new (wr.alloc (.cells #[.string (S p), .string (S q)] 55)) (.string (S p)) (.string (S q)) 55; first | exact this | rwa [World.size_alloc] at this) ?c2 ?c3 ?c4 ?c5 ?_) | fail)
        case c2 => first | (intro u hu; simp at hu; rcases hu with rfl | rfl <;> rfl) | exact ⟨rfl, rfl⟩
        case c3 => unfold maxLen; omega
        case c4 => omega
        case c5 => first | (have := unhide HSZ; simp; omega) | (simp; omega) | omega
        intro v' w2 hown' hgrow _
        obtain ⟨va, vc, rfl, _⟩ := ownsRow_slice hown'
        have hb2 : Below (w.heap.size + 1 + 1 + 1) wr w2 := (((Below.refl (w.heap.size + 1 + 1 + 1) wr).alloc (unhide HSZ) _).alloc (by have := unhide HSZ; simp; omega) _).grown hgrow (by have := unhide HSZ; simp; omega) (fun j hj => ((unhide HOW).lt j hj).1)
        have HB2 := hide ((unhide HBW).lower hb2)
        have HN : Hid (w2.ownsRow (w.heap.size + 1 + 1 + 1) 55 2 (.slice va (out.length + 1) vc) (out ++ [(p, q)]).length (R9 (out ++ [(p, q)]))) := by
          show World.ownsRow _ _ _ _ _ _ _
          rw [List.length_append, R9_append]
          exact hown'
        clear hown' hgrow hb2
        go_wp2_with fail
        go_roundw
        case rel => exact ⟨k + 1, _, true, by omega, by go_num, rfl, by simpa using unhide HN, unhide HB2, by have := unhide HLO; simp; omega, unhide HF⟩
        case measure => simp [intOf]; omega
    · have hkn : k = rows.length := by omega
      subst hkn
      obtain ⟨⟨p0, p1, p2⟩, ⟨r0, r1⟩, f2, f3⟩ := hbw.facts
      cases dn
      · have HF := hide hhf.last
        clear hhf hown hbw
        go_wp2_with (first | (at_builtin; refine wpList_append_fresh rfl _ _ 27 rfl (w.heap.size + 1 + 1 + 1) 55 i0 (.agg #[.string ⟨#[]⟩, .string ⟨#[]⟩]) 2 32 under_rrows hi hz0 hz1 hz2 rfl (by decide) _ _ _ rfl ((unhide HOW).alloc _) ⟨wr.heap.size, 0, none⟩ 1 1 [.string (S x), .string (S y)] rfl rfl (pair_new wr (.string (S x)) (.string (S y)) 55) ?c2 ?c3 ?c4 ?c5 ?_) | fail)
        case c2 => first | (intro u hu; simp at hu; rcases hu with rfl | rfl <;> rfl) | exact ⟨rfl, rfl⟩
        case c3 => unfold maxLen; omega
        case c4 => omega
        case c5 => have := unhide HSZ; simp; omega
        intro v' w2 hown' hgrow _
        obtain ⟨va, vc, rfl, _⟩ := ownsRow_slice hown'
        have hb2 : Below (w.heap.size + 1 + 1 + 1) wr w2 := ((Below.refl (w.heap.size + 1 + 1 + 1) wr).alloc (unhide HSZ) _).grown hgrow (by have := unhide HSZ; simp; omega) (fun j hj => ((unhide HOW).lt j hj).1)
        have HB2 := hide ((unhide HBW).lower hb2)
        have HN : Hid (w2.ownsRow (w.heap.size + 1 + 1 + 1) 55 2 (.slice va (out.length + 1) vc) (putG kd (x, y) rows).length (R9 (putG kd (x, y) rows))) := by
          show World.ownsRow _ _ _ _ _ _ _
          rw [unhide HF, List.length_append, R9_append]
          exact hown'
        obtain ⟨⟨u0, u1, _⟩, _, _, g3⟩ := (unhide HB2).facts
        obtain ⟨z0, z1, z2, zlow, zown, ⟨y0, hy0⟩, ⟨y1, hy1⟩, ⟨y2, hy2⟩⟩ := (unhide HB2).end (.int .i64 kd) (.int .i64 n) (.slice va (out.length + 1) vc)
        have zo := zown _ _ _ _ (unhide HN)
        unfold put3 at z0 z1 z2 zlow zo
        clear hown' hgrow hb2 p0 p1 p2 r0 r1 f2 f3 zown hlow
        go_wp2_with fail
        exact bodyPost_ret (v := .agg #[.int .i64 kd, .int .i64 n, .slice va (out.length + 1) vc]) (by simp [results, Tryd.results27, go_sem, z0, z1, z2]) rfl ⟨_, rfl, ⟨_, rfl, zo⟩, zlow⟩
      · have hfu := hhf.full
        obtain ⟨z0, z1, z2, zlow, zown, ⟨y0, hy0⟩, ⟨y1, hy1⟩, ⟨y2, hy2⟩⟩ := (unhide HBW).end (.int .i64 kd) (.int .i64 n) (.slice oa out.length oc)
        have zo := zown _ (putG kd (x, y) rows).length (R9 (putG kd (x, y) rows)) _ (by rw [hfu]; exact unhide HOW)
        unfold put3 at z0 z1 z2 zlow zo
        clear hfu hhf hown hbw zown hlow
        go_wp2_with fail
        exact bodyPost_ret (v := .agg #[.int .i64 kd, .int .i64 n, .slice oa out.length oc]) (by simp [results, Tryd.results27, go_sem, z0, z1, z2]) rfl ⟨_, rfl, ⟨_, rfl, zo⟩, zlow⟩
end Go.Proofs.YtgeibmlhmljhpaaDoor
