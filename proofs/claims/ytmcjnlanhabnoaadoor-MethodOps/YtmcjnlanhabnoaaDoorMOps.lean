/- The walk of MethodOps. -/
import Derived.Test.YtmcjnlanhabnoaaDoorMAwake
import Derived.Test.YtmcjnlanhabnoaaDoorMRefs2
import Derived.Test.YtmcjnlanhabnoaaDoorMRes
import Derived.Test.YtmcjnlanhabnoaaDoorMGrow
import Derived.Test.YtmcjnlanhabnoaaDoorMBm
namespace Go.Proofs.YtmcjnlanhabnoaaDoor
open Go.RowKit
set_option linter.unusedVariables false
set_option maxRecDepth 100000

/- The last of the words ahead of a place, from the second on. -/
def mback (y : List UInt8) : Nat → Int
  | 0 => 0
  | k + 1 => if 1 ≤ k ∧ (mfact (k : Int)).word = y then (k : Int) else mback y k
theorem opFrom_none (y : List UInt8) (h : ∀ k : Nat, k < 18 → (mfact (k : Int)).word ≠ y) : ∀ f k, k + f ≤ 18 → opFrom y f k = 0
  | 0, _, _ => rfl
  | f + 1, k, hk => by
    show (if (mfact (k : Int)).word = y then (k : Int) else opFrom y f (k + 1)) = 0
    rw [if_neg (h k (by omega))]
    exact opFrom_none y h f (k + 1) (by omega)
theorem mback_none (y : List UInt8) (h : ∀ k : Nat, k < 18 → (mfact (k : Int)).word ≠ y) : ∀ k, k ≤ 18 → mback y k = 0
  | 0, _ => rfl
  | k + 1, hk => by
    show (if 1 ≤ k ∧ (mfact (k : Int)).word = y then (k : Int) else mback y k) = 0
    rw [if_neg (fun x => h k (by omega) x.2)]
    exact mback_none y h k (by omega)
theorem mback_op (y : List UInt8) : mback y 18 = opOf y := by
  by_cases h : ∃ k : Nat, k < 18 ∧ (mfact (k : Int)).word = y
  · obtain ⟨k, hk, rfl⟩ := h
    have hk7 : k = 0 ∨ k = 1 ∨ k = 2 ∨ k = 3 ∨ k = 4 ∨ k = 5 ∨ k = 6 ∨ k = 7 ∨ k = 8 ∨ k = 9 ∨ k = 10 ∨ k = 11 ∨ k = 12 ∨ k = 13 ∨ k = 14 ∨ k = 15 ∨ k = 16 ∨ k = 17 := by omega
    rcases hk7 with rfl | rfl | rfl | rfl | rfl | rfl | rfl | rfl | rfl | rfl | rfl | rfl | rfl | rfl | rfl | rfl | rfl | rfl <;> decide +kernel
  · have h' : ∀ k : Nat, k < 18 → (mfact (k : Int)).word ≠ y := fun k hk e => h ⟨k, hk, e⟩
    rw [mback_none y h' 18 (Nat.le_refl _)]
    exact (opFrom_none y h' 18 0 (by omega)).symm
theorem mback_step (y : List UInt8) (k : Nat) (h1 : 1 ≤ k) : mback y (k + 1) = if (mfact (k : Int)).word = y then (k : Int) else mback y k := by
  show (if 1 ≤ k ∧ (mfact (k : Int)).word = y then (k : Int) else mback y k) = _
  by_cases e : (mfact (k : Int)).word = y
  · rw [if_pos ⟨h1, e⟩, if_pos e]
  · rw [if_neg (fun h => e h.2), if_neg e]

set_option maxHeartbeats 12800000 in
theorem methodOps_walk (a0 : Int) (w0 : (Lit.int .i64 a0).wf = true) (a1 : ByteArray) (w1 : a1.size ≤ maxLen) (a2 : Int) (w2 : (Lit.int .i64 a2).wf = true) (a3 : Int) (w3 : (Lit.int .i64 a3).wf = true) (w : World) (hw : MD w) :
    Calls Tryd.prog 6 #[.int .i64 a0, .string a1, .int .i64 a2, .int .i64 a3] w fun e w' => e = .returned (.bool true) ∧ Below w.heap.size w w' := by
  obtain ⟨y, rfl⟩ : ∃ y, a1 = S y := ⟨a1.data.toList, rfl⟩
  have HRW := hide (fun (w1 : World) => rwords_any (w := w1))
  have HGET := hide mwords_get
  have HAW := hide (fun (w1 : World) (hb : Below w.heap.size w w1) => mawake_any (hw.later hb))
  have HWO := hide (fun (w1 : World) (hb : Below w.heap.size w w1) => mword_any (hw.later hb) a0)
  have HKI := hide (fun (w1 : World) (hb : Below w.heap.size w w1) => mkind_any (hw.later hb) a0)
  have HNA := hide (fun (w1 : World) (hb : Below w.heap.size w w1) => mnamed_any (hw.later hb) y)
  have HRK := hide (fun (h : okOp a0) (w1 : World) => rkind_any (w := w1) a0 h)
  have HCH := hide (fun (w1 : World) => mchanges_any (w := w1) ⟨a0, [], [], a2⟩ ⟨a3, [], 0⟩)
  have HRC := hide (fun (w1 : World) => rchanges_any (w := w1) ⟨a0, [], [], a2⟩ ⟨a3, [], 0⟩)
  have HGR := hide (fun (w1 : World) => mgrowth_any (w := w1) ⟨a0, [], [], a2⟩ ⟨a3, [], 0⟩)
  have HRG := hide (fun (w1 : World) => rgrowth_any (w := w1) ⟨a0, [], [], a2⟩ ⟨a3, [], 0⟩)
  have HTO := hide (fun (w1 : World) => mtold_any (w := w1) ⟨a0, [], [], a2⟩)
  unfold mcV at HCH HRC HGR HRG HTO
  unfold mrV at HCH HRC HGR HRG
  dsimp only at HCH HRC HGR HRG HTO
  rw [show S [] = (⟨#[]⟩ : ByteArray) from rfl] at HCH HRC HGR HRG HTO
  have HEQ := hide (fun (a : List UInt8) => S_eq a y)
  have HBK := hide (mback_op y)
  have HBS := hide (fun (k : Nat) (h : 1 ≤ k) => mback_step y k h)
  have HNO := hide (fun (h : ¬ okOp a0) => mfact_no h)
  have hkk : (opOf y == opOf y) = true := by simp
  have hss : ((S (mfact a0).word).toList == (S (mfact a0).word).toList) = true := by simp
  have hdd : ((mfact a0).kind == (mfact a0).kind) = true := by simp
  have hgg : (mgrowth a0 a2 a3 == mgrowth a0 a2 a3) = true := by simp
  have hcc : (mchanges a0 a2 a3 == mchanges a0 a2 a3) = true := by simp
  generalize mgrowth a0 a2 a3 = gw at *
  generalize mchanges a0 a2 a3 = cg at *
  clear hw w1 w0 w2 w3
  by_cases hop : okOp a0
  · obtain ⟨k, rfl⟩ : ∃ k : Nat, a0 = (k : Int) := ⟨a0.toNat, by unfold okOp at hop; omega⟩
    have hk18 : k < mwords.length := by show k < 18; unfold okOp at hop; omega
    have hg := unhide HGET k hk18
    have HRK2 := hide (unhide HRK hop)
    have g1 : (1 : Int) ≤ (k : Int) := hop.1
    have g17 : (k : Int) ≤ 17 := hop.2
    have g0 : (0 : Int) ≤ (k : Int) := by omega
    have g18 : (k : Int) < 18 := by omega
    have HRW0 := hide (unhide HRW w)
    generalize (mfact (k : Int)).word = wd at *
    generalize (mfact (k : Int)).kind = kd at *
    clear hop HNO HRK
    go_enter Tryd.func6, Tryd.ntmps6
    go_wp2_with fail
    refine (unhide HRW0).mono ?_
    rintro e w3 ⟨rfl, hb3, hc3⟩
    have hcw := hc3 k hk18
    rw [hg] at hcw
    have HB3 := hide hb3
    clear hc3 hb3 hg HRW0
    go_wp2_with fail
    clear hcw
    go_loopw [11, 12] (fun s11 s12 wx => ∃ k : Nat, 1 ≤ k ∧ k ≤ 18 ∧ s12 = .int .i64 (k : Int) ∧ s11 = .int .i64 (mback y k) ∧ Below w.heap.size w wx) (fun _ s12 _ => 18 - (intOf s12).toNat)
    case atStart => exact ⟨1, Nat.le_refl _, by omega, rfl, rfl, unhide HB3⟩
    case round =>
      obtain ⟨j, hk1, hk8, rfl, rfl, hbw⟩ := hrel
      have HBW := hide hbw
      by_cases h8 : j = 18
      · subst h8
        rw [unhide HBK]
        clear hbw HBK HBS HEQ HGET HRW
        generalize opOf y = ky at *
        go_wp2_with fail
        refine (unhide HRK2 wr).mono ?_
        rintro e w4 ⟨rfl, hb4⟩
        have HBR := hide ((unhide HBW).trans (hb4.mono (unhide HBW).size))
        clear hb4 HBW HRK2
        obtain ⟨W, hW⟩ : ∃ W, (w4.alloc (.cells #[.int .i64 (k : Int), .string ⟨#[]⟩, .string ⟨#[]⟩, .int .i64 a2] 24)).alloc (.cells #[.int .i64 a3, .string ⟨#[]⟩, .int .i64 0] 46) = W := ⟨_, rfl⟩
        have hx1 : W.heap[w4.heap.size]? = some (.cells #[.int .i64 (k : Int), .string ⟨#[]⟩, .string ⟨#[]⟩, .int .i64 a2] 24 (0, 0)) := by rw [← hW, Below.heap_alloc _ _ _ (by simp)]; exact heap_alloc_new w4 _
        have hx2 : W.heap[w4.heap.size + 1]? = some (.cells #[.int .i64 a3, .string ⟨#[]⟩, .int .i64 0] 46 (0, 0)) := by
          have := heap_alloc_new (w4.alloc (.cells #[.int .i64 (k : Int), .string ⟨#[]⟩, .string ⟨#[]⟩, .int .i64 a2] 24)) (.cells #[.int .i64 a3, .string ⟨#[]⟩, .int .i64 0] 46)
          rw [World.size_alloc, hW] at this
          exact this
        have p0 : ∀ w1, Bm W w1 → w1.cell? ⟨w4.heap.size, 0, none⟩ = some (.int .i64 (k : Int)) := fun w1 h => (h.cells4 hx1).1
        have p1 : ∀ w1, Bm W w1 → w1.cell? ⟨w4.heap.size, 1, none⟩ = some (.string ⟨#[]⟩) := fun w1 h => (h.cells4 hx1).2.1
        have p2 : ∀ w1, Bm W w1 → w1.cell? ⟨w4.heap.size, 2, none⟩ = some (.string ⟨#[]⟩) := fun w1 h => (h.cells4 hx1).2.2.1
        have p3 : ∀ w1, Bm W w1 → w1.cell? ⟨w4.heap.size, 3, none⟩ = some (.int .i64 a2) := fun w1 h => (h.cells4 hx1).2.2.2
        have q0 : ∀ w1, Bm W w1 → w1.cell? ⟨w4.heap.size + 1, 0, none⟩ = some (.int .i64 a3) := fun w1 h => (h.cells3 hx2).1
        have q1 : ∀ w1, Bm W w1 → w1.cell? ⟨w4.heap.size + 1, 1, none⟩ = some (.string ⟨#[]⟩) := fun w1 h => (h.cells3 hx2).2.1
        have q2 : ∀ w1, Bm W w1 → w1.cell? ⟨w4.heap.size + 1, 2, none⟩ = some (.int .i64 0) := fun w1 h => (h.cells3 hx2).2.2
        have hst : Bm W W.drew := (Below.refl _ _).drew
        have HLOW : Hid (∀ w1, Bm W w1 → Below w.heap.size w w1) := fun w1 h => by
          have hz := (unhide HBR).size
          have hzW : W.heap.size = w4.heap.size + 1 + 1 := by rw [← hW]; simp
          exact ((unhide HBR).trans (by rw [← hW]; exact (under_two w4 _ _).mono hz)).trans (h.low.mono (by omega))
        have HWW := hide hW
        clear hx1 hx2 hW
        go_wp2_with fail
        rw [unhide HWW]
        clear HWW
        go_region_held3 (fun w' => Bm W w') (with_reducible (first | exact hst | (refine Bm.below ?_ (by assumption) <;> assumption)))
          (first
            | (go_at_call 10; refine (unhide HAW _ (unhide HLOW _ (by assumption))).mono ?_; rintro e wa ⟨rfl, hba⟩)
            | (go_at_call 31; refine (unhide HWO _ (unhide HLOW _ (by assumption))).mono ?_; rintro e wb ⟨rfl, hbb⟩)
            | (go_at_call 32; refine (unhide HKI _ (unhide HLOW _ (by assumption))).mono ?_; rintro e wc ⟨rfl, hbc⟩)
            | (go_at_call 33; refine (unhide HNA _ (unhide HLOW _ (by assumption))).mono ?_; rintro e wd ⟨rfl, hbd⟩)
            | (go_at_call 34; refine (unhide HCH _).mono ?_; rintro e we ⟨rfl, hbe⟩)
            | (go_at_call 13; refine (unhide HTO _).mono ?_; rintro e wf ⟨rfl, hbf⟩)
            | (go_at_call 35; refine (unhide HRC _).mono ?_; rintro e wg ⟨rfl, hbg⟩)
            | (go_at_call 36; refine (unhide HGR _).mono ?_; rintro e wh ⟨rfl, hbh⟩)
            | (go_at_call 37; refine (unhide HRG _).mono ?_; rintro e wi ⟨rfl, hbi⟩)
            | fail)
        all_goals
          have HFIN := hide (unhide HLOW _ (by assumption))
          go_wp2_with fail
          go_ret
          exact ⟨rfl, unhide HFIN⟩
      · have hj18 : j < mwords.length := by show j < 18; omega
        have hq := unhide HEQ (mfact (j : Int)).word
        have HB2 := hide (unhide HBS j hk1)
        have HGJ := hide (unhide HGET j hj18)
        have hi0 : (0 : Int) ≤ (j : Int) := by omega
        have hi1 : (j : Int) < 18 := by omega
        have hi2 : (j : Int) ≤ 17 := by omega
        clear hbw HEQ HBS HGET HAW HWO HKI HNA HCH HRC HGR HRG HTO HBK
        go_wp2_with fail
        refine (unhide HRW wr).mono ?_
        rintro e w5 ⟨rfl, hb5, hc5⟩
        have hc := hc5 j hj18
        rw [unhide HGJ] at hc
        have HB5 := hide ((unhide HBW).trans (hb5.mono (unhide HBW).size))
        clear hc5 hb5 HRW HBW HGJ
        generalize (mfact (j : Int)).word = x at *
        by_cases hxy : x = y
        · rw [decide_eq_true hxy] at hq
          rw [if_pos hxy] at HB2
          clear hxy
          go_wp2_with fail
          go_roundw
          case rel => exact ⟨j + 1, by omega, by omega, by go_num, by rw [unhide HB2], unhide HB5⟩
          case measure => simp [intOf]; omega
        · rw [decide_eq_false hxy] at hq
          rw [if_neg hxy] at HB2
          clear hxy
          go_wp2_with fail
          go_roundw
          case rel => exact ⟨j + 1, by omega, by omega, by go_num, by rw [unhide HB2], unhide HB5⟩
          case measure => simp [intOf]; omega
  · rw [unhide HNO hop] at HWO HKI hss hdd
    unfold mnone at HWO HKI hss hdd
    dsimp only at HWO HKI hss hdd
    rw [show S [] = (⟨#[]⟩ : ByteArray) from rfl] at HWO hss
    by_cases g1 : a0 < 1
    · clear hop HNO HRK
      go_enter Tryd.func6, Tryd.ntmps6
      go_wp2_with fail
      go_loopw [11, 12] (fun s11 s12 wx => ∃ k : Nat, 1 ≤ k ∧ k ≤ 18 ∧ s12 = .int .i64 (k : Int) ∧ s11 = .int .i64 (mback y k) ∧ Below w.heap.size w wx) (fun _ s12 _ => 18 - (intOf s12).toNat)
      case atStart => exact ⟨1, Nat.le_refl _, by omega, rfl, rfl, Below.refl _ _⟩
      case round =>
        obtain ⟨j, hk1, hk8, rfl, rfl, hbw⟩ := hrel
        have HBW := hide hbw
        by_cases h8 : j = 18
        · subst h8
          rw [unhide HBK]
          clear hbw HBK HBS HEQ HGET HRW
          generalize opOf y = ky at *
          have HBR := hide (unhide HBW)
          clear HBW
          obtain ⟨W, hW⟩ : ∃ W, (wr.alloc (.cells #[.int .i64 a0, .string ⟨#[]⟩, .string ⟨#[]⟩, .int .i64 a2] 24)).alloc (.cells #[.int .i64 a3, .string ⟨#[]⟩, .int .i64 0] 46) = W := ⟨_, rfl⟩
          have hx1 : W.heap[wr.heap.size]? = some (.cells #[.int .i64 a0, .string ⟨#[]⟩, .string ⟨#[]⟩, .int .i64 a2] 24 (0, 0)) := by rw [← hW, Below.heap_alloc _ _ _ (by simp)]; exact heap_alloc_new wr _
          have hx2 : W.heap[wr.heap.size + 1]? = some (.cells #[.int .i64 a3, .string ⟨#[]⟩, .int .i64 0] 46 (0, 0)) := by
            have := heap_alloc_new (wr.alloc (.cells #[.int .i64 a0, .string ⟨#[]⟩, .string ⟨#[]⟩, .int .i64 a2] 24)) (.cells #[.int .i64 a3, .string ⟨#[]⟩, .int .i64 0] 46)
            rw [World.size_alloc, hW] at this
            exact this
          have p0 : ∀ w1, Bm W w1 → w1.cell? ⟨wr.heap.size, 0, none⟩ = some (.int .i64 a0) := fun w1 h => (h.cells4 hx1).1
          have p1 : ∀ w1, Bm W w1 → w1.cell? ⟨wr.heap.size, 1, none⟩ = some (.string ⟨#[]⟩) := fun w1 h => (h.cells4 hx1).2.1
          have p2 : ∀ w1, Bm W w1 → w1.cell? ⟨wr.heap.size, 2, none⟩ = some (.string ⟨#[]⟩) := fun w1 h => (h.cells4 hx1).2.2.1
          have p3 : ∀ w1, Bm W w1 → w1.cell? ⟨wr.heap.size, 3, none⟩ = some (.int .i64 a2) := fun w1 h => (h.cells4 hx1).2.2.2
          have q0 : ∀ w1, Bm W w1 → w1.cell? ⟨wr.heap.size + 1, 0, none⟩ = some (.int .i64 a3) := fun w1 h => (h.cells3 hx2).1
          have q1 : ∀ w1, Bm W w1 → w1.cell? ⟨wr.heap.size + 1, 1, none⟩ = some (.string ⟨#[]⟩) := fun w1 h => (h.cells3 hx2).2.1
          have q2 : ∀ w1, Bm W w1 → w1.cell? ⟨wr.heap.size + 1, 2, none⟩ = some (.int .i64 0) := fun w1 h => (h.cells3 hx2).2.2
          have hst : Bm W W.drew := (Below.refl _ _).drew
          have HLOW : Hid (∀ w1, Bm W w1 → Below w.heap.size w w1) := fun w1 h => by
            have hz := (unhide HBR).size
            have hzW : W.heap.size = wr.heap.size + 1 + 1 := by rw [← hW]; simp
            exact ((unhide HBR).trans (by rw [← hW]; exact (under_two wr _ _).mono hz)).trans (h.low.mono (by omega))
          have HWW := hide hW
          clear hx1 hx2 hW
          go_wp2_with fail
          rw [unhide HWW]
          clear HWW
          go_region_held3 (fun w' => Bm W w') (with_reducible (first | exact hst | (refine Bm.below ?_ (by assumption) <;> assumption)))
            (first
              | (go_at_call 10; refine (unhide HAW _ (unhide HLOW _ (by assumption))).mono ?_; rintro e wa ⟨rfl, hba⟩)
              | (go_at_call 31; refine (unhide HWO _ (unhide HLOW _ (by assumption))).mono ?_; rintro e wb ⟨rfl, hbb⟩)
              | (go_at_call 32; refine (unhide HKI _ (unhide HLOW _ (by assumption))).mono ?_; rintro e wc ⟨rfl, hbc⟩)
              | (go_at_call 33; refine (unhide HNA _ (unhide HLOW _ (by assumption))).mono ?_; rintro e wd ⟨rfl, hbd⟩)
              | (go_at_call 34; refine (unhide HCH _).mono ?_; rintro e we ⟨rfl, hbe⟩)
              | (go_at_call 13; refine (unhide HTO _).mono ?_; rintro e wf ⟨rfl, hbf⟩)
              | (go_at_call 35; refine (unhide HRC _).mono ?_; rintro e wg ⟨rfl, hbg⟩)
              | (go_at_call 36; refine (unhide HGR _).mono ?_; rintro e wh ⟨rfl, hbh⟩)
              | (go_at_call 37; refine (unhide HRG _).mono ?_; rintro e wi ⟨rfl, hbi⟩)
              | fail)
          all_goals
            have HFIN := hide (unhide HLOW _ (by assumption))
            go_wp2_with fail
            go_ret
            exact ⟨rfl, unhide HFIN⟩
        · have hj18 : j < mwords.length := by show j < 18; omega
          have hq := unhide HEQ (mfact (j : Int)).word
          have HB2 := hide (unhide HBS j hk1)
          have HGJ := hide (unhide HGET j hj18)
          have hi0 : (0 : Int) ≤ (j : Int) := by omega
          have hi1 : (j : Int) < 18 := by omega
          have hi2 : (j : Int) ≤ 17 := by omega
          clear hbw HEQ HBS HGET HAW HWO HKI HNA HCH HRC HGR HRG HTO HBK
          go_wp2_with fail
          refine (unhide HRW wr).mono ?_
          rintro e w5 ⟨rfl, hb5, hc5⟩
          have hc := hc5 j hj18
          rw [unhide HGJ] at hc
          have HB5 := hide ((unhide HBW).trans (hb5.mono (unhide HBW).size))
          clear hc5 hb5 HRW HBW HGJ
          generalize (mfact (j : Int)).word = x at *
          by_cases hxy : x = y
          · rw [decide_eq_true hxy] at hq
            rw [if_pos hxy] at HB2
            clear hxy
            go_wp2_with fail
            go_roundw
            case rel => exact ⟨j + 1, by omega, by omega, by go_num, by rw [unhide HB2], unhide HB5⟩
            case measure => simp [intOf]; omega
          · rw [decide_eq_false hxy] at hq
            rw [if_neg hxy] at HB2
            clear hxy
            go_wp2_with fail
            go_roundw
            case rel => exact ⟨j + 1, by omega, by omega, by go_num, by rw [unhide HB2], unhide HB5⟩
            case measure => simp [intOf]; omega
    · have g17 : 17 < a0 := by unfold okOp at hop; omega
      clear hop HNO HRK
      go_enter Tryd.func6, Tryd.ntmps6
      go_wp2_with fail
      go_loopw [11, 12] (fun s11 s12 wx => ∃ k : Nat, 1 ≤ k ∧ k ≤ 18 ∧ s12 = .int .i64 (k : Int) ∧ s11 = .int .i64 (mback y k) ∧ Below w.heap.size w wx) (fun _ s12 _ => 18 - (intOf s12).toNat)
      case atStart => exact ⟨1, Nat.le_refl _, by omega, rfl, rfl, Below.refl _ _⟩
      case round =>
        obtain ⟨j, hk1, hk8, rfl, rfl, hbw⟩ := hrel
        have HBW := hide hbw
        by_cases h8 : j = 18
        · subst h8
          rw [unhide HBK]
          clear hbw HBK HBS HEQ HGET HRW
          generalize opOf y = ky at *
          have HBR := hide (unhide HBW)
          clear HBW
          obtain ⟨W, hW⟩ : ∃ W, (wr.alloc (.cells #[.int .i64 a0, .string ⟨#[]⟩, .string ⟨#[]⟩, .int .i64 a2] 24)).alloc (.cells #[.int .i64 a3, .string ⟨#[]⟩, .int .i64 0] 46) = W := ⟨_, rfl⟩
          have hx1 : W.heap[wr.heap.size]? = some (.cells #[.int .i64 a0, .string ⟨#[]⟩, .string ⟨#[]⟩, .int .i64 a2] 24 (0, 0)) := by rw [← hW, Below.heap_alloc _ _ _ (by simp)]; exact heap_alloc_new wr _
          have hx2 : W.heap[wr.heap.size + 1]? = some (.cells #[.int .i64 a3, .string ⟨#[]⟩, .int .i64 0] 46 (0, 0)) := by
            have := heap_alloc_new (wr.alloc (.cells #[.int .i64 a0, .string ⟨#[]⟩, .string ⟨#[]⟩, .int .i64 a2] 24)) (.cells #[.int .i64 a3, .string ⟨#[]⟩, .int .i64 0] 46)
            rw [World.size_alloc, hW] at this
            exact this
          have p0 : ∀ w1, Bm W w1 → w1.cell? ⟨wr.heap.size, 0, none⟩ = some (.int .i64 a0) := fun w1 h => (h.cells4 hx1).1
          have p1 : ∀ w1, Bm W w1 → w1.cell? ⟨wr.heap.size, 1, none⟩ = some (.string ⟨#[]⟩) := fun w1 h => (h.cells4 hx1).2.1
          have p2 : ∀ w1, Bm W w1 → w1.cell? ⟨wr.heap.size, 2, none⟩ = some (.string ⟨#[]⟩) := fun w1 h => (h.cells4 hx1).2.2.1
          have p3 : ∀ w1, Bm W w1 → w1.cell? ⟨wr.heap.size, 3, none⟩ = some (.int .i64 a2) := fun w1 h => (h.cells4 hx1).2.2.2
          have q0 : ∀ w1, Bm W w1 → w1.cell? ⟨wr.heap.size + 1, 0, none⟩ = some (.int .i64 a3) := fun w1 h => (h.cells3 hx2).1
          have q1 : ∀ w1, Bm W w1 → w1.cell? ⟨wr.heap.size + 1, 1, none⟩ = some (.string ⟨#[]⟩) := fun w1 h => (h.cells3 hx2).2.1
          have q2 : ∀ w1, Bm W w1 → w1.cell? ⟨wr.heap.size + 1, 2, none⟩ = some (.int .i64 0) := fun w1 h => (h.cells3 hx2).2.2
          have hst : Bm W W.drew := (Below.refl _ _).drew
          have HLOW : Hid (∀ w1, Bm W w1 → Below w.heap.size w w1) := fun w1 h => by
            have hz := (unhide HBR).size
            have hzW : W.heap.size = wr.heap.size + 1 + 1 := by rw [← hW]; simp
            exact ((unhide HBR).trans (by rw [← hW]; exact (under_two wr _ _).mono hz)).trans (h.low.mono (by omega))
          have HWW := hide hW
          clear hx1 hx2 hW
          go_wp2_with fail
          rw [unhide HWW]
          clear HWW
          go_region_held3 (fun w' => Bm W w') (with_reducible (first | exact hst | (refine Bm.below ?_ (by assumption) <;> assumption)))
            (first
              | (go_at_call 10; refine (unhide HAW _ (unhide HLOW _ (by assumption))).mono ?_; rintro e wa ⟨rfl, hba⟩)
              | (go_at_call 31; refine (unhide HWO _ (unhide HLOW _ (by assumption))).mono ?_; rintro e wb ⟨rfl, hbb⟩)
              | (go_at_call 32; refine (unhide HKI _ (unhide HLOW _ (by assumption))).mono ?_; rintro e wc ⟨rfl, hbc⟩)
              | (go_at_call 33; refine (unhide HNA _ (unhide HLOW _ (by assumption))).mono ?_; rintro e wd ⟨rfl, hbd⟩)
              | (go_at_call 34; refine (unhide HCH _).mono ?_; rintro e we ⟨rfl, hbe⟩)
              | (go_at_call 13; refine (unhide HTO _).mono ?_; rintro e wf ⟨rfl, hbf⟩)
              | (go_at_call 35; refine (unhide HRC _).mono ?_; rintro e wg ⟨rfl, hbg⟩)
              | (go_at_call 36; refine (unhide HGR _).mono ?_; rintro e wh ⟨rfl, hbh⟩)
              | (go_at_call 37; refine (unhide HRG _).mono ?_; rintro e wi ⟨rfl, hbi⟩)
              | fail)
          all_goals
            have HFIN := hide (unhide HLOW _ (by assumption))
            go_wp2_with fail
            go_ret
            exact ⟨rfl, unhide HFIN⟩
        · have hj18 : j < mwords.length := by show j < 18; omega
          have hq := unhide HEQ (mfact (j : Int)).word
          have HB2 := hide (unhide HBS j hk1)
          have HGJ := hide (unhide HGET j hj18)
          have hi0 : (0 : Int) ≤ (j : Int) := by omega
          have hi1 : (j : Int) < 18 := by omega
          have hi2 : (j : Int) ≤ 17 := by omega
          clear hbw HEQ HBS HGET HAW HWO HKI HNA HCH HRC HGR HRG HTO HBK
          go_wp2_with fail
          refine (unhide HRW wr).mono ?_
          rintro e w5 ⟨rfl, hb5, hc5⟩
          have hc := hc5 j hj18
          rw [unhide HGJ] at hc
          have HB5 := hide ((unhide HBW).trans (hb5.mono (unhide HBW).size))
          clear hc5 hb5 HRW HBW HGJ
          generalize (mfact (j : Int)).word = x at *
          by_cases hxy : x = y
          · rw [decide_eq_true hxy] at hq
            rw [if_pos hxy] at HB2
            clear hxy
            go_wp2_with fail
            go_roundw
            case rel => exact ⟨j + 1, by omega, by omega, by go_num, by rw [unhide HB2], unhide HB5⟩
            case measure => simp [intOf]; omega
          · rw [decide_eq_false hxy] at hq
            rw [if_neg hxy] at HB2
            clear hxy
            go_wp2_with fail
            go_roundw
            case rel => exact ⟨j + 1, by omega, by omega, by go_num, by rw [unhide HB2], unhide HB5⟩
            case measure => simp [intOf]; omega
end Go.Proofs.YtmcjnlanhabnoaaDoor
