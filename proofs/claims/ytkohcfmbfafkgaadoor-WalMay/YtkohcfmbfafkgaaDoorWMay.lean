/- WalMay's walk. -/
import Derived.Test.YtkohcfmbfafkgaaDoorWAwake2
import Derived.Test.YtkohcfmbfafkgaaDoorWScan2
namespace Go.Proofs.YtkohcfmbfafkgaaDoor
open Go.RowKit
set_option linter.unusedVariables false
set_option maxRecDepth 100000

theorem w_mask (n : Int) (k : Nat) (m : Int) (hk : k < 63) (hm : (BitVec.ofInt 64 m).toNat = 2 ^ k - 1) : bits .and .i64 n m = n % (2 ^ k : Nat) := by
  have key : (BitVec.ofInt 64 n &&& BitVec.ofInt 64 m).toNat = (n % ((2 ^ 64 : Nat) : Int)).toNat % 2 ^ k := by
    rw [BitVec.toNat_and, BitVec.toNat_ofInt, hm, Nat.and_two_pow_sub_one_eq_mod]
  show IntKind.i64.wrap ((BitVec.ofInt 64 n &&& BitVec.ofInt 64 m).toNat : Nat) = n % (2 ^ k : Nat)
  have hlt : (n % ((2 ^ 64 : Nat) : Int)).toNat % 2 ^ k < 2 ^ 63 := Nat.lt_trans (Nat.mod_lt _ (Nat.two_pow_pos k)) (Nat.pow_lt_pow_right (by omega) hk)
  rw [key, IntKind.wrap_i64]
  have hd : (2 ^ 64 : Nat) = 2 ^ k * 2 ^ (64 - k) := by rw [← Nat.pow_add]; congr 1; omega
  have h1 : (((n % ((2 ^ 64 : Nat) : Int)).toNat % 2 ^ k : Nat) : Int) = n % (2 ^ k : Nat) := by
    rw [Int.natCast_emod, Int.toNat_of_nonneg (Int.emod_nonneg _ (by simp)), hd, Int.natCast_mul, Int.emod_emod_of_dvd _ ⟨_, rfl⟩]
  rw [h1]
  have h2 : (n % (2 ^ k : Nat)) < 9223372036854775808 := by
    have : (2 : Nat) ^ 63 = 9223372036854775808 := by decide
    rw [← h1]; omega
  have h3 : 0 ≤ n % (2 ^ k : Nat) := by rw [← h1]; omega
  omega
set_option maxHeartbeats 1600000 in
theorem scan_no {base : Nat} {w : World} {b : Nat} {d : Dev} (h : DevAt base w b d) (fr ln x : Int) (hm : d.L.length ≤ 65536) (hln : ln ≤ 9223372036854775807) (hE : areaE d fr ln ≠ 0) :
    Calls Tryd.prog 20 #[.pointer (some ⟨b, 0, none⟩), AV fr ln, .int .i64 x] w fun e w' => e = .returned (.tuple #[.slice none 0 0, .int .i64 0, .int .i64 (areaE d fr ln)]) ∧ Below w.heap.size w w' := by
  have HCH := hide (fun wy (hb : DevAt base wy b d) => acheck_any hb fr ln hm hln)
  generalize areaE d fr ln = z at *
  have hEb : (z != 0) = true := by simpa using hE
  unfold AV at *
  clear hE
  go_enter Tryd.func20, Tryd.ntmps20
  go_wp2_with fail
  refine (unhide HCH _ (h.later ((Below.refl _ _).alloc (Nat.le_refl _) _)).1).mono ?_
  rintro e w1 ⟨rfl, hb1⟩
  have HB : Hid (Below w.heap.size w w1) := ((Below.refl _ w).alloc (Nat.le_refl _) (.cells #[.int .i64 fr, .int .i64 ln] 25)).trans (hb1.mono (by simp))
  clear hb1 HCH
  go_wp2_with fail
  go_ret3
  exact ⟨rfl, unhide HB⟩

theorem walMay_walk (a0 : Int) (h0 : (Lit.int .i64 a0).wf = true) (a1 : Int) (h1 : (Lit.int .i64 a1).wf = true) (a2 : Int) (h2 : (Lit.int .i64 a2).wf = true) (a3 : Int) (h3 : (Lit.int .i64 a3).wf = true) (w : World) :
    Calls Tryd.prog 6 #[.int .i64 a0, .int .i64 a1, .int .i64 a2, .int .i64 a3] w fun e w' => e = .returned (.bool true) ∧ Below w.heap.size w w' := by
  obtain ⟨hlo0, hhi0⟩ : -9223372036854775808 ≤ a0 ∧ a0 ≤ 9223372036854775807 := by simpa [Lit.wf, IntKind.min, IntKind.max, IntKind.signed, IntKind.bits] using h0
  obtain ⟨hlo1, hhi1⟩ : -9223372036854775808 ≤ a1 ∧ a1 ≤ 9223372036854775807 := by simpa [Lit.wf, IntKind.min, IntKind.max, IntKind.signed, IntKind.bits] using h1
  clear h0 h1 h2 h3
  obtain ⟨n, hn, hn4⟩ : ∃ n : Nat, bits .and .i64 a3 4095 = (n : Int) ∧ n < 4096 := ⟨(a3 % 4096).toNat, by rw [w_mask a3 12 4095 (by omega) (by decide)]; omega, by omega⟩
  have HNEW := hide (new_ok 10 w (by omega) (by omega))
  have HAW := hide (fun wy => wawake_any wy)
  have HC := hide (fun wy => wcost_any n wy (by omega))
  have HRC := hide (fun wy => refCost_any n wy (by omega))
  have HNG := hide (fun wy => wcost_neg wy)
  generalize Codec.cost n = c at *
  have hE : areaE (Dev.new 10) a0 a1 = if a1 < 2 ∨ a0 < 0 ∨ 10 - a1 < a0 then 4 else 0 := by unfold areaE; simp [Dev.new]
  have hw6 : 2 ≤ a1 → wrap64 (10 - a1) = 10 - a1 := fun h => by unfold wrap64; omega
  by_cases hg : a1 < 2 ∨ a0 < 0 ∨ 10 - a1 < a0
  · rw [if_pos hg] at hE
    have HOP := hide (fun b wy (hb : DevAt w.heap.size wy b (Dev.new 10)) => open_no hb a0 a1 a2 (by simp [Dev.new]) hhi1 (by rw [hE]; simp))
    have HSN := hide (fun b wy (hb : DevAt w.heap.size wy b (Dev.new 10)) => scan_no hb a0 a1 1 (by simp [Dev.new]) hhi1 (by rw [hE]; simp))
    rw [hE] at HOP HSN
    rw [if_pos (show (4 : Int) ≠ 0 by decide)] at HOP
    unfold AV at HOP HSN
    clear hE
    go_enter Tryd.func6, Tryd.ntmps6
    go_wp2_with fail
    refine (unhide HNEW).mono ?_
    rintro e w1 ⟨b, rfl, hd1, hb1⟩
    have HD1 := hide hd1
    have HB1 := hide hb1
    clear hd1 hb1 HNEW
    go_wp2_with fail
    refine (unhide HAW w1).mono ?_
    rintro e w2 ⟨rfl, hb2⟩
    obtain ⟨w3, hw3⟩ : ∃ w3, w2.alloc (.cells #[.int .i64 a0, .int .i64 a1] 25) = w3 := ⟨_, rfl⟩
    have hb3 : Below w1.heap.size w1 w3 := by rw [← hw3]; exact hb2.alloc hb2.size _
    have hd3 := ((unhide HD1).later hb3).1
    obtain ⟨A, hA⟩ : ∃ A, w2.heap.size = A := ⟨_, rfl⟩
    have hx3 : w3.heap[A]? = some (.cells #[.int .i64 a0, .int .i64 a1] 25 (0, 0)) := by rw [← hw3, ← hA]; exact heap_alloc_new w2 _
    have p0 := bcell hx3 0
    have p1 := bcell hx3 1
    simp only [List.getElem?_toArray, List.getElem?_cons_zero, List.getElem?_cons_succ] at p0 p1
    have HD3 := hide hd3
    have HX3 := hide hx3
    have HB3 := hide ((unhide HB1).trans (hb3.mono (unhide HB1).size))
    clear hb2 hb3 hd3 hx3 HAW HD1 HB1
    go_wp2_with fail
    refine (unhide HOP b w3 (unhide HD3)).mono ?_
    rintro e w4 ⟨rfl, hb4⟩
    have HD4 := hide ((unhide HD3).later hb4).1
    have HB4 := hide ((unhide HB3).trans (hb4.mono (unhide HB3).size))
    have hx4 := (hb4.block A (block_lt (unhide HX3))).trans (unhide HX3)
    have q0 := bcell hx4 0
    have q1 := bcell hx4 1
    simp only [List.getElem?_toArray, List.getElem?_cons_zero, List.getElem?_cons_succ] at q0 q1
    clear hb4 hx4 HOP HD3 HB3 HX3 hw3 hA p0 p1
    by_cases g1 : a1 < 2
    · clear hg hw6
      go_wp2_with fail
      refine (unhide HSN b w4 (unhide HD4)).mono ?_
      rintro e w5 ⟨rfl, hb5⟩
      have HB5 := hide ((unhide HB4).trans (hb5.mono (unhide HB4).size))
      clear hb5 HSN
      go_wp2_with fail
      refine (unhide HC _).mono ?_
      rintro e w6 ⟨rfl, rfl⟩
      go_wp2_with fail
      refine (unhide HRC _).mono ?_
      rintro e w6 ⟨rfl, rfl⟩
      go_wp2_with fail
      refine (unhide HNG _).mono ?_
      rintro e w6 ⟨rfl, rfl⟩
      go_wp2_with fail
      go_ret
      exact ⟨rfl, unhide HB5⟩
    · by_cases g2 : 10 < a1
      · clear hg hw6
        go_wp2_with fail
        refine (unhide HSN b w4 (unhide HD4)).mono ?_
        rintro e w5 ⟨rfl, hb5⟩
        have HB5 := hide ((unhide HB4).trans (hb5.mono (unhide HB4).size))
        clear hb5 HSN
        go_wp2_with fail
        refine (unhide HC _).mono ?_
        rintro e w6 ⟨rfl, rfl⟩
        go_wp2_with fail
        refine (unhide HRC _).mono ?_
        rintro e w6 ⟨rfl, rfl⟩
        go_wp2_with fail
        refine (unhide HNG _).mono ?_
        rintro e w6 ⟨rfl, rfl⟩
        go_wp2_with fail
        go_ret
        exact ⟨rfl, unhide HB5⟩
      · by_cases g3 : a0 < 0
        · clear hg hw6
          go_wp2_with fail
          refine (unhide HSN b w4 (unhide HD4)).mono ?_
          rintro e w5 ⟨rfl, hb5⟩
          have HB5 := hide ((unhide HB4).trans (hb5.mono (unhide HB4).size))
          clear hb5 HSN
          go_wp2_with fail
          refine (unhide HC _).mono ?_
          rintro e w6 ⟨rfl, rfl⟩
          go_wp2_with fail
          refine (unhide HRC _).mono ?_
          rintro e w6 ⟨rfl, rfl⟩
          go_wp2_with fail
          refine (unhide HNG _).mono ?_
          rintro e w6 ⟨rfl, rfl⟩
          go_wp2_with fail
          go_ret
          exact ⟨rfl, unhide HB5⟩
        · have g4 : 10 - a1 < a0 := by omega
          have g5 := hw6 (by omega)
          have g6 : decide (a0 ≤ 10 - a1) = false := decide_eq_false (by omega)
          clear hg hw6
          go_wp2_with fail
          refine (unhide HSN b w4 (unhide HD4)).mono ?_
          rintro e w5 ⟨rfl, hb5⟩
          have HB5 := hide ((unhide HB4).trans (hb5.mono (unhide HB4).size))
          clear hb5 HSN
          go_wp2_with fail
          refine (unhide HC _).mono ?_
          rintro e w6 ⟨rfl, rfl⟩
          go_wp2_with fail
          refine (unhide HRC _).mono ?_
          rintro e w6 ⟨rfl, rfl⟩
          go_wp2_with fail
          refine (unhide HNG _).mono ?_
          rintro e w6 ⟨rfl, rfl⟩
          go_wp2_with fail
          go_ret
          exact ⟨rfl, unhide HB5⟩
  · rw [if_neg hg] at hE
    obtain ⟨fr, rfl⟩ : ∃ fr : Nat, a0 = (fr : Int) := ⟨a0.toNat, by omega⟩
    obtain ⟨ln, rfl⟩ : ∃ ln : Nat, a1 = (ln : Int) := ⟨a1.toNat, by omega⟩
    have g1 : ¬ (ln : Int) < 2 := by omega
    have g2 : ¬ (10 : Int) < (ln : Int) := by omega
    have g4 : ¬ 10 - (ln : Int) < (fr : Int) := by omega
    have g5 := hw6 (by omega)
    have g6 : (2 : Int) ≤ (ln : Int) := by omega
    have g7 : (ln : Int) ≤ 10 := by omega
    have g8 : (0 : Int) ≤ (fr : Int) := by omega
    have g9 : (fr : Int) ≤ 10 - (ln : Int) := by omega
    have HSC := hide (fun b wy (hb : DevAt w.heap.size wy b (Dev.new 10)) => scan_ok hb fr ln 1 (by omega) (by simp [Dev.new]; omega) (by simp [Dev.new]) rfl (Fine.new 10 (by omega)).cur (by omega) (by simp [Dev.new]))
    rw [scan_blank (Dev.new 10) fr ln 1 ln (by omega) (by simp [Dev.new]; omega) (new_can 10)] at HSC
    have HOK := hide (fun b wy (hb : DevAt w.heap.size wy b (Dev.new 10)) (hs : 1 ≤ a2 ∧ a2 ≤ 1099511627776) (hB : w.heap.size ≤ wy.heap.size) => open_ok hb fr ln a2 (by simp [Dev.new]) hhi1 hE hs.1 hs.2 hB)
    have HNO := hide (fun b wy (hb : DevAt w.heap.size wy b (Dev.new 10)) (hs : ¬ (1 ≤ a2 ∧ a2 ≤ 1099511627776)) => open_no hb fr ln a2 (by simp [Dev.new]) hhi1 (by rw [hE, if_neg (by decide), if_neg hs]; decide))
    rw [hE] at HNO
    unfold AV at HSC HOK HNO
    clear hw6 hg
    clear hE
    go_enter Tryd.func6, Tryd.ntmps6
    go_wp2_with fail
    refine (unhide HNEW).mono ?_
    rintro e w1 ⟨b, rfl, hd1, hb1⟩
    have HD1 := hide hd1
    have HB1 := hide hb1
    clear hd1 hb1 HNEW
    go_wp2_with fail
    refine (unhide HAW w1).mono ?_
    rintro e w2 ⟨rfl, hb2⟩
    obtain ⟨w3, hw3⟩ : ∃ w3, w2.alloc (.cells #[.int .i64 (fr : Int), .int .i64 (ln : Int)] 25) = w3 := ⟨_, rfl⟩
    have hb3 : Below w1.heap.size w1 w3 := by rw [← hw3]; exact hb2.alloc hb2.size _
    have hd3 := ((unhide HD1).later hb3).1
    obtain ⟨A, hA⟩ : ∃ A, w2.heap.size = A := ⟨_, rfl⟩
    have hx3 : w3.heap[A]? = some (.cells #[.int .i64 (fr : Int), .int .i64 (ln : Int)] 25 (0, 0)) := by rw [← hw3, ← hA]; exact heap_alloc_new w2 _
    have p0 := bcell hx3 0
    have p1 := bcell hx3 1
    simp only [List.getElem?_toArray, List.getElem?_cons_zero, List.getElem?_cons_succ] at p0 p1
    have HD3 := hide hd3
    have HX3 := hide hx3
    have HB3 := hide ((unhide HB1).trans (hb3.mono (unhide HB1).size))
    clear hb2 hb3 hd3 hx3 HAW HD1 HB1
    by_cases hs : 1 ≤ a2 ∧ a2 ≤ 1099511627776
    · have s1 : ¬ a2 < 1 := by omega
      have s2 : ¬ 1099511627776 < a2 := by omega
      go_wp2_with fail
      refine (unhide HOK b w3 (unhide HD3) hs (unhide HB3).size).mono ?_
      rintro e w4 ⟨lb, rfl, _, hl4, hb4⟩
      clear hl4 hs
      have HD4 := hide ((unhide HD3).later hb4).1
      have HB4 := hide ((unhide HB3).trans (hb4.mono (unhide HB3).size))
      have hx4 := (hb4.block A (block_lt (unhide HX3))).trans (unhide HX3)
      have q0 := bcell hx4 0
      have q1 := bcell hx4 1
      simp only [List.getElem?_toArray, List.getElem?_cons_zero, List.getElem?_cons_succ] at q0 q1
      clear hb4 hx4 HOK HNO HD3 HB3 HX3 hw3 hA p0 p1
      go_wp2_with fail
      refine (unhide HSC b w4 (unhide HD4)).mono ?_
      rintro e w5 ⟨v5, rfl, ho5, hb5⟩
      obtain ⟨ao, c5, rfl, _⟩ := ownsRow_slice ho5
      have HB5 := hide ((unhide HB4).trans (hb5.mono (unhide HB4).size))
      clear hb5 ho5 HSC
      go_wp2_with fail
      refine (unhide HC _).mono ?_
      rintro e w6 ⟨rfl, rfl⟩
      go_wp2_with fail
      refine (unhide HRC _).mono ?_
      rintro e w6 ⟨rfl, rfl⟩
      go_wp2_with fail
      refine (unhide HNG _).mono ?_
      rintro e w6 ⟨rfl, rfl⟩
      go_wp2_with fail
      go_ret
      exact ⟨rfl, unhide HB5⟩
    · have HN2 := hide (fun b wy hb => unhide HNO b wy hb hs)
      rw [if_neg (by decide), if_neg hs] at HN2
      by_cases s1 : a2 < 1
      · clear hs
        go_wp2_with fail
        refine (unhide HN2 b w3 (unhide HD3)).mono ?_
        rintro e w4 ⟨rfl, hb4⟩
        have HD4 := hide ((unhide HD3).later hb4).1
        have HB4 := hide ((unhide HB3).trans (hb4.mono (unhide HB3).size))
        have hx4 := (hb4.block A (block_lt (unhide HX3))).trans (unhide HX3)
        have q0 := bcell hx4 0
        have q1 := bcell hx4 1
        simp only [List.getElem?_toArray, List.getElem?_cons_zero, List.getElem?_cons_succ] at q0 q1
        clear hb4 hx4 HOK HNO HD3 HB3 HX3 hw3 hA p0 p1
        go_wp2_with fail
        refine (unhide HSC b w4 (unhide HD4)).mono ?_
        rintro e w5 ⟨v5, rfl, ho5, hb5⟩
        obtain ⟨ao, c5, rfl, _⟩ := ownsRow_slice ho5
        have HB5 := hide ((unhide HB4).trans (hb5.mono (unhide HB4).size))
        clear hb5 ho5 HSC
        go_wp2_with fail
        refine (unhide HC _).mono ?_
        rintro e w6 ⟨rfl, rfl⟩
        go_wp2_with fail
        refine (unhide HRC _).mono ?_
        rintro e w6 ⟨rfl, rfl⟩
        go_wp2_with fail
        refine (unhide HNG _).mono ?_
        rintro e w6 ⟨rfl, rfl⟩
        go_wp2_with fail
        go_ret
        exact ⟨rfl, unhide HB5⟩
      · have s2 : 1099511627776 < a2 := by omega
        clear hs
        go_wp2_with fail
        refine (unhide HN2 b w3 (unhide HD3)).mono ?_
        rintro e w4 ⟨rfl, hb4⟩
        have HD4 := hide ((unhide HD3).later hb4).1
        have HB4 := hide ((unhide HB3).trans (hb4.mono (unhide HB3).size))
        have hx4 := (hb4.block A (block_lt (unhide HX3))).trans (unhide HX3)
        have q0 := bcell hx4 0
        have q1 := bcell hx4 1
        simp only [List.getElem?_toArray, List.getElem?_cons_zero, List.getElem?_cons_succ] at q0 q1
        clear hb4 hx4 HOK HNO HD3 HB3 HX3 hw3 hA p0 p1
        go_wp2_with fail
        refine (unhide HSC b w4 (unhide HD4)).mono ?_
        rintro e w5 ⟨v5, rfl, ho5, hb5⟩
        obtain ⟨ao, c5, rfl, _⟩ := ownsRow_slice ho5
        have HB5 := hide ((unhide HB4).trans (hb5.mono (unhide HB4).size))
        clear hb5 ho5 HSC
        go_wp2_with fail
        refine (unhide HC _).mono ?_
        rintro e w6 ⟨rfl, rfl⟩
        go_wp2_with fail
        refine (unhide HRC _).mono ?_
        rintro e w6 ⟨rfl, rfl⟩
        go_wp2_with fail
        refine (unhide HNG _).mono ?_
        rintro e w6 ⟨rfl, rfl⟩
        go_wp2_with fail
        go_ret
        exact ⟨rfl, unhide HB5⟩
end Go.Proofs.YtkohcfmbfafkgaaDoor
