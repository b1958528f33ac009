/- The contract of Scan. -/
import Derived.Test.YtajcaglbbdbibaaDoorWScan
namespace Go.Proofs.YtajcaglbbdbibaaDoor
open Go.RowKit
set_option linter.unusedVariables false
set_option maxRecDepth 100000

theorem cell_three_new (w : World) (u v z : Value) (t : TypeId) (j : Nat) (x : Value) (h : [u, v, z][j]? = some x) : (w.alloc (.cells #[u, v, z] t)).cell? ((⟨w.heap.size, 0, none⟩ : Addr).add j) = some x := by
  rw [plain_add, Nat.zero_add, block_cell (heap_alloc_new w _)]
  match j, h with
  | 0, h => simpa using h
  | 1, h => simpa using h
  | 2, h => simpa using h
  | j + 3, h => simp at h
theorem behind_bounds (q : List UInt8) (h : (Codec.behind q).2 = 0) : (Codec.behind q).1.stamp ≤ 1099511627776 ∧ (Codec.behind q).1.mark ≤ 255 ∧ (Codec.behind q).1.data.length ≤ 44 := by
  have hb := Codec.behind_body q
  unfold Codec.behind at *
  generalize Codec.readData q = rd at *
  generalize Codec.readNum q = rn at *
  generalize Codec.readMark q = rm at *
  by_cases h3 : rd.2.2 ≠ 0
  · rw [if_pos h3] at h
    exact absurd h h3
  · rw [if_neg h3] at h ⊢
    by_cases h4 : rn.1 = 0 ∨ rd.2.1.any (fun c => c != 0) = true
    · rw [if_pos h4] at h
      exact absurd h (by decide)
    · rw [if_neg h4]
      exact (hb (Classical.not_not.1 h3)).2
theorem parse_bounds (l : List UInt8) (h : (Codec.parse l).2 = 0) : (Codec.parse l).1.stamp ≤ 1099511627776 ∧ (Codec.parse l).1.mark ≤ 255 ∧ (Codec.parse l).1.data.length ≤ 44 := by
  have hb := behind_bounds (l.drop 4)
  unfold Codec.parse at *
  generalize Codec.behind (l.drop 4) = q at *
  generalize Codec.sumOf (l.drop 4) = y at *
  by_cases h1 : l.length ≠ 64
  · rw [if_pos h1] at h
    exact absurd h (by decide)
  · rw [if_neg h1] at h ⊢
    by_cases h2 : l.take 4 ≠ y
    · rw [if_pos h2] at h
      exact absurd h (by decide)
    · rw [if_neg h2] at h ⊢
      exact hb h
theorem and_two (m : Nat) (h : m ≤ 3) : bits BinOp.and IntKind.u8 (m : Int) 2 = if m < 2 then 0 else 2 := by
  have : m = 0 ∨ m = 1 ∨ m = 2 ∨ m = 3 := by omega
  rcases this with rfl | rfl | rfl | rfl <;> rfl

set_option maxRecDepth 4000 in
set_option maxHeartbeats 3200000 in
theorem scan_ok {base : Nat} {w : World} {b : Nat} {d : Dev} (h : DevAt base w b d) (fr ln x : Nat) (h2 : 2 ≤ ln) (hfl : fr + ln ≤ d.L.length) (hm : d.L.length ≤ 65536) (hdn : d.down = false) (hcur : ∀ k, k < d.L.length → (d.cur k).length ≤ 1000) (hx : x ≤ 1099511627776) (hn : d.W.length ≤ 1099511627776) :
    Calls Tryd.prog 18 #[.pointer (some ⟨b, 0, none⟩), AV fr ln, .int .i64 (x : Int)] w fun e w' => ∃ v, e = .returned (.tuple #[v, .int .i64 ((Codec.scan (view d fr ln) ln x false [] x).2 : Int), .int .i64 0]) ∧ w'.ownsRow w.heap.size 37 3 v (Codec.scan (view d fr ln) ln x false [] x).1.length (rcs (Codec.scan (view d fr ln) ln x false [] x).1) ∧ Below w.heap.size w w' := by
  have ha : areaE d fr ln = 0 := by unfold areaE; rw [if_neg (by omega)]
  have HCH := hide (fun wy (hb : DevAt base wy b d) => acheck_any hb (fr : Int) (ln : Int) hm (by omega))
  rw [ha] at HCH
  have HPL := hide (fun a wy (hy : a ≤ 4398046511104) => place_any fr ln a wy (by omega) (by omega) (by omega) hy)
  have hpl : ∀ a, place fr ln a < d.L.length := fun a => by
    unfold place
    have := Nat.mod_lt a (show 0 < ln by omega)
    omega
  have HRD : Hid (∀ a wy, DevAt base wy b d → Calls Tryd.prog 24 #[.pointer (some ⟨b, 0, none⟩), .int .i64 ((place fr ln a : Nat) : Int)] wy fun e w' => e = .returned (.tuple #[SV (Codec.parse (d.cur (place fr ln a))).1, .bool ((Codec.parse (d.cur (place fr ln a))).2 == 0), .int .i64 0]) ∧ Below wy.heap.size wy w') := fun a wy hy => by
    have hno : ¬ d.no ((place fr ln a : Nat) : Int) := by have := hpl a; unfold Dev.no; omega
    have e1 : d.read ((place fr ln a : Nat) : Int) = d.cur (place fr ln a) := by
      unfold Dev.read
      rw [if_neg hno, if_neg (by rw [hdn]; decide), Int.toNat_natCast]
    have e2 : d.readE ((place fr ln a : Nat) : Int) = 0 := by
      unfold Dev.readE
      rw [if_neg hno, if_neg (by rw [hdn]; decide)]
    have := sread_ok hy ((place fr ln a : Nat) : Int) hn (by rw [e1]; exact hcur _ (hpl a)) e2
    rw [e1] at this
    exact this
  have HVW : Hid (∀ a, view d fr ln a = if (Codec.parse (d.cur (place fr ln a))).2 = 0 then some (Codec.parse (d.cur (place fr ln a))).1 else none) := fun a => rfl
  have HPB : Hid (∀ a, (Codec.parse (d.cur (place fr ln a))).2 = 0 → (Codec.parse (d.cur (place fr ln a))).1.stamp ≤ 1099511627776 ∧ (Codec.parse (d.cur (place fr ln a))).1.mark ≤ 255 ∧ (Codec.parse (d.cur (place fr ln a))).1.data.length ≤ 44) := fun a => parse_bounds _
  have HFO := hide (fun m o wy hm => follows_any m o wy hm)
  generalize hG : view d fr ln = g at *
  have hln : ln ≤ 65536 := by omega
  clear hG ha hpl hcur hn hdn hm hfl
  obtain ⟨i0, hi, hz0, hz1, hz2⟩ := info_parts info_rec
  unfold AV at *
  obtain ⟨R, hR⟩ : ∃ R, Codec.scan g ln x false [] x = R := ⟨_, rfl⟩
  rw [hR]
  have HR := hide hR
  clear hR
  go_enter Tryd.func18, Tryd.ntmps18
  go_wp2_with fail
  refine (unhide HCH _ (h.later ((Below.refl _ _).alloc (Nat.le_refl _) _)).1).mono ?_
  rintro e w1 ⟨rfl, hb1⟩
  have hx1 : w1.heap[w.heap.size]? = some (.cells #[.int .i64 (fr : Int), .int .i64 (ln : Int)] 25 (0, 0)) := (hb1.block w.heap.size (by simp)).trans (heap_alloc_new w _)
  have hb : Below w.heap.size w w1 := ((Below.refl _ w).alloc (Nat.le_refl _) (.cells #[.int .i64 (fr : Int), .int .i64 (ln : Int)] 25)).trans (hb1.mono (by simp))
  have hlt1 := blt hx1
  obtain ⟨A, hA⟩ : ∃ A, w.heap.size = A := ⟨_, rfl⟩
  obtain ⟨B, hB⟩ : ∃ B, w1.heap.size = B := ⟨_, rfl⟩
  obtain ⟨w2, hw2⟩ : ∃ w2, w1.alloc (.cells #[.pointer none, .slice none 0 0] 75) = w2 := ⟨_, rfl⟩
  have p1A : w2.cell? ⟨A, 1, none⟩ = some (.int .i64 (ln : Int)) := by
    rw [← hw2, ← hA, bcell ((Below.heap_alloc w1 _ _ hlt1).trans hx1)]; rfl
  have HS1 : Hid (SR w w2 A B fr ln (.slice none 0 0) [] []) := by
    have hbA := hb.alloc hb.size (.cells #[.pointer none, .slice none 0 0] 75)
    rw [hw2] at hbA
    refine ⟨hbA, by rw [← hw2, ← hA]; exact (Below.heap_alloc w1 _ _ hlt1).trans hx1, Or.inl ⟨by rw [← hB]; exact hb.size, .slice none 0 0, by rw [← hw2, ← hB]; exact heap_alloc_new w1 _, World.ownsRowF_nil _ _ _ _, fun e => by cases e⟩, World.ownsRow_nil _ _ _ _⟩
  clear hb1 hx1 hb HCH hlt1
  go_wp2_with fail
  clear p1A hw2 hB hA
  go_loopw [27, 10, 12, 13] (fun i v o f wr => ∃ (k : Nat) (bo : Bool) (F : Nat) (rs : List Codec.Rec) (t : List UInt8), k ≤ ln ∧ i = .int .i64 k ∧ o = .bool bo ∧ f = .int .i64 (F : Int) ∧ Codec.scan g ln x false [] x = (rs ++ (Codec.scan g (ln - k) (x + k) bo t F).1, (Codec.scan g (ln - k) (x + k) bo t F).2) ∧ rs.length ≤ k ∧ t.length ≤ 44 * k ∧ SR w wr A B fr ln v rs t) (fun i _ _ _ _ => ln - (intOf i).toNat)
  case atStart =>
    refine ⟨0, false, x, [], [], Nat.zero_le _, rfl, rfl, rfl, ?_, Nat.le_refl _, Nat.le_refl _, unhide HS1⟩
    simp
  case round =>
    obtain ⟨k, bo, F, rs, t, hk, rfl, rfl, rfl, hsc, hrl, htl, hsr⟩ := hrel
    clear HS1
    obtain ⟨ao, c, rfl, hao⟩ := ownsRow_slice hsr.row
    have HSR := hide hsr
    have HSC := hide hsc
    have hA1 := bcell hsr.area 1
    have hA0 := bcell hsr.area 0
    simp only [List.getElem?_toArray, List.getElem?_cons_zero, List.getElem?_cons_succ] at hA0 hA1
    clear hao
    by_cases hlt : k < ln
    · have hki : (k : Int) < (ln : Int) := by omega
      obtain ⟨a, hax⟩ : ∃ a, x + k = a := ⟨_, rfl⟩
      obtain ⟨n', hn'⟩ : ∃ n', ln - k = n' + 1 := ⟨ln - k - 1, by omega⟩
      have hn2 : ln - (k + 1) = n' := by omega
      rw [hax] at HSC
      have hxa : (x : Int) + (k : Int) = (a : Int) := by omega
      rw [hn'] at HSC
      have ha40 : a ≤ 4398046511104 := by omega
      have HAX := hide hax
      have HN2 := hide hn2
      clear hsc hsr hax hn' hn2
      go_wp2_with fail
      refine (unhide HPL a _ ha40).mono ?_
      rintro e w3 ⟨rfl, hb3⟩
      have HS3 := hide ((unhide HSR).later hb3)
      clear hb3 hA0 hA1
      have hrd := unhide HRD a w3 (h.later (unhide HS3).low).1
      have hpb := unhide HPB a
      have hvw := unhide HVW a
      generalize Codec.parse (d.cur (place fr ln a)) = P at *
      generalize place fr ln a = pl at *
      obtain ⟨⟨n, m, dt⟩, pe⟩ := P
      unfold SV at hrd
      dsimp only at hrd hpb hvw
      have HRD3 := hide hrd
      clear hrd
      by_cases hpe : pe = 0
      · subst hpe
        obtain ⟨hn40, hm255, hd44⟩ := hpb rfl
        rw [if_pos rfl] at hvw
        have HVA := hide hvw
        clear hpb hvw
        go_wp2_with fail
        refine (unhide HRD3).mono ?_
        rintro e w4 ⟨rfl, hb4⟩
        obtain ⟨SB, hSB⟩ : ∃ SB, w4.heap.size = SB := ⟨_, rfl⟩
        obtain ⟨w5, hw5⟩ : ∃ w5, w4.alloc (.cells #[.int .i64 (n : Int), .int .u8 (m : Int), .string (S dt)] 60) = w5 := ⟨_, rfl⟩
        have hs4 := (unhide HS3).later hb4
        have hs5 : SR w w5 A B fr ln (.slice ao rs.length c) rs t := by rw [← hw5]; exact hs4.later ((Below.refl _ _).alloc (Nat.le_refl _) _)
        have hbx : w5.heap[SB]? = some (.cells #[.int .i64 (n : Int), .int .u8 (m : Int), .string (S dt)] 60 (0, 0)) := by rw [← hw5, ← hSB]; exact heap_alloc_new w4 _
        have q0 := bcell hbx 0
        have q1 := bcell hbx 1
        have q2 := bcell hbx 2
        simp only [List.getElem?_toArray, List.getElem?_cons_zero, List.getElem?_cons_succ] at q0 q1 q2
        have HS5 := hide hs5
        have HBX := hide hbx
        clear hb4 hs4 hs5 hbx HS3 HRD3 HSR
        by_cases hna : n = a
        · subst hna
          by_cases hfi : m ≤ 3 ∧ (m % 2 = 0 ↔ bo = true)
          · have HF := hide (fun wy => HFO m bo wy (by omega))
            rw [decide_eq_true hfi] at HF
            have hand := and_two m hfi.1
            have HFI : Hid (Codec.fits ⟨n, m, dt⟩ n bo) := ⟨rfl, hfi.1, hfi.2⟩
            have HBW := hide (bwrite w.heap.size B (Lib.byteCells t) (S dt) w5 (unhide HS5).bld (by rw [Lib.byteCells_length]; show t.length + dt.length ≤ _; omega) (unhide HS5).low.size)
            have hdl : (S dt).size = dt.length := rfl
            by_cases hm2 : m < 2
            · rw [if_pos hm2] at hand
              clear hfi hdl
              go_wp2_with fail
              refine (unhide HF _).mono ?_
              rintro e w6 ⟨rfl, rfl⟩
              go_wp2_with fail
              refine (unhide HBW).mono ?_
              rintro e w7 ⟨rfl, hbl, hlo, hot⟩
              have HS7 := hide ((unhide HS5).written dt hbl hlo hot)
              have hbx7 := hot SB _ (unhide HBX) (by intro e; cases e; obtain ⟨p, q, hB, _⟩ := isBuilderF_blk (unhide HS5).bld; rw [unhide HBX] at hB; simp at hB) (by intro c fz e; cases e)
              have z1 := bcell hbx7 1
              simp only [List.getElem?_toArray, List.getElem?_cons_zero, List.getElem?_cons_succ] at z1
              clear q0 q1 q2 hbl hlo hot hbx7 HBW HF
              go_wp2_with fail
              refine ⟨⟨k + 1, true, F, rs, t ++ dt, by omega, by simp, rfl, rfl, ?_, by omega, by rw [List.length_append]; omega, unhide HS7⟩, ?_⟩
              · rw [unhide HSC, Codec.scan_open (unhide HVA) (unhide HFI) hm2, unhide HN2, show x + (k + 1) = n + 1 by have := unhide HAX; omega]
              · simp [intOf]; omega
            · rw [if_neg hm2] at hand
              clear hfi hdl
              go_wp2_with fail
              refine (unhide HF _).mono ?_
              rintro e w6 ⟨rfl, rfl⟩
              go_wp2_with fail
              refine (unhide HBW).mono ?_
              rintro e w7 ⟨rfl, hbl, hlo, hot⟩
              have HS7 := hide ((unhide HS5).written dt hbl hlo hot)
              have hbx7 := hot SB _ (unhide HBX) (by intro e; cases e; obtain ⟨p, q, hB, _⟩ := isBuilderF_blk (unhide HS5).bld; rw [unhide HBX] at hB; simp at hB) (by intro c fz e; cases e)
              have z0 := bcell hbx7 0
              have z1 := bcell hbx7 1
              simp only [List.getElem?_toArray, List.getElem?_cons_zero, List.getElem?_cons_succ] at z0 z1
              have HBX7 := hide hbx7
              have hSBB : SB ≠ B := by
                rintro rfl
                obtain ⟨p, q, hB, _⟩ := isBuilderF_blk (unhide HS7).bld
                rw [hbx7] at hB
                simp at hB
              clear q0 q1 q2 hbl hlo hot hbx7 HBW HF hSB hw5 HS5 HBX
              have HS7D := hide ((unhide HS7).later (Below.refl w7.heap.size w7).drew)
              have HST := hide (bstring w.heap.size B (t ++ dt) w7.drew (unhide HS7D).bld (unhide HS7D).low.size)
              obtain ⟨T, hT⟩ : ∃ T, t ++ dt = T := ⟨_, rfl⟩
              rw [hT] at HST HS7D
              have HT := hide hT
              clear hT
              go_wp2_with fail
              go_region_law (first
                | (go_simp; go_at_call 33; refine (unhide HST).mono ?_; rintro e w8 ⟨rfl, hbl, hlo, hot⟩; have HS8 := hide ((unhide HS7D).kept T hbl hlo hot); have hbx8 := hot SB _ (unhide HBX7) (by intro e; cases e; exact hSBB rfl) (by intro c fz e; cases e); have y0 := bcell hbx8 0; simp only [List.getElem?_toArray, List.getElem?_cons_zero] at y0; have HBX8 := hide hbx8; clear hbl hlo hot hbx8)
                | (refine step_append_fresh rfl (.tmp 70) (.tmp 76) 45 rfl w.heap.size 37 i0 (.agg #[.int .i64 0, .int .i64 0, .string ⟨#[]⟩]) 3 32 under_recs hi hz0 hz1 hz2 rfl (by decide) (.slice ao rs.length c) rs.length (rcs rs) (by simp [Act.eval]) ((unhide HS8).row.alloc _) ⟨w8.heap.size, 0, none⟩ 1 1 [.int .i64 (F : Int), .int .i64 (n : Int), .string (S T)] (by simp [Act.eval]) rfl (fun j x hx => by exact cell_three_new _ _ _ _ _ j x hx) (fun u hu => by simp at hu; rcases hu with rfl | rfl | rfl <;> rfl) (by unfold maxLen; omega) (by omega) (by have := (unhide HS8).low.size; simp; omega) ?_; intro v' w9 hown' hgrow hfresh; have hs9 := ((unhide HS8).later ((Below.refl _ w8).alloc (Nat.le_refl _) _)).grown ⟨F, n, T⟩ hown' hgrow; have HS9 := hide hs9; have HBX9 : Hid (w9.heap[SB]? = some (.cells #[.int .i64 (n : Int), .int .u8 (m : Int), .string (S dt)] 60 (0, 0))) := (by exact (hgrow.block SB (by have := blt (unhide HBX8); simp; omega) (fun e => ownsRow_unlike (unhide HS8).row (unhide HBX8) (by decide) e.symm)).trans ((Below.heap_alloc w8 _ _ (blt (unhide HBX8))).trans (unhide HBX8))); obtain ⟨a1, c1, rfl, _⟩ := ownsRow_slice hown'; clear hown' hgrow hfresh hs9))
              all_goals
                clear z0 z1 y0 HS8 HBX8 HST HS7 HS7D HBX7
                obtain ⟨bp, bv, hbB, _⟩ := isBuilderF_blk (unhide HS9).bld
                have HRS := hide (breset B bp bv w9 hbB)
                clear hbB
                go_wp2_with fail
                refine (unhide HRS).mono ?_
                rintro e w10 ⟨rfl, rfl⟩
                have HS10 := hide (unhide HS9).reset
                have x0 : ((w9.setCell ⟨B, 0, none⟩ (.pointer none)).setCell ⟨B, 1, none⟩ (.slice none 0 0)).cell? ⟨SB, 0, none⟩ = some (.int .i64 (n : Int)) := by
                  have e : ((w9.setCell ⟨B, 0, none⟩ (.pointer none)).setCell ⟨B, 1, none⟩ (.slice none 0 0)).heap[SB]? = w9.heap[SB]? := by
                    rw [heap_setCell_other _ ⟨B, 1, none⟩ SB _ hSBB, heap_setCell_other _ ⟨B, 0, none⟩ SB _ hSBB]
                  rw [bcell (e.trans (unhide HBX9)) 0]; rfl
                generalize (w9.setCell ⟨B, 0, none⟩ (.pointer none)).setCell ⟨B, 1, none⟩ (.slice none 0 0) = w10 at *
                clear HRS HS9 HBX9
                go_wp2_with fail
                refine ⟨⟨k + 1, false, n + 1, rs ++ [⟨F, n, T⟩], [], by omega, by simp, rfl, by simp, ?_, by rw [List.length_append]; simp; omega, Nat.zero_le _, ?_⟩, ?_⟩
                · rw [unhide HSC, Codec.scan_whole (unhide HVA) (unhide HFI) hm2, unhide HN2, show x + (k + 1) = n + 1 by have := unhide HAX; omega, ← unhide HT]
                  simp
                · have := unhide HS10
                  simpa using this
                · simp [intOf]; omega
          · have HF := hide (fun wy => HFO m bo wy (by omega))
            rw [decide_eq_false hfi] at HF
            have hRR : R = (rs, F) := by
              rw [← unhide HR, unhide HSC, Codec.scan_not (unhide HVA) (fun hx => hfi hx.2)]
              simp
            have HRR := hide hRR
            clear hfi hRR
            go_wp2_with fail
            refine (unhide HF _).mono ?_
            rintro e w6 ⟨rfl, rfl⟩
            go_wp2_with fail
            go_ret3
            rw [unhide HRR]
            exact ⟨_, rfl, (unhide HS5).row, (unhide HS5).low⟩
        · have hne : ((n : Int) != (a : Int)) = true := by simp; omega
          have hRR : R = (rs, F) := by
            rw [← unhide HR, unhide HSC, Codec.scan_not (unhide HVA) (fun hx => hna hx.1)]
            simp
          have HRR := hide hRR
          clear hna hRR
          go_wp2_with fail
          go_ret3
          rw [unhide HRR]
          exact ⟨_, rfl, (unhide HS5).row, (unhide HS5).low⟩
      · have hpb0 : (pe == 0) = false := by simpa using hpe
        rw [if_neg hpe] at hvw
        have hRR : R = (rs, F) := by
          rw [← unhide HR, unhide HSC, Codec.scan_none hvw]
          simp
        have HRR := hide hRR
        rw [hpb0] at HRD3
        clear hRR hvw hpb hpb0 hpe
        go_wp2_with fail
        refine (unhide HRD3).mono ?_
        rintro e w4 ⟨rfl, hb4⟩
        have HS4 := hide ((unhide HS3).later hb4)
        clear hb4
        go_wp2_with fail
        go_ret3
        rw [unhide HRR]
        have h5 := (unhide HS4).later ((Below.refl _ w4).alloc (Nat.le_refl _) (.cells #[.int .i64 (n : Int), .int .u8 (m : Int), .string (S dt)] 60))
        exact ⟨_, rfl, h5.row, h5.low⟩
    · have hkl : k = ln := by omega
      have hRR : R = (rs, F) := by
        rw [← unhide HR, hsc, hkl, Nat.sub_self]
        simp [Codec.scan]
      have HRR := hide hRR
      have hki : ¬ (k : Int) < (ln : Int) := by omega
      clear hRR hkl hsc hsr hA0 hA1
      go_wp2_with fail
      go_ret3
      rw [unhide HRR]
      exact ⟨_, rfl, (unhide HSR).row, (unhide HSR).low⟩
end Go.Proofs.YtajcaglbbdbibaaDoor
