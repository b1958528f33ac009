/- Texts that this proof needs, one behind the other: WScan2, WResume, WResMath, WAwake, WAwake2. -/
import Derived.Test.YtajcaglbbdbibaaDoorBundleW6
import Derived.Test.YtajcaglbbdbibaaDoorBundleC1
/- The contract of Scan. -/
namespace Go.Proofs.YtajcaglbbdbibaaDoor
open Go.RowKit
set_option linter.unusedVariables false
set_option maxRecDepth 100000

theorem cell_three_new (w : World) (u v z : Value) (t : TypeId) (j : Nat) (x : Value) (h : [u, v, z][j]? = some x) : (w.alloc (.cells #[u, v, z] t)).cell? ((⟨w.heap.size, 0, none⟩ : Addr).add j) = some x := by
  rw [plain_add, Nat.zero_add, block_cell (heap_alloc_new w _)]
  match j, h with
  | 0, h => simpa using h
  | 1, h => simpa using h
  | 2, h => simpa using h
  | j + 3, h => simp at h
theorem behind_bounds (q : List UInt8) (h : (Codec.behind q).2 = 0) : (Codec.behind q).1.stamp ≤ 1099511627776 ∧ (Codec.behind q).1.mark ≤ 255 ∧ (Codec.behind q).1.data.length ≤ 44 := by
  have hb := Codec.behind_body q
  unfold Codec.behind at *
  generalize Codec.readData q = rd at *
  generalize Codec.readNum q = rn at *
  generalize Codec.readMark q = rm at *
  by_cases h3 : rd.2.2 ≠ 0
  · rw [if_pos h3] at h
    exact absurd h h3
  · rw [if_neg h3] at h ⊢
    by_cases h4 : rn.1 = 0 ∨ rd.2.1.any (fun c => c != 0) = true
    · rw [if_pos h4] at h
      exact absurd h (by decide)
    · rw [if_neg h4]
      exact (hb (Classical.not_not.1 h3)).2
theorem parse_bounds (l : List UInt8) (h : (Codec.parse l).2 = 0) : (Codec.parse l).1.stamp ≤ 1099511627776 ∧ (Codec.parse l).1.mark ≤ 255 ∧ (Codec.parse l).1.data.length ≤ 44 := by
  have hb := behind_bounds (l.drop 4)
  unfold Codec.parse at *
  generalize Codec.behind (l.drop 4) = q at *
  generalize Codec.sumOf (l.drop 4) = y at *
  by_cases h1 : l.length ≠ 64
  · rw [if_pos h1] at h
    exact absurd h (by decide)
  · rw [if_neg h1] at h ⊢
    by_cases h2 : l.take 4 ≠ y
    · rw [if_pos h2] at h
      exact absurd h (by decide)
    · rw [if_neg h2] at h ⊢
      exact hb h
theorem and_two (m : Nat) (h : m ≤ 3) : bits BinOp.and IntKind.u8 (m : Int) 2 = if m < 2 then 0 else 2 := by
  have : m = 0 ∨ m = 1 ∨ m = 2 ∨ m = 3 := by omega
  rcases this with rfl | rfl | rfl | rfl <;> rfl

set_option maxRecDepth 4000 in
set_option maxHeartbeats 3200000 in
theorem scan_ok {base : Nat} {w : World} {b : Nat} {d : Dev} (h : DevAt base w b d) (fr ln x : Nat) (h2 : 2 ≤ ln) (hfl : fr + ln ≤ d.L.length) (hm : d.L.length ≤ 65536) (hdn : d.down = false) (hcur : ∀ k, k < d.L.length → (d.cur k).length ≤ 1000) (hx : x ≤ 1099511627776) (hn : d.W.length ≤ 1099511627776) :
    Calls Tryd.prog 18 #[.pointer (some ⟨b, 0, none⟩), AV fr ln, .int .i64 (x : Int)] w fun e w' => ∃ v, e = .returned (.tuple #[v, .int .i64 ((Codec.scan (view d fr ln) ln x false [] x).2 : Int), .int .i64 0]) ∧ w'.ownsRow w.heap.size 37 3 v (Codec.scan (view d fr ln) ln x false [] x).1.length (rcs (Codec.scan (view d fr ln) ln x false [] x).1) ∧ Below w.heap.size w w' := by
  have ha : areaE d fr ln = 0 := by unfold areaE; rw [if_neg (by omega)]
  have HCH := hide (fun wy (hb : DevAt base wy b d) => acheck_any hb (fr : Int) (ln : Int) hm (by omega))
  rw [ha] at HCH
  have HPL := hide (fun a wy (hy : a ≤ 4398046511104) => place_any fr ln a wy (by omega) (by omega) (by omega) hy)
  have hpl : ∀ a, place fr ln a < d.L.length := fun a => by
    unfold place
    have := Nat.mod_lt a (show 0 < ln by omega)
    omega
  have HRD : Hid (∀ a wy, DevAt base wy b d → Calls Tryd.prog 24 #[.pointer (some ⟨b, 0, none⟩), .int .i64 ((place fr ln a : Nat) : Int)] wy fun e w' => e = .returned (.tuple #[SV (Codec.parse (d.cur (place fr ln a))).1, .bool ((Codec.parse (d.cur (place fr ln a))).2 == 0), .int .i64 0]) ∧ Below wy.heap.size wy w') := fun a wy hy => by
    have hno : ¬ d.no ((place fr ln a : Nat) : Int) := by have := hpl a; unfold Dev.no; omega
    have e1 : d.read ((place fr ln a : Nat) : Int) = d.cur (place fr ln a) := by
      unfold Dev.read
      rw [if_neg hno, if_neg (by rw [hdn]; decide), Int.toNat_natCast]
    have e2 : d.readE ((place fr ln a : Nat) : Int) = 0 := by
      unfold Dev.readE
      rw [if_neg hno, if_neg (by rw [hdn]; decide)]
    have := sread_ok hy ((place fr ln a : Nat) : Int) hn (by rw [e1]; exact hcur _ (hpl a)) e2
    rw [e1] at this
    exact this
  have HVW : Hid (∀ a, view d fr ln a = if (Codec.parse (d.cur (place fr ln a))).2 = 0 then some (Codec.parse (d.cur (place fr ln a))).1 else none) := fun a => rfl
  have HPB : Hid (∀ a, (Codec.parse (d.cur (place fr ln a))).2 = 0 → (Codec.parse (d.cur (place fr ln a))).1.stamp ≤ 1099511627776 ∧ (Codec.parse (d.cur (place fr ln a))).1.mark ≤ 255 ∧ (Codec.parse (d.cur (place fr ln a))).1.data.length ≤ 44) := fun a => parse_bounds _
  have HFO := hide (fun m o wy hm => follows_any m o wy hm)
  generalize hG : view d fr ln = g at *
  have hln : ln ≤ 65536 := by omega
  clear hG ha hpl hcur hn hdn hm hfl
  obtain ⟨i0, hi, hz0, hz1, hz2⟩ := info_parts info_rec
  unfold AV at *
  obtain ⟨R, hR⟩ : ∃ R, Codec.scan g ln x false [] x = R := ⟨_, rfl⟩
  rw [hR]
  have HR := hide hR
  clear hR
  go_enter Tryd.func18, Tryd.ntmps18
  go_wp2_with fail
  refine (unhide HCH _ (h.later ((Below.refl _ _).alloc (Nat.le_refl _) _)).1).mono ?_
  rintro e w1 ⟨rfl, hb1⟩
  have hx1 : w1.heap[w.heap.size]? = some (.cells #[.int .i64 (fr : Int), .int .i64 (ln : Int)] 25 (0, 0)) := (hb1.block w.heap.size (by simp)).trans (heap_alloc_new w _)
  have hb : Below w.heap.size w w1 := ((Below.refl _ w).alloc (Nat.le_refl _) (.cells #[.int .i64 (fr : Int), .int .i64 (ln : Int)] 25)).trans (hb1.mono (by simp))
  have hlt1 := blt hx1
  obtain ⟨A, hA⟩ : ∃ A, w.heap.size = A := ⟨_, rfl⟩
  obtain ⟨B, hB⟩ : ∃ B, w1.heap.size = B := ⟨_, rfl⟩
  obtain ⟨w2, hw2⟩ : ∃ w2, w1.alloc (.cells #[.pointer none, .slice none 0 0] 75) = w2 := ⟨_, rfl⟩
  have p1A : w2.cell? ⟨A, 1, none⟩ = some (.int .i64 (ln : Int)) := by
    rw [← hw2, ← hA, bcell ((Below.heap_alloc w1 _ _ hlt1).trans hx1)]; rfl
  have HS1 : Hid (SR w w2 A B fr ln (.slice none 0 0) [] []) := by
    have hbA := hb.alloc hb.size (.cells #[.pointer none, .slice none 0 0] 75)
    rw [hw2] at hbA
    refine ⟨hbA, by rw [← hw2, ← hA]; exact (Below.heap_alloc w1 _ _ hlt1).trans hx1, Or.inl ⟨by rw [← hB]; exact hb.size, .slice none 0 0, by rw [← hw2, ← hB]; exact heap_alloc_new w1 _, World.ownsRowF_nil _ _ _ _, fun e => by cases e⟩, World.ownsRow_nil _ _ _ _⟩
  clear hb1 hx1 hb HCH hlt1
  go_wp2_with fail
  clear p1A hw2 hB hA
  go_loopw [27, 10, 12, 13] (fun i v o f wr => ∃ (k : Nat) (bo : Bool) (F : Nat) (rs : List Codec.Rec) (t : List UInt8), k ≤ ln ∧ i = .int .i64 k ∧ o = .bool bo ∧ f = .int .i64 (F : Int) ∧ Codec.scan g ln x false [] x = (rs ++ (Codec.scan g (ln - k) (x + k) bo t F).1, (Codec.scan g (ln - k) (x + k) bo t F).2) ∧ rs.length ≤ k ∧ t.length ≤ 44 * k ∧ SR w wr A B fr ln v rs t) (fun i _ _ _ _ => ln - (intOf i).toNat)
  case atStart =>
    refine ⟨0, false, x, [], [], Nat.zero_le _, rfl, rfl, rfl, ?_, Nat.le_refl _, Nat.le_refl _, unhide HS1⟩
    simp
  case round =>
    obtain ⟨k, bo, F, rs, t, hk, rfl, rfl, rfl, hsc, hrl, htl, hsr⟩ := hrel
    clear HS1
    obtain ⟨ao, c, rfl, hao⟩ := ownsRow_slice hsr.row
    have HSR := hide hsr
    have HSC := hide hsc
    have hA1 := bcell hsr.area 1
    have hA0 := bcell hsr.area 0
    simp only [List.getElem?_toArray, List.getElem?_cons_zero, List.getElem?_cons_succ] at hA0 hA1
    clear hao
    by_cases hlt : k < ln
    · have hki : (k : Int) < (ln : Int) := by omega
      obtain ⟨a, hax⟩ : ∃ a, x + k = a := ⟨_, rfl⟩
      obtain ⟨n', hn'⟩ : ∃ n', ln - k = n' + 1 := ⟨ln - k - 1, by omega⟩
      have hn2 : ln - (k + 1) = n' := by omega
      rw [hax] at HSC
      have hxa : (x : Int) + (k : Int) = (a : Int) := by omega
      rw [hn'] at HSC
      have ha40 : a ≤ 4398046511104 := by omega
      have HAX := hide hax
      have HN2 := hide hn2
      clear hsc hsr hax hn' hn2
      go_wp2_with fail
      refine (unhide HPL a _ ha40).mono ?_
      rintro e w3 ⟨rfl, hb3⟩
      have HS3 := hide ((unhide HSR).later hb3)
      clear hb3 hA0 hA1
      have hrd := unhide HRD a w3 (h.later (unhide HS3).low).1
      have hpb := unhide HPB a
      have hvw := unhide HVW a
      generalize Codec.parse (d.cur (place fr ln a)) = P at *
      generalize place fr ln a = pl at *
      obtain ⟨⟨n, m, dt⟩, pe⟩ := P
      unfold SV at hrd
      dsimp only at hrd hpb hvw
      have HRD3 := hide hrd
      clear hrd
      by_cases hpe : pe = 0
      · subst hpe
        obtain ⟨hn40, hm255, hd44⟩ := hpb rfl
        rw [if_pos rfl] at hvw
        have HVA := hide hvw
        clear hpb hvw
        go_wp2_with fail
        refine (unhide HRD3).mono ?_
        rintro e w4 ⟨rfl, hb4⟩
        obtain ⟨SB, hSB⟩ : ∃ SB, w4.heap.size = SB := ⟨_, rfl⟩
        obtain ⟨w5, hw5⟩ : ∃ w5, w4.alloc (.cells #[.int .i64 (n : Int), .int .u8 (m : Int), .string (S dt)] 60) = w5 := ⟨_, rfl⟩
        have hs4 := (unhide HS3).later hb4
        have hs5 : SR w w5 A B fr ln (.slice ao rs.length c) rs t := by rw [← hw5]; exact hs4.later ((Below.refl _ _).alloc (Nat.le_refl _) _)
        have hbx : w5.heap[SB]? = some (.cells #[.int .i64 (n : Int), .int .u8 (m : Int), .string (S dt)] 60 (0, 0)) := by rw [← hw5, ← hSB]; exact heap_alloc_new w4 _
        have q0 := bcell hbx 0
        have q1 := bcell hbx 1
        have q2 := bcell hbx 2
        simp only [List.getElem?_toArray, List.getElem?_cons_zero, List.getElem?_cons_succ] at q0 q1 q2
        have HS5 := hide hs5
        have HBX := hide hbx
        clear hb4 hs4 hs5 hbx HS3 HRD3 HSR
        by_cases hna : n = a
        · subst hna
          by_cases hfi : m ≤ 3 ∧ (m % 2 = 0 ↔ bo = true)
          · have HF := hide (fun wy => HFO m bo wy (by omega))
            rw [decide_eq_true hfi] at HF
            have hand := and_two m hfi.1
            have HFI : Hid (Codec.fits ⟨n, m, dt⟩ n bo) := ⟨rfl, hfi.1, hfi.2⟩
            have HBW := hide (bwrite w.heap.size B (Lib.byteCells t) (S dt) w5 (unhide HS5).bld (by rw [Lib.byteCells_length]; show t.length + dt.length ≤ _; omega) (unhide HS5).low.size)
            have hdl : (S dt).size = dt.length := rfl
            by_cases hm2 : m < 2
            · rw [if_pos hm2] at hand
              clear hfi hdl
              go_wp2_with fail
              refine (unhide HF _).mono ?_
              rintro e w6 ⟨rfl, rfl⟩
              go_wp2_with fail
              refine (unhide HBW).mono ?_
              rintro e w7 ⟨rfl, hbl, hlo, hot⟩
              have HS7 := hide ((unhide HS5).written dt hbl hlo hot)
              have hbx7 := hot SB _ (unhide HBX) (by intro e; cases e; obtain ⟨p, q, hB, _⟩ := isBuilderF_blk (unhide HS5).bld; rw [unhide HBX] at hB; simp at hB) (by intro c fz e; cases e)
              have z1 := bcell hbx7 1
              simp only [List.getElem?_toArray, List.getElem?_cons_zero, List.getElem?_cons_succ] at z1
              clear q0 q1 q2 hbl hlo hot hbx7 HBW HF
              go_wp2_with fail
              refine ⟨⟨k + 1, true, F, rs, t ++ dt, by omega, by simp, rfl, rfl, ?_, by omega, by rw [List.length_append]; omega, unhide HS7⟩, ?_⟩
              · rw [unhide HSC, Codec.scan_open (unhide HVA) (unhide HFI) hm2, unhide HN2, show x + (k + 1) = n + 1 by have := unhide HAX; omega]
              · simp [intOf]; omega
            · rw [if_neg hm2] at hand
              clear hfi hdl
              go_wp2_with fail
              refine (unhide HF _).mono ?_
              rintro e w6 ⟨rfl, rfl⟩
              go_wp2_with fail
              refine (unhide HBW).mono ?_
              rintro e w7 ⟨rfl, hbl, hlo, hot⟩
              have HS7 := hide ((unhide HS5).written dt hbl hlo hot)
              have hbx7 := hot SB _ (unhide HBX) (by intro e; cases e; obtain ⟨p, q, hB, _⟩ := isBuilderF_blk (unhide HS5).bld; rw [unhide HBX] at hB; simp at hB) (by intro c fz e; cases e)
              have z0 := bcell hbx7 0
              have z1 := bcell hbx7 1
              simp only [List.getElem?_toArray, List.getElem?_cons_zero, List.getElem?_cons_succ] at z0 z1
              have HBX7 := hide hbx7
              have hSBB : SB ≠ B := by
                rintro rfl
                obtain ⟨p, q, hB, _⟩ := isBuilderF_blk (unhide HS7).bld
                rw [hbx7] at hB
                simp at hB
              clear q0 q1 q2 hbl hlo hot hbx7 HBW HF hSB hw5 HS5 HBX
              have HS7D := hide ((unhide HS7).later (Below.refl w7.heap.size w7).drew)
              have HST := hide (bstring w.heap.size B (t ++ dt) w7.drew (unhide HS7D).bld (unhide HS7D).low.size)
              obtain ⟨T, hT⟩ : ∃ T, t ++ dt = T := ⟨_, rfl⟩
              rw [hT] at HST HS7D
              have HT := hide hT
              clear hT
              go_wp2_with fail
              go_region_law (first
                | (go_simp; go_at_call 33; refine (unhide HST).mono ?_; rintro e w8 ⟨rfl, hbl, hlo, hot⟩; have HS8 := hide ((unhide HS7D).kept T hbl hlo hot); have hbx8 := hot SB _ (unhide HBX7) (by intro e; cases e; exact hSBB rfl) (by intro c fz e; cases e); have y0 := bcell hbx8 0; simp only [List.getElem?_toArray, List.getElem?_cons_zero] at y0; have HBX8 := hide hbx8; clear hbl hlo hot hbx8)
                | (refine step_append_fresh rfl (.tmp 70) (.tmp 76) 45 rfl w.heap.size 37 i0 (.agg #[.int .i64 0, .int .i64 0, .string ⟨#[]⟩]) 3 32 under_recs hi hz0 hz1 hz2 rfl (by decide) (.slice ao rs.length c) rs.length (rcs rs) (by simp [Act.eval]) ((unhide HS8).row.alloc _) ⟨w8.heap.size, 0, none⟩ 1 1 [.int .i64 (F : Int), .int .i64 (n : Int), .string (S T)] (by simp [Act.eval]) rfl (fun j x hx => by exact cell_three_new _ _ _ _ _ j x hx) (fun u hu => by simp at hu; rcases hu with rfl | rfl | rfl <;> rfl) (by unfold maxLen; omega) (by omega) (by have := (unhide HS8).low.size; simp; omega) ?_; intro v' w9 hown' hgrow hfresh; have hs9 := ((unhide HS8).later ((Below.refl _ w8).alloc (Nat.le_refl _) _)).grown ⟨F, n, T⟩ hown' hgrow; have HS9 := hide hs9; have HBX9 : Hid (w9.heap[SB]? = some (.cells #[.int .i64 (n : Int), .int .u8 (m : Int), .string (S dt)] 60 (0, 0))) := (by exact (hgrow.block SB (by have := blt (unhide HBX8); simp; omega) (fun e => ownsRow_unlike (unhide HS8).row (unhide HBX8) (by decide) e.symm)).trans ((Below.heap_alloc w8 _ _ (blt (unhide HBX8))).trans (unhide HBX8))); obtain ⟨a1, c1, rfl, _⟩ := ownsRow_slice hown'; clear hown' hgrow hfresh hs9))
              all_goals
                clear z0 z1 y0 HS8 HBX8 HST HS7 HS7D HBX7
                obtain ⟨bp, bv, hbB, _⟩ := isBuilderF_blk (unhide HS9).bld
                have HRS := hide (breset B bp bv w9 hbB)
                clear hbB
                go_wp2_with fail
                refine (unhide HRS).mono ?_
                rintro e w10 ⟨rfl, rfl⟩
                have HS10 := hide (unhide HS9).reset
                have x0 : ((w9.setCell ⟨B, 0, none⟩ (.pointer none)).setCell ⟨B, 1, none⟩ (.slice none 0 0)).cell? ⟨SB, 0, none⟩ = some (.int .i64 (n : Int)) := by
                  have e : ((w9.setCell ⟨B, 0, none⟩ (.pointer none)).setCell ⟨B, 1, none⟩ (.slice none 0 0)).heap[SB]? = w9.heap[SB]? := by
                    rw [heap_setCell_other _ ⟨B, 1, none⟩ SB _ hSBB, heap_setCell_other _ ⟨B, 0, none⟩ SB _ hSBB]
                  rw [bcell (e.trans (unhide HBX9)) 0]; rfl
                generalize (w9.setCell ⟨B, 0, none⟩ (.pointer none)).setCell ⟨B, 1, none⟩ (.slice none 0 0) = w10 at *
                clear HRS HS9 HBX9
                go_wp2_with fail
                refine ⟨⟨k + 1, false, n + 1, rs ++ [⟨F, n, T⟩], [], by omega, by simp, rfl, by simp, ?_, by rw [List.length_append]; simp; omega, Nat.zero_le _, ?_⟩, ?_⟩
                · rw [unhide HSC, Codec.scan_whole (unhide HVA) (unhide HFI) hm2, unhide HN2, show x + (k + 1) = n + 1 by have := unhide HAX; omega, ← unhide HT]
                  simp
                · have := unhide HS10
                  simpa using this
                · simp [intOf]; omega
          · have HF := hide (fun wy => HFO m bo wy (by omega))
            rw [decide_eq_false hfi] at HF
            have hRR : R = (rs, F) := by
              rw [← unhide HR, unhide HSC, Codec.scan_not (unhide HVA) (fun hx => hfi hx.2)]
              simp
            have HRR := hide hRR
            clear hfi hRR
            go_wp2_with fail
            refine (unhide HF _).mono ?_
            rintro e w6 ⟨rfl, rfl⟩
            go_wp2_with fail
            go_ret3
            rw [unhide HRR]
            exact ⟨_, rfl, (unhide HS5).row, (unhide HS5).low⟩
        · have hne : ((n : Int) != (a : Int)) = true := by simp; omega
          have hRR : R = (rs, F) := by
            rw [← unhide HR, unhide HSC, Codec.scan_not (unhide HVA) (fun hx => hna hx.1)]
            simp
          have HRR := hide hRR
          clear hna hRR
          go_wp2_with fail
          go_ret3
          rw [unhide HRR]
          exact ⟨_, rfl, (unhide HS5).row, (unhide HS5).low⟩
      · have hpb0 : (pe == 0) = false := by simpa using hpe
        rw [if_neg hpe] at hvw
        have hRR : R = (rs, F) := by
          rw [← unhide HR, unhide HSC, Codec.scan_none hvw]
          simp
        have HRR := hide hRR
        rw [hpb0] at HRD3
        clear hRR hvw hpb hpb0 hpe
        go_wp2_with fail
        refine (unhide HRD3).mono ?_
        rintro e w4 ⟨rfl, hb4⟩
        have HS4 := hide ((unhide HS3).later hb4)
        clear hb4
        go_wp2_with fail
        go_ret3
        rw [unhide HRR]
        have h5 := (unhide HS4).later ((Below.refl _ w4).alloc (Nat.le_refl _) (.cells #[.int .i64 (n : Int), .int .u8 (m : Int), .string (S dt)] 60))
        exact ⟨_, rfl, h5.row, h5.low⟩
    · have hkl : k = ln := by omega
      have hRR : R = (rs, F) := by
        rw [← unhide HR, hsc, hkl, Nat.sub_self]
        simp [Codec.scan]
      have HRR := hide hRR
      have hki : ¬ (k : Int) < (ln : Int) := by omega
      clear hRR hkl hsc hsr hA0 hA1
      go_wp2_with fail
      go_ret3
      rw [unhide HRR]
      exact ⟨_, rfl, (unhide HSR).row, (unhide HSR).low⟩
end Go.Proofs.YtajcaglbbdbibaaDoor
/- The contracts of wipe and Resume. -/
namespace Go.Proofs.YtajcaglbbdbibaaDoor
open Go.RowKit
set_option linter.unusedVariables false
set_option maxRecDepth 100000

def Dev.wipes (fr ln : Nat) : Nat → Nat → Dev → Dev × Int
  | 0, _, d => (d.flush, d.flushE)
  | n + 1, a, d => if d.writeE ((place fr ln a : Nat) : Int) [] ≠ 0 then (d.write ((place fr ln a : Nat) : Int) [], d.writeE ((place fr ln a : Nat) : Int) []) else Dev.wipes fr ln n (a + 1) (d.write ((place fr ln a : Nat) : Int) [])

/- What Resume leaves: the device, its error. -/
def Dev.resumes (fr ln x : Nat) (d : Dev) : Dev × Int := Dev.wipes fr ln (x + ln - (Codec.scan (view d fr ln) ln x false [] x).2) (Codec.scan (view d fr ln) ln x false [] x).2 d
theorem scan_end {g : Nat → Option Codec.Sec} : ∀ n a o t f, f ≤ a → f ≤ (Codec.scan g n a o t f).2 ∧ (Codec.scan g n a o t f).2 ≤ a + n
  | 0, a, o, t, f, h => ⟨Nat.le_refl _, h⟩
  | n + 1, a, o, t, f, h => by
    cases e : g a with
    | none => rw [Codec.scan_none e]; exact ⟨Nat.le_refl _, by show f ≤ _; omega⟩
    | some x =>
      by_cases hf : Codec.fits x a o
      · by_cases hm : x.mark < 2
        · rw [Codec.scan_open e hf hm]
          have := scan_end (g := g) n (a + 1) true (t ++ x.data) f (by omega)
          exact ⟨this.1, by omega⟩
        · rw [Codec.scan_whole e hf hm]
          have := scan_end (g := g) n (a + 1) false [] (a + 1) (Nat.le_refl _)
          exact ⟨by show f ≤ (Codec.scan g n (a + 1) false [] (a + 1)).2; omega, by show (Codec.scan g n (a + 1) false [] (a + 1)).2 ≤ _; omega⟩
      · rw [Codec.scan_not e hf]; exact ⟨Nat.le_refl _, by show f ≤ _; omega⟩

end Go.Proofs.YtajcaglbbdbibaaDoor
/- Plain mathematics: a log that is resumed, broken off, and resumed again. -/
namespace Go.Proofs.YtajcaglbbdbibaaDoor
open Go.RowKit
set_option linter.unusedVariables false
set_option maxRecDepth 100000

theorem wipes_can (fr ln : Nat) (hl : 0 < ln) : ∀ n a (d : Dev), fr + ln ≤ d.L.length → Fine d →
    (∀ k c, can (Dev.wipes fr ln n a d).1 k c → can d k c ∨ ∃ i, i < n ∧ k = place fr ln (a + i) ∧ c = whole []) ∧ Fine (Dev.wipes fr ln n a d).1 ∧ (Dev.wipes fr ln n a d).1.L.length = d.L.length ∧ (Dev.wipes fr ln n a d).1.W.length ≤ d.W.length + n ∧ (Dev.wipes fr ln n a d).1.calls ≤ d.calls + n + 1
  | 0, a, d, hfl, hF => by
    show (∀ k c, can d.flush k c → _) ∧ Fine d.flush ∧ d.flush.L.length = _ ∧ d.flush.W.length ≤ _ ∧ d.flush.calls ≤ _
    by_cases ho : d.out
    · have e : d.flush = { d with down := true } := by unfold Dev.flush Dev.begin; rw [if_pos ho, if_pos ho]
      rw [e]
      exact ⟨fun k c hc => Or.inl hc, hF.writes [] (by simp) _ rfl (by simp), rfl, Nat.le_refl _, by show d.calls ≤ _; omega⟩
    · obtain ⟨e1, e2, e3, e4, e5, e6⟩ := flush_shape d ho
      exact ⟨fun k c hc => Or.inl (flush_can d ho k c hc), hF.flush ho, e1, by rw [e2]; exact Nat.zero_le _, by rw [e5]; omega⟩
  | n + 1, a, d, hfl, hF => by
    have hp := place_lt fr ln a d.L.length hl hfl
    have hno : ¬ (d.no ((place fr ln a : Nat) : Int) ∨ 64 < ([] : List UInt8).length) := by
      intro hx
      rcases hx with hx | hx
      · unfold Dev.no at hx; omega
      · simp at hx
    by_cases ho : d.out
    · have e1 : d.write ((place fr ln a : Nat) : Int) [] = { d with down := true } := by unfold Dev.write Dev.begin; rw [if_neg hno, if_pos ho, if_pos ho]
      have e2 : d.writeE ((place fr ln a : Nat) : Int) [] = 16 := by unfold Dev.writeE; rw [if_neg hno, if_pos ho]
      rw [Dev.wipes, if_pos (by rw [e2]; decide), e1]
      exact ⟨fun k c hc => Or.inl hc, hF.writes [] (by simp) _ rfl (by simp), rfl, by show d.W.length ≤ _; omega, by show d.calls ≤ _; omega⟩
    · have e1 : d.write ((place fr ln a : Nat) : Int) [] = { d with left := if d.armed then d.left - 1 else d.left, calls := d.calls + 1, W := d.W ++ [(place fr ln a, whole [])] } := by
        unfold Dev.write Dev.begin; rw [if_neg hno, if_neg ho, if_neg ho]; rfl
      have e2 : d.writeE ((place fr ln a : Nat) : Int) [] = 0 := by unfold Dev.writeE; rw [if_neg hno, if_neg ho]
      rw [Dev.wipes, if_neg (by rw [e2]; decide), e1]
      have hF1 : Fine { d with left := if d.armed then d.left - 1 else d.left, calls := d.calls + 1, W := d.W ++ [(place fr ln a, whole [])] } := hF.writes [(place fr ln a, whole [])] (by intro y hy; simp at hy; subst hy; exact ⟨hp, whole_length _⟩) _ rfl rfl
      obtain ⟨h1, h2, h3, h4, h5⟩ := wipes_can fr ln hl n (a + 1) { d with left := if d.armed then d.left - 1 else d.left, calls := d.calls + 1, W := d.W ++ [(place fr ln a, whole [])] } hfl hF1
      refine ⟨fun k c hc => ?_, h2, h3, ?_, ?_⟩
      · rcases h1 k c hc with h6 | ⟨i, hi, e3, e4⟩
        · rcases h6 with h6 | h6
          · exact Or.inl (Or.inl h6)
          · rcases List.mem_append.1 h6 with h6 | h6
            · exact Or.inl (Or.inr h6)
            · right
              simp at h6
              exact ⟨0, by omega, by rw [Nat.add_zero]; exact h6.1, h6.2⟩
        · exact Or.inr ⟨i + 1, by omega, by rw [e3]; congr 1; omega, e4⟩
      · have : (d.W ++ [(place fr ln a, whole [])]).length = d.W.length + 1 := by simp
        have h4' : _ ≤ (d.W ++ [(place fr ln a, whole [])]).length + n := h4
        omega
      · have h5' : _ ≤ d.calls + 1 + n + 1 := h5
        omega
/- With power all of it is written, and lasts. -/
theorem wipes_on (fr ln : Nat) (hl : 0 < ln) : ∀ n a (d : Dev), d.down = false → d.armed = false → d.left = 0 → fr + ln ≤ d.L.length → n ≤ ln →
    (Dev.wipes fr ln n a d).2 = 0 ∧ (Dev.wipes fr ln n a d).1.W = [] ∧ (Dev.wipes fr ln n a d).1.down = false ∧ (Dev.wipes fr ln n a d).1.armed = false ∧ (Dev.wipes fr ln n a d).1.left = 0 ∧ (∀ k, k < d.L.length → (Dev.wipes fr ln n a d).1.cur k = if ∃ i, i < n ∧ k = place fr ln (a + i) then whole [] else d.cur k)
  | 0, a, d, h1, h2, h3, h4, h5 => by
    have ho : ¬ d.out := by unfold Dev.out; rw [h1, h2]; simp
    obtain ⟨e1, e2, e3, e4, e5, e6⟩ := flush_shape d ho
    refine ⟨e6, e2, e3.trans h1, e4.trans h2, ?_, fun k hk => ?_⟩
    · show d.flush.left = 0
      unfold Dev.flush Dev.begin
      rw [if_neg ho, if_neg ho, h2]
      exact h3
    · rw [if_neg (by rintro ⟨i, hi, _⟩; omega)]
      exact flush_only d ho k _ hk (cur_can d.flush k (by rw [e1]; exact hk))
  | n + 1, a, d, h1, h2, h3, h4, h5 => by
    have hp := place_lt fr ln a d.L.length hl h4
    have ho : ¬ d.out := by unfold Dev.out; rw [h1, h2]; simp
    have hno : ¬ (d.no ((place fr ln a : Nat) : Int) ∨ 64 < ([] : List UInt8).length) := by
      intro hx
      rcases hx with hx | hx
      · unfold Dev.no at hx; omega
      · simp at hx
    have e1 : d.write ((place fr ln a : Nat) : Int) [] = { d with left := if d.armed then d.left - 1 else d.left, calls := d.calls + 1, W := d.W ++ [(place fr ln a, whole [])] } := by
      unfold Dev.write Dev.begin; rw [if_neg hno, if_neg ho, if_neg ho]; rfl
    have e2 : d.writeE ((place fr ln a : Nat) : Int) [] = 0 := by unfold Dev.writeE; rw [if_neg hno, if_neg ho]
    obtain ⟨d1, hd1⟩ : ∃ d1 : Dev, { d with left := if d.armed then d.left - 1 else d.left, calls := d.calls + 1, W := d.W ++ [(place fr ln a, whole [])] } = d1 := ⟨_, rfl⟩
    rw [Dev.wipes, if_neg (by rw [e2]; decide), e1, hd1]
    have k1 : d1.L = d.L := by rw [← hd1]
    have k2 : d1.W = d.W ++ [(place fr ln a, whole [])] := by rw [← hd1]
    obtain ⟨g1, g2, g3, g4, g5, g6⟩ := wipes_on fr ln hl n (a + 1) d1 (by rw [← hd1]; exact h1) (by rw [← hd1]; exact h2) (by rw [← hd1]; show (if d.armed then d.left - 1 else d.left) = 0; rw [h2]; exact h3) (by rw [k1]; exact h4) (by omega)
    clear hd1 e1
    refine ⟨g1, g2, g3, g4, g5, fun k hk => ?_⟩
    rw [g6 k (by rw [k1]; exact hk)]
    by_cases h6 : ∃ i, i < n ∧ k = place fr ln (a + 1 + i)
    · rw [if_pos h6, if_pos (by obtain ⟨i, hi, e⟩ := h6; exact ⟨i + 1, by omega, by rw [e]; congr 1; omega⟩)]
    · rw [if_neg h6]
      by_cases h7 : k = place fr ln a
      · rw [if_pos ⟨0, by omega, by rw [Nat.add_zero]; exact h7⟩, h7]
        exact cur_append_mem d d1 _ _ _ k2 List.mem_cons_self (fun y hy _ => by simp at hy; rw [hy])
      · rw [if_neg (by
          rintro ⟨i, hi, e⟩
          cases i with
          | zero => exact h7 (by rw [Nat.add_zero] at e; exact e)
          | succ i => exact h6 ⟨i, by omega, by rw [e]; congr 1; omega⟩)]
        exact cur_append_not d d1 _ _ k1 k2 (fun y hy => by simp at hy; subst hy; exact fun e => h7 e.symm)

/- Behind a crash, and behind any Resumes that were broken off: what stood ahead of the end stands, the rest stands or is gone. -/
structure RS (fr ln x en : Nat) (D0 D : Dev) : Prop where
  dn : D.down = false
  ar : D.armed = false
  lf : D.left = 0
  len : D.L.length = 24
  fine : Fine D
  wl : D.W = []
  keep : ∀ a, x ≤ a → a < en → D.cur (place fr ln a) = D0.cur (place fr ln a)
  rest : ∀ a, x ≤ a → a < x + ln → D.cur (place fr ln a) = D0.cur (place fr ln a) ∨ D.cur (place fr ln a) = whole []
section
variable {fr ln x en : Nat} {D0 D : Dev} {rs : List Codec.Rec}
theorem RS.scan (h : RS fr ln x en D0 D) (hs : Codec.scan (view D0 fr ln) ln x false [] x = (rs, en)) : Codec.scan (view D fr ln) ln x false [] x = (rs, en) := by
  rw [← hs]
  refine Codec.scan_less ln x false [] x (Nat.le_refl _) (fun c h1 h2 => ?_) (fun c h1 h2 => ?_)
  · rcases h.rest c h1 h2 with e | e
    · left; rw [view_vw, view_vw, e]
    · right
      intro s hs'
      rw [view_vw, e, vw_blank] at hs'
      cases hs'
  · rw [hs] at h2
    rw [view_vw, view_vw, h.keep c h1 h2]
theorem RS.round (h : RS fr ln x en D0 D) (hl : 0 < ln) (hfl : fr + ln ≤ 24) (he1 : x ≤ en) (he2 : en ≤ x + ln) (hs : Codec.scan (view D0 fr ln) ln x false [] x = (rs, en)) (l : Nat) (keep : List Int) :
    RS fr ln x en D0 ((Dev.resumes fr ln x (D.arm (l : Int))).1.crash keep) ∧ Fine (Dev.resumes fr ln x (D.arm (l : Int))).1 ∧ (Dev.resumes fr ln x (D.arm (l : Int))).1.L.length = 24 ∧ (Dev.resumes fr ln x (D.arm (l : Int))).1.W.length ≤ ln ∧ (Dev.resumes fr ln x (D.arm (l : Int))).1.calls ≤ D.calls + ln + 1 := by
  have hv : view (D.arm (l : Int)) fr ln = view D fr ln := rfl
  have hF : Fine (D.arm (l : Int)) := h.fine.writes [] (by simp) _ rfl (by simp [Dev.arm])
  have hre : Dev.resumes fr ln x (D.arm (l : Int)) = Dev.wipes fr ln (x + ln - en) en (D.arm (l : Int)) := by
    unfold Dev.resumes
    rw [hv, h.scan hs]
  rw [hre]
  have hL : fr + ln ≤ (D.arm (l : Int)).L.length := by show fr + ln ≤ D.L.length; rw [h.len]; exact hfl
  obtain ⟨h1, h2, h3, h4, h5⟩ := wipes_can fr ln hl (x + ln - en) en (D.arm (l : Int)) hL hF
  generalize Dev.wipes fr ln (x + ln - en) en (D.arm (l : Int)) = P at *
  have hP24 : P.1.L.length = 24 := h3.trans h.len
  have hcl : (P.1.crash keep).L.length = 24 := by show (lay _ _).length = 24; rw [lay_length]; exact hP24
  have hone : ∀ a, ∀ c, can (D.arm (l : Int)) (place fr ln a) c → c = D.cur (place fr ln a) := by
    intro a c hc
    have hk : place fr ln a < D.L.length := place_lt fr ln a _ hl (by rw [h.len]; exact hfl)
    have h6 := cur_can D (place fr ln a) hk
    rcases hc with hc | hc
    · rcases h6 with h6 | h6
      · have e1 : D.L[place fr ln a]? = some c := hc
        rw [h6] at e1
        exact (Option.some.inj e1).symm
      · rw [h.wl] at h6; cases h6
    · have : (place fr ln a, c) ∈ D.W := hc
      rw [h.wl] at this; cases this
  have hcon : ∀ a, x ≤ a → a < x + ln → (P.1.crash keep).cur (place fr ln a) = D.cur (place fr ln a) ∨ (en ≤ a ∧ (P.1.crash keep).cur (place fr ln a) = whole []) := by
    intro a ha1 ha2
    have hc := crash_can P.1 keep _ _ (cur_can (P.1.crash keep) (place fr ln a) (place_lt fr ln a _ hl (by rw [hcl]; exact hfl)))
    rcases h1 _ _ hc with hc | ⟨i, hi, e1, e2⟩
    · exact Or.inl (hone a _ hc)
    · right
      have : a = en + i := by
        rcases Nat.le_total a (en + i) with hle | hle
        · exact place_inj e1 hle (by omega)
        · exact (place_inj e1.symm hle (by omega)).symm
      exact ⟨by omega, e2⟩
  refine ⟨⟨rfl, rfl, rfl, hcl, h2.crash keep, rfl, fun a ha1 ha2 => ?_, fun a ha1 ha2 => ?_⟩, h2, hP24, ?_, ?_⟩
  · rcases hcon a ha1 (by omega) with e | e
    · rw [e]; exact h.keep a ha1 ha2
    · omega
  · rcases hcon a ha1 ha2 with e | e
    · rw [e]; exact h.rest a ha1 ha2
    · exact Or.inr e.2
  · have : (D.arm (l : Int)).W = [] := h.wl
    rw [this] at h4
    have : ([] : List (Nat × List UInt8)).length = 0 := rfl
    omega
  · have : (D.arm (l : Int)).calls = D.calls := rfl
    omega
theorem RS.last (h : RS fr ln x en D0 D) (hl : 0 < ln) (hfl : fr + ln ≤ 24) (he1 : x ≤ en) (he2 : en ≤ x + ln) (hs : Codec.scan (view D0 fr ln) ln x false [] x = (rs, en)) (ts : List (List UInt8)) (k : Nat) (hk : k ≤ ts.length) (hen : en = x + Codec.costs (ts.take k)) (hc : D.calls ≤ 900)
    (hst : ∀ a, x ≤ a → a < x + Codec.costs (ts.take k) → ∃ s, Codec.secAt x ts a = some s ∧ D0.cur (place fr ln a) = Codec.secText s) (hln : ln ≤ 20) :
    (Dev.resumes fr ln x D).2 = 0 ∧ (Dev.resumes fr ln x D).1.W = [] ∧ PD fr ln x (ts.take k) k (Dev.resumes fr ln x D).1 ∧ (Dev.resumes fr ln x D).1.calls ≤ D.calls + ln + 1 := by
  have hre : Dev.resumes fr ln x D = Dev.wipes fr ln (x + ln - en) en D := by
    unfold Dev.resumes
    rw [h.scan hs]
  rw [hre]
  have hL : fr + ln ≤ D.L.length := by rw [h.len]; exact hfl
  obtain ⟨h1, h2, h3, h4, h5⟩ := wipes_can fr ln hl (x + ln - en) en D hL h.fine
  obtain ⟨g1, g2, g3, g4, g5, g6⟩ := wipes_on fr ln hl (x + ln - en) en D h.dn h.ar h.lf hL (by omega)
  generalize Dev.wipes fr ln (x + ln - en) en D = P at *
  have hsec : ∀ a, x ≤ a → a < x + Codec.costs (ts.take k) → Codec.secAt x (ts.take k) a = Codec.secAt x ts a := by
    intro a ha1 ha2
    have key : ∀ (l : List (List UInt8)) (q y : Nat), y ≤ a → a < y + Codec.costs (l.take q) → Codec.secAt y (l.take q) a = Codec.secAt y l a := by
      intro l
      induction l with
      | nil => intro q y _ _; simp
      | cons u r ih =>
        intro q y hy1 hy2
        cases q with
        | zero => simp [Codec.costs] at hy2; omega
        | succ q =>
          rw [List.take_succ_cons] at hy2 ⊢
          rw [Codec.secAt, Codec.secAt]
          by_cases h7 : a < y + Codec.cost u.length
          · rw [if_pos h7, if_pos h7]
          · rw [if_neg h7, if_neg h7]
            exact ih q _ (by omega) (by simp only [Codec.costs] at hy2; omega)
    exact key ts k x ha1 ha2
  have hP24 : P.1.L.length = 24 := h3.trans h.len
  have hone : ∀ a, ∀ c, can P.1 (place fr ln a) c → c = P.1.cur (place fr ln a) := by
    intro a c hc
    have h6 := cur_can P.1 (place fr ln a) (place_lt fr ln a _ hl (by rw [hP24]; exact hfl))
    rcases hc with hc | hc
    · rcases h6 with h6 | h6
      · rw [h6] at hc
        exact (Option.some.inj hc).symm
      · rw [g2] at h6; cases h6
    · rw [g2] at hc; cases hc
  have hold : ∀ a, x ≤ a → a < en → P.1.cur (place fr ln a) = D0.cur (place fr ln a) := by
    intro a ha1 ha2
    rw [g6 _ (place_lt fr ln a _ hl hL), if_neg (by
      rintro ⟨i, hi, e⟩
      have := place_inj e (by omega) (by omega)
      omega)]
    exact h.keep a ha1 ha2
  have hnew : ∀ a, en ≤ a → a < x + ln → P.1.cur (place fr ln a) = whole [] := by
    intro a ha1 ha2
    rw [g6 _ (place_lt fr ln a _ hl hL), if_pos ⟨a - en, by omega, by congr 1; omega⟩]
  have hcur : ∀ a, x ≤ a → a < x + Codec.costs (ts.take k) → ∃ s, Codec.secAt x (ts.take k) a = some s ∧ P.1.cur (place fr ln a) = Codec.secText s := fun a ha1 ha2 => by
    obtain ⟨s, s1, s2⟩ := hst a ha1 ha2
    exact ⟨s, by rw [hsec a ha1 ha2]; exact s1, by rw [hold a ha1 (by omega)]; exact s2⟩
  refine ⟨g1, g2, ⟨g3, g4, g5, hP24, h2, by omega, by rw [g2]; exact Nat.zero_le _, by omega, hcur, fun a ha1 ha2 c hc => ?_, fun a ha1 ha2 c hc => ?_, by rw [List.length_take]; omega⟩, by omega⟩
  · rw [hone a c hc]
    by_cases h7 : a < en
    · exact Or.inr (hcur a ha1 (by omega))
    · left; rw [hnew a (by omega) ha2]; exact bad_blank a
  · rw [hone a c hc]
    rw [List.take_take, Nat.min_self] at ha2
    exact hcur a ha1 ha2
end
end Go.Proofs.YtajcaglbbdbibaaDoor
/- The answers that the log's statements ask for first. -/
namespace Go.Proofs.YtajcaglbbdbibaaDoor
open Go.RowKit
set_option linter.unusedVariables false
set_option maxRecDepth 100000

def Z100 : List UInt8 := List.replicate 100 0
theorem Z100_length : Z100.length = 100 := List.length_replicate
def D7 : Dev := { Dev.new 24 with W := wlist 1 10 Z100 7 3 0, calls := 3 }
theorem awake_dev : Dev.puts 1 10 Z100 7 (Codec.cost Z100.length) 0 (Dev.new 24) = (D7, 0) := by
  rw [show Codec.cost Z100.length = 3 by rw [Z100_length]; rfl, puts_on 1 10 Z100 7 (by omega) 3 0 (Dev.new 24) rfl rfl (by simp [Dev.new]) (by omega)]
  simp [Dev.new, D7]
theorem awake_cur : D7.cur 8 = Codec.secText (Codec.sec Z100 7 0) := by
  unfold Dev.cur D7
  simp only [wlist, place]
  rfl
theorem awake_read : D7.read 8 = Codec.secText (Codec.sec Z100 7 0) ∧ D7.readE 8 = 0 := by
  have hno : ¬ D7.no 8 := by unfold Dev.no D7; simp [Dev.new]
  unfold Dev.read Dev.readE
  rw [if_neg hno, if_neg hno, if_neg (by unfold D7; simp [Dev.new]), if_neg (by unfold D7; simp [Dev.new])]
  exact ⟨awake_cur, rfl⟩
theorem awake_parse : Codec.parse (D7.read 8) = (Codec.sec Z100 7 0, 0) := by
  rw [awake_read.1]
  exact Codec.parse_text _ (Codec.sec_ok Z100 7 0 (by omega)) (Codec.piece_length _ _) (by show 1 ≤ 7 + 0; omega)
end Go.Proofs.YtajcaglbbdbibaaDoor
/- The contract of the law's awake. -/
namespace Go.Proofs.YtajcaglbbdbibaaDoor
open Go.RowKit
set_option linter.unusedVariables false
set_option maxRecDepth 100000

theorem w_make100 (w : World) : ∃ w', (Instr.makeSlice 58 (.int .i64 100) (.int .i64 100)).run Tryd.prog w = .ok (.slice (some ⟨w.heap.size, 0, none⟩) 100 100) w' ∧ (convert 58 9 (.slice (some ⟨w.heap.size, 0, none⟩) 100 100)).run Tryd.prog w' = .ok (.string (S Z100)) w' ∧ Below w.heap.size w w' := by
  obtain ⟨i0, hi, hz0, hz1, hz2⟩ := info_parts info_byte
  obtain ⟨w', hmk, hown, hgr⟩ := run_make_full (P := Tryd.prog) w w.heap.size 58 5 i0 (.int .u8 0) 1 under_bytes hi hz0 hz1 .i64 .i64 100 (by rw [hz2]; omega) (by unfold maxLen; omega) (Nat.le_refl _)
  refine ⟨w', hmk, ?_, (Below.refl _ _).grown hgr (Nat.le_refl _) (fun k e => by cases e)⟩
  refine run_convert_bytes_back w' 58 9 5 ⟨w.heap.size, 0, none⟩ 100 Z100 under_bytes under_byte under_string ?_
  have e : (madeCells (Value.int .u8 0).cells (100 * 1)).toList = List.replicate 100 (.int .u8 0) := by
    rw [Nat.mul_one]; exact toList_madeCells_one _ 100
  rw [e] at hown
  intro j hj
  have hj' : j < 100 := by rw [← Z100_length]; exact hj
  rw [plain_add, Nat.zero_add]
  have := ownsRow_cell hown (g := w.heap.size) (c := 100) rfl j (.int .u8 0) (by rw [List.getElem?_replicate, if_pos hj'])
  rw [this, show Z100[j]'hj = 0 from List.getElem_replicate _]
  rfl

set_option maxHeartbeats 1600000 in
theorem wawake_any (w : World) :
    Calls Tryd.prog 6 #[] w fun e w' => e = .returned (.bool true) ∧ Below w.heap.size w w' := by
  have HBG := hide (begin_log 1 10 7 w (by omega) (by unfold areaE; simp [Dev.new]) (by omega) (by omega))
  have HC45 := hide (fun wy => wcost_any 45 wy (by omega))
  rw [show Codec.cost 45 = 2 from rfl] at HC45
  unfold AV at HBG
  go_enter Tryd.func6, Tryd.ntmps6
  go_wp2_with fail
  refine (unhide HBG).mono ?_
  rintro e w1 ⟨b, lb, rfl, hl1, hb1⟩
  obtain ⟨w2, hmk, hcv, hb2⟩ := w_make100 w1
  obtain ⟨hl2, hs2⟩ := hl1.later hb2
  have hB2 : w.heap.size ≤ w2.heap.size := Nat.le_trans hb1.size hb2.size
  have HAP := hide (append_put (head := 7) (x := 7) (fr := 1) (ln := 10) hl2 Z100 hB2 (by rw [Z100_length]; omega) (by omega) (by omega) (by rw [Z100_length]; decide) (by omega) (by omega) (by rw [Z100_length]; decide) (by simp [Dev.new]) (by simp [Dev.new]) (by simp [Dev.new]))
  rw [awake_dev, show Codec.cost Z100.length = 3 by rw [Z100_length]; rfl] at HAP
  have HB2 := hide (hb1.trans (hb2.mono hb1.size))
  have HL2 := hide hl2
  have HBS := hide hB2
  clear HBG hl1 hb1 hb2 hl2 hs2 hB2
  go_wp2_with fail
  refine (unhide HAP).mono ?_
  rintro e w3 ⟨hok, _, hst⟩
  obtain ⟨rfl, hl3⟩ := hok (by trivial)
  have hb3 := hst.below (unhide HL2) (unhide HBS)
  have hb3 : Below w.heap.size w w3 := (unhide HB2).trans hb3
  obtain ⟨w4, hw4⟩ : ∃ w4, w3.alloc (.cells #[.int .i64 7, .int .i64 9, .string (S Z100)] 37) = w4 := ⟨_, rfl⟩
  have hb34 : Below w3.heap.size w3 w4 := by rw [← hw4]; exact (Below.refl _ _).alloc (Nat.le_refl _) _
  obtain ⟨hl4, _⟩ := hl3.later hb34
  have HRD := hide (sread_ok hl4.dev 8 (by simp [D7, wlist_length]) (by rw [awake_read.1, sec_len _ _ _ (by omega)]; omega) awake_read.2)
  rw [awake_parse] at HRD
  obtain ⟨RB, hRB⟩ : ∃ RB, w3.heap.size = RB := ⟨_, rfl⟩
  have hrb4 : w4.heap[RB]? = some (.cells #[.int .i64 7, .int .i64 9, .string (S Z100)] 37 (0, 0)) := by rw [← hw4, ← hRB]; exact heap_alloc_new w3 _
  have HB4 := hide (hb3.trans (hb34.mono hb3.size))
  have HL4 := hide hl4
  have HRB4 := hide hrb4
  unfold SV at HRD
  have hmk0 : (Codec.sec Z100 7 0).mark = 1 := by
    show Codec.mk Z100 0 = 1
    unfold Codec.mk
    rw [Z100_length]
    rfl
  have hst0 : (Codec.sec Z100 7 0).stamp = 7 := rfl
  rw [hmk0, hst0] at HRD
  generalize (Codec.sec Z100 7 0).data = dt at *
  clear HAP hmk hcv hok hst hl3 hb3 hb34 hl4 hrb4 hmk0 hst0 HB2
  go_wp2_with fail
  refine (unhide HRD).mono ?_
  rintro e w5 ⟨rfl, hb5⟩
  obtain ⟨w6, hw6⟩ : ∃ w6, w5.alloc (.cells #[.int .i64 7, .int .u8 1, .string (S dt)] 60) = w6 := ⟨_, rfl⟩
  have hb46 : Below w4.heap.size w4 w6 := by rw [← hw6]; exact hb5.alloc hb5.size _
  obtain ⟨SB, hSB⟩ : ∃ SB, w5.heap.size = SB := ⟨_, rfl⟩
  have hsb6 : w6.heap[SB]? = some (.cells #[.int .i64 7, .int .u8 1, .string (S dt)] 60 (0, 0)) := by rw [← hw6, ← hSB]; exact heap_alloc_new w5 _
  have hrb6 := (hb46.block RB (block_lt (unhide HRB4))).trans (unhide HRB4)
  have hl6 := ((unhide HL4).later hb46).1
  have HNX := hide (next_any hl6.log)
  have HFR := hide (free_any hl6.log (by omega) (by omega) (by omega) (by omega) (by omega))
  have HB6 := hide ((unhide HB4).trans (hb46.mono (unhide HB4).size))
  have r0 := bcell hrb6 0
  have r1 := bcell hrb6 1
  have q0 := bcell hsb6 0
  have q1 := bcell hsb6 1
  simp only [List.getElem?_toArray, List.getElem?_cons_zero, List.getElem?_cons_succ] at r0 r1 q0 q1
  have HSB6 := hide hsb6
  clear hb5 hb46 hsb6 hrb6 hl6 HRD hw4 hRB HRB4 HL4 HB4
  go_wp2_with fail
  refine (unhide HNX).mono ?_
  rintro e w7 ⟨rfl, rfl⟩
  go_wp2_with fail
  refine (unhide HFR).mono ?_
  rintro e w8 ⟨rfl, nq, rfl⟩
  have q0' : (w7.drewN nq).cell? ⟨SB, 0, none⟩ = some (.int .i64 7) := q0
  have q1' : (w7.drewN nq).cell? ⟨SB, 1, none⟩ = some (.int .u8 1) := q1
  clear q0 q1 r0 r1
  have HB8 := hide (w_below_drewN (unhide HB6) nq)
  generalize w7.drewN nq = w8 at *
  go_wp2_with fail
  refine (unhide HC45 _).mono ?_
  rintro e w9 ⟨rfl, rfl⟩
  go_wp2_with fail
  go_ret
  exact ⟨rfl, unhide HB8⟩
end Go.Proofs.YtajcaglbbdbibaaDoor
