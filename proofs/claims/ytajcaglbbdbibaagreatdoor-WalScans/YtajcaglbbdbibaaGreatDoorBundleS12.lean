/- The reference's Parse of a sector. -/
import Derived.Lib.SmallJoins
import Derived.Test.YtajcaglbbdbibaaGreatDoorBundleS10
import Derived.Test.YtajcaglbbdbibaaGreatDoorBundleS3
import Derived.Test.YtajcaglbbdbibaaGreatDoorBundleC11
namespace Go.Proofs.YtajcaglbbdbibaaGreatDoor
open Go.RowKit
set_option linter.unusedVariables false
set_option maxRecDepth 100000

theorem set2 {w : World} {n : Nat} {x y : Value} {t : TypeId} (h : w.heap[n]? = some (.cells #[x, y] t (0, 0))) (a b : Value) :
    ((w.setCell ⟨n, 0, none⟩ a).setCell ⟨n, 1, none⟩ b).heap[n]? = some (.cells #[a, b] t (0, 0)) := by
  have h1 : (w.setCell ⟨n, 0, none⟩ a).heap[n]? = _ := Go.Joins.block_setCell h a
  exact (Go.Joins.block_setCell h1 b)

/- What lies there while a sector is read: the In's box, the place of the result. -/
structure RPS (w wr : World) (B : Nat) (s : Codec.St) : Prop where
  box : wr.heap[B]? = some (.cells #[.string (S s.1), .int .i64 s.2] 109 (0, 0))
  res : wr.heap[w.heap.size]? = some (.cells #[.int .i64 0, .int .i64 0, .string ⟨#[]⟩] 81 (0, 0))
  bel : Below w.heap.size w wr
  lt : w.heap.size < B
theorem RPS.call {w wr w' : World} {B : Nat} {s : Codec.St} (h : RPS w wr B s) (hb : Below wr.heap.size wr w') : RPS w w' B s :=
  ⟨(hb.block B (blt h.box)).trans h.box, (hb.block w.heap.size (blt h.res)).trans h.res, h.bel.trans (hb.mono h.bel.size), h.lt⟩
theorem RPS.put {w wr : World} {B : Nat} {s : Codec.St} (h : RPS w wr B s) (s' : Codec.St) : RPS w ((wr.setCell ⟨B, 0, none⟩ (.string (S s'.1))).setCell ⟨B, 1, none⟩ (.int .i64 s'.2)) B s' :=
  ⟨set2 h.box _ _, by rw [heap_setCell_other _ ⟨B, 1, none⟩ w.heap.size _ (by have := h.lt; simp; omega), heap_setCell_other _ ⟨B, 0, none⟩ w.heap.size _ (by have := h.lt; simp; omega)]; exact h.res,
   (h.bel.setCell (p := ⟨B, 0, none⟩) (by have := h.lt; simp; omega) _).setCell (p := ⟨B, 1, none⟩) (by have := h.lt; simp; omega) _, h.lt⟩
theorem RPS.cells {w wr : World} {B : Nat} {s : Codec.St} (h : RPS w wr B s) :
    wr.cell? ⟨B, 0, none⟩ = some (.string (S s.1)) ∧ wr.cell? ⟨B, 1, none⟩ = some (.int .i64 s.2) ∧ wr.frozen? ⟨B, 0, none⟩ = false ∧ wr.frozen? ⟨B, 1, none⟩ = false ∧
    wr.cell? ⟨w.heap.size, 0, none⟩ = some (.int .i64 0) ∧ wr.cell? ⟨w.heap.size, 1, none⟩ = some (.int .i64 0) ∧ wr.cell? ⟨w.heap.size, 2, none⟩ = some (.string ⟨#[]⟩) ∧ wr.frozen? ⟨w.heap.size, 0, none⟩ = false ∧ wr.frozen? ⟨w.heap.size, 1, none⟩ = false ∧ wr.frozen? ⟨w.heap.size, 2, none⟩ = false :=
  ⟨by rw [bcell h.box]; rfl, by rw [bcell h.box]; rfl, bfroz h.box 0, bfroz h.box 1, by rw [bcell h.res]; rfl, by rw [bcell h.res]; rfl, by rw [bcell h.res]; rfl, bfroz h.res 0, bfroz h.res 1, bfroz h.res 2⟩

set_option maxHeartbeats 6400000 in
theorem rparse_any (l : List UInt8) (w : World) (hl : l.length ≤ 1000) :
    Calls Tryz.prog 35 #[.string (S l)] w fun e w' => e = .returned (.tuple #[RV (Codec.parse l).1, .int .i64 (Codec.parse l).2]) ∧ Below w.heap.size w w' := by
  have hsz : (S l).size = l.length := rfl
  obtain ⟨W, hW⟩ : ∃ W, w.alloc (.cells #[.int .i64 0, .int .i64 0, .string ⟨#[]⟩] 81) = W := ⟨_, rfl⟩
  have HW := hide hW
  have hbW : Below w.heap.size w W := by rw [← hW]; exact (Below.refl _ _).alloc (Nat.le_refl _) _
  have hrW : W.heap[w.heap.size]? = some (.cells #[.int .i64 0, .int .i64 0, .string ⟨#[]⟩] 81 (0, 0)) := by rw [← hW]; exact heap_alloc_new w _
  have HBW := hide hbW
  have HRW := hide hrW
  clear hW hbW hrW
  by_cases h64 : l.length = 64
  · have ht4 : (S l).extract 0 4 = S (l.take 4) := S_take l 4
    have hd4 : (S l).extract 4 (S l).size = S (l.drop 4) := S_drop l 4
    rw [hsz, h64] at hd4
    rw [h64] at hsz
    have hdl : (l.drop 4).length = 60 := by rw [List.length_drop]; omega
    have HSU := hide (fun wy => refSum_any (l.drop 4) wy (by omega))
    have HFO := hide (fun wy => refFour_any (l.drop 4) wy)
    have HP : Hid (Codec.parse l = if l.take 4 ≠ Codec.sumOf (l.drop 4) then (⟨0, 0, []⟩, 5) else Codec.behind (l.drop 4)) := by
      unfold Codec.parse; rw [if_neg (by omega)]; exact rfl
    have HLQ : Hid (l.take 4 ++ l.drop 4 = l) := List.take_append_drop 4 l
    generalize Codec.parse l = P at *
    generalize l.take 4 = q0 at *
    generalize l.drop 4 = q at *
    have hqs : (S q).size = 60 := hdl
    clear h64 hl
    obtain ⟨sm, hsm⟩ : ∃ sm, Codec.sumOf q = sm := ⟨_, rfl⟩
    rw [hsm] at HFO HP
    generalize Crc.crc q = qn at *
    go_enter Tryz.func35, Tryz.ntmps35
    go_wp2_with fail
    rw [unhide HW]
    have hcur : Below W.heap.size W W.drew := (Below.refl _ _).drew
    go_region_held3 (fun _ => True) (go_keep)
      (first
        | (go_at_call 50; refine (unhide HSU _).mono ?_; rintro e w2 ⟨rfl, rfl⟩)
        | (go_at_call 49; refine (unhide HFO _).mono ?_; rintro e w2 ⟨rfl, hb2⟩; replace hcur := hcur.trans (hb2.mono hcur.size); clear hb2)
        | fail)
    have HB2 := hide ((unhide HBW).trans (hcur.mono (unhide HBW).size))
    have HR2 := hide ((hcur.block w.heap.size (blt (unhide HRW))).trans (unhide HRW))
    clear HBW HRW hcur HSU HFO HW
    by_cases hs : q0 = sm
    · subst hs
      rw [if_neg (by simp)] at HP
      have hse : ((S q0).toList == (S q0).toList) = true := by simp
      have hi1 : Inv (Codec.readNum q).2 := Inv.takeN (s := (q, 0)) (fun h => absurd rfl h) _
      have hi2 : Inv (Codec.readMark q).2 := hi1.takeN _
      have hl1 : (Codec.readNum q).2.1.length ≤ 60 := by have := takeN_length 1099511627776 (q, 0); unfold Codec.readNum; dsimp only at this; omega
      have hl2 : (Codec.readMark q).2.1.length ≤ 60 := by have := takeN_length 255 (Codec.readNum q).2; unfold Codec.readMark; omega
      have HN1 := hide (fun wy => rtakeN_any (q, 0) 1099511627776 wy (fun h => absurd rfl h) (by show q.length ≤ _; omega) (by omega) (by omega))
      have HN2 := hide (fun wy => rtakeN_any (Codec.readNum q).2 255 wy hi1 (by omega) (by omega) (by omega))
      have HN3 := hide (fun wy => rtakeS_any (Codec.readMark q).2 44 wy hi2 (by omega) (by omega) (by omega))
      rw [show Codec.takeN 1099511627776 (q, 0) = Codec.readNum q from rfl] at HN1
      rw [show Codec.takeN 255 (Codec.readNum q).2 = Codec.readMark q from rfl] at HN2
      rw [show Codec.takeS 44 (Codec.readMark q).2 = Codec.readData q from rfl] at HN3
      unfold InV at HN1 HN2 HN3
      have HBH : Hid (P = if (Codec.readData q).2.2 ≠ 0 then (⟨0, 0, []⟩, (Codec.readData q).2.2) else if (Codec.readNum q).1 = 0 ∨ (Codec.readData q).2.1.any (fun c => c != 0) = true then (⟨0, 0, []⟩, 2) else (⟨(Codec.readNum q).1, (Codec.readMark q).1, (Codec.readData q).1⟩, 0)) := unhide HP
      have HBB := hide (Codec.behind_body q)
      have HRI := hide (Codec.rest_iff q hdl)
      generalize Codec.readData q = o3 at *
      generalize Codec.readMark q = o2 at *
      generalize Codec.readNum q = o1 at *
      obtain ⟨n1, s1⟩ := o1
      obtain ⟨n2, s2⟩ := o2
      obtain ⟨t3, s3⟩ := o3
      dsimp only at HN1 HN2 HN3 HBH HBB HRI
      clear HP hi1 hi2 hl1 hl2
      simp only [hse, Bool.not_true]
      go_wp2_with fail
      refine (unhide HN1 _).mono ?_
      rintro e w3 ⟨rfl, hb3⟩
      have HB3 := hide ((unhide HB2).trans (hb3.mono (unhide HB2).size))
      have HR3 := hide ((hb3.block w.heap.size (blt (unhide HR2))).trans (unhide HR2))
      clear hb3 HB2 HR2 HN1
      obtain ⟨W3, hW3⟩ : ∃ W3, w3.alloc (.cells #[.string (S s1.1), .int .i64 s1.2] 109) = W3 := ⟨_, rfl⟩
      have hRS0 : RPS w W3 w3.heap.size s1 := by
        rw [← hW3]
        have hlt := blt (unhide HR3)
        have hbA : Below w3.heap.size w3 (w3.alloc (.cells #[.string (S s1.1), .int .i64 s1.2] 109)) := (Below.refl _ _).alloc (Nat.le_refl _) _
        exact ⟨heap_alloc_new w3 _, (hbA.block w.heap.size hlt).trans (unhide HR3), (unhide HB3).alloc (unhide HB3).size _, hlt⟩
      have HW3 := hide hW3
      have HRS0 := hide hRS0
      clear hW3 hRS0 HB3 HR3
      obtain ⟨x0, x1, y0, y1, _⟩ := (unhide HRS0).cells
      go_wp2_with (rw [unhide HW3])
      refine (unhide HN2 _).mono ?_
      rintro e w4 ⟨rfl, hb4⟩
      have HRS1 := hide ((unhide HRS0).call hb4)
      clear x0 x1 y0 y1 hb4 HRS0 HN2
      obtain ⟨x0, x1, y0, y1, _⟩ := (unhide HRS1).cells
      have HRS2 := hide ((unhide HRS1).put s2)
      obtain ⟨z0, z1, z2, z3, _⟩ := (unhide HRS2).cells
      go_wp2_with fail
      refine (unhide HN3 _).mono ?_
      rintro e w5 ⟨rfl, hb5⟩
      have HRS3 := hide ((unhide HRS2).call hb5)
      clear x0 x1 y0 y1 z0 z1 z2 z3 hb5 HRS2 HRS1 HN3
      obtain ⟨x0, x1, y0, y1, _⟩ := (unhide HRS3).cells
      have hRS4 := (unhide HRS3).put s3
      obtain ⟨wr, hwr⟩ : ∃ wr, (w5.setCell ⟨w3.heap.size, 0, none⟩ (.string (S s3.1))).setCell ⟨w3.heap.size, 1, none⟩ (.int .i64 s3.2) = wr := ⟨_, rfl⟩
      rw [hwr] at hRS4
      have HWR := hide hwr
      have HRS4 := hide hRS4
      clear hwr hRS4
      obtain ⟨z0, z1, z2, z3, z4, z5, z6, z7, z8, z9⟩ := (unhide HRS4).cells
      obtain ⟨t4, e3⟩ := s3
      dsimp only at *
      by_cases he : e3 = 0
      · subst he
        rw [if_neg (by simp)] at HBH
        obtain ⟨hq, hb1, hb2, hb3⟩ := unhide HBB rfl
        have hok : (⟨n1, n2, t3⟩ : Codec.Sec).Ok := ⟨hb1, hb2, by show t3.length ≤ 50; omega⟩
        have HTX := hide (fun wy => rtext_any ⟨n1, n2, t3⟩ wy hok hb3)
        unfold RV at HTX
        dsimp only at HTX
        have HEQ : Hid ((t4.any (fun c => c != 0) = false → Codec.secText ⟨n1, n2, t3⟩ = l) ∧ (t4.any (fun c => c != 0) = true → Codec.secText ⟨n1, n2, t3⟩ ≠ l)) := by
          have hri := unhide HRI rfl
          refine ⟨fun h => ?_, fun h hx => ?_⟩
          · have := hri.2 h
            unfold Codec.secText
            rw [this, hsm]; exact unhide HLQ
          · have h2 : Codec.pad60 (Codec.body ⟨n1, n2, t3⟩) = q := by
              have := congrArg (List.drop 4) (hx.trans (unhide HLQ).symm)
              have e1 : (Codec.secText ⟨n1, n2, t3⟩).drop 4 = Codec.pad60 (Codec.body ⟨n1, n2, t3⟩) := by unfold Codec.secText; exact List.drop_left' rfl
              have e2 : (q0 ++ q).drop 4 = q := by rw [← hsm]; exact List.drop_left' rfl
              rw [e1, e2] at this
              exact this
            have := hri.1 h2
            rw [h] at this
            cases this
        generalize Codec.secText ⟨n1, n2, t3⟩ = T at *
        generalize t4.any (fun c => c != 0) = an at *
        clear hok hq hb1 hb2 hb3 HBB HRI HLQ hsm
        by_cases hn0 : n1 = 0
        · subst hn0
          rw [if_pos (Or.inl rfl)] at HBH
          go_wp2_with (rw [unhide HWR])
          have h9 := set3 (unhide HRS4).res (.int .i64 0) (.int .i64 0) (.string ⟨#[]⟩)
          have c0 := bcell h9 0
          have c1 := bcell h9 1
          have c2 := bcell h9 2
          simp only [List.getElem?_toArray, List.getElem?_cons_zero, List.getElem?_cons_succ] at c0 c1 c2
          rw [unhide HBH]
          exact bodyPost_ret (v := .tuple #[RV ⟨0, 0, []⟩, .int .i64 2]) (by simp [results, Tryz.results35, go_sem, c0, c1, c2, RV, S]) rfl ⟨rfl, below3 (unhide HRS4).bel _ _ _⟩
        · have hn1 : ¬ ((n1 : Int) < 1) := by omega
          go_wp2_with (rw [unhide HWR])
          refine (unhide HTX _).mono ?_
          rintro e w6 ⟨rfl, hb6⟩
          have HRS5 := hide ((unhide HRS4).call hb6)
          clear x0 x1 y0 y1 z0 z1 z2 z3 z4 z5 z6 z7 z8 z9 HRS4 hb6 HWR HRS3
          obtain ⟨z0, z1, z2, z3, z4, z5, z6, z7, z8, z9⟩ := (unhide HRS5).cells
          cases an with
          | false =>
            have hT := (unhide HEQ).1 rfl
            subst hT
            have hse2 : ((S T).toList == (S T).toList) = true := by simp
            rw [if_neg (by simpa using hn0)] at HBH
            go_wp2_with fail
            have h9 := set3 (unhide HRS5).res (.int .i64 (n1 : Int)) (.int .i64 (n2 : Int)) (.string (S t3))
            have c0 := bcell h9 0
            have c1 := bcell h9 1
            have c2 := bcell h9 2
            simp only [List.getElem?_toArray, List.getElem?_cons_zero, List.getElem?_cons_succ] at c0 c1 c2
            rw [unhide HBH]
            exact bodyPost_ret (v := .tuple #[RV ⟨n1, n2, t3⟩, .int .i64 0]) (by simp [results, Tryz.results35, go_sem, c0, c1, c2, RV]) rfl ⟨rfl, below3 (unhide HRS5).bel _ _ _⟩
          | true =>
            have hT := (unhide HEQ).2 rfl
            have hse2 : ((S T).toList == (S l).toList) = false := by rw [S_list, S_list]; simpa using hT
            rw [if_pos (Or.inr rfl)] at HBH
            go_wp2_with fail
            have h9 := set3 (unhide HRS5).res (.int .i64 0) (.int .i64 0) (.string ⟨#[]⟩)
            have c0 := bcell h9 0
            have c1 := bcell h9 1
            have c2 := bcell h9 2
            simp only [List.getElem?_toArray, List.getElem?_cons_zero, List.getElem?_cons_succ] at c0 c1 c2
            rw [unhide HBH]
            exact bodyPost_ret (v := .tuple #[RV ⟨0, 0, []⟩, .int .i64 2]) (by simp [results, Tryz.results35, go_sem, c0, c1, c2, RV, S]) rfl ⟨rfl, below3 (unhide HRS5).bel _ _ _⟩
      · rw [if_pos he] at HBH
        have he0 : (e3 == 0) = false := by simpa using he
        have hlt := (unhide HRS4).lt
        have q1 : (((wr.setCell ⟨w.heap.size, 0, none⟩ (.int .i64 0)).setCell ⟨w.heap.size, 1, none⟩ (.int .i64 0)).setCell ⟨w.heap.size, 2, none⟩ (.string ⟨#[]⟩)).drew.cell? ⟨w3.heap.size, 1, none⟩ = some (.int .i64 e3) := by
          have e : (((wr.setCell ⟨w.heap.size, 0, none⟩ (.int .i64 0)).setCell ⟨w.heap.size, 1, none⟩ (.int .i64 0)).setCell ⟨w.heap.size, 2, none⟩ (.string ⟨#[]⟩)).drew.heap[w3.heap.size]? = _ :=
            ((heap_setCell_other _ ⟨w.heap.size, 2, none⟩ w3.heap.size _ (by simp; omega)).trans ((heap_setCell_other _ ⟨w.heap.size, 1, none⟩ w3.heap.size _ (by simp; omega)).trans (heap_setCell_other _ ⟨w.heap.size, 0, none⟩ w3.heap.size _ (by simp; omega)))).trans (unhide HRS4).box
          exact bcell e 1
        go_wp2_with (rw [unhide HWR])
        go_region
        all_goals
          go_wp2_with fail
        have h9 := set3 (unhide HRS4).res (.int .i64 0) (.int .i64 0) (.string ⟨#[]⟩)
        have c0 := bcell h9 0
        have c1 := bcell h9 1
        have c2 := bcell h9 2
        simp only [List.getElem?_toArray, List.getElem?_cons_zero, List.getElem?_cons_succ] at c0 c1 c2
        rw [unhide HBH]
        exact bodyPost_ret (v := .tuple #[RV ⟨0, 0, []⟩, .int .i64 e3]) (by simp [results, Tryz.results35, go_sem, c0, c1, c2, RV, S]) rfl ⟨rfl, (below3 (unhide HRS4).bel _ _ _).drew⟩
    · rw [if_pos hs] at HP
      have hsn : ((S q0).toList == (S sm).toList) = false := by rw [S_list, S_list]; simpa using hs
      have r0 := bcell (unhide HR2) 0
      have r1 := bcell (unhide HR2) 1
      have r2 := bcell (unhide HR2) 2
      have f0 := bfroz (unhide HR2) 0
      have f1 := bfroz (unhide HR2) 1
      have f2 := bfroz (unhide HR2) 2
      simp only [List.getElem?_toArray, List.getElem?_cons_zero, List.getElem?_cons_succ] at r0 r1 r2
      simp only [hsn, Bool.not_false]
      go_wp2_with fail
      have h9 := set3 (unhide HR2) (.int .i64 0) (.int .i64 0) (.string ⟨#[]⟩)
      have c0 := bcell h9 0
      have c1 := bcell h9 1
      have c2 := bcell h9 2
      simp only [List.getElem?_toArray, List.getElem?_cons_zero, List.getElem?_cons_succ] at c0 c1 c2
      rw [unhide HP]
      exact bodyPost_ret (v := .tuple #[RV ⟨0, 0, []⟩, .int .i64 5]) (by simp [results, Tryz.results35, go_sem, c0, c1, c2, RV, S]) rfl ⟨rfl, below3 (unhide HB2) _ _ _⟩
  · have e : Codec.parse l = (⟨0, 0, []⟩, 1) := by unfold Codec.parse; rw [if_pos h64]
    rw [e]
    have hne : ¬ ((l.length : Int) = 64) := by omega
    have r0 := bcell (unhide HRW) 0
    have r1 := bcell (unhide HRW) 1
    have r2 := bcell (unhide HRW) 2
    have f0 := bfroz (unhide HRW) 0
    have f1 := bfroz (unhide HRW) 1
    have f2 := bfroz (unhide HRW) 2
    simp only [List.getElem?_toArray, List.getElem?_cons_zero, List.getElem?_cons_succ] at r0 r1 r2
    go_enter Tryz.func35, Tryz.ntmps35
    go_wp2_with fail
    rw [unhide HW]
    exact bodyPost_ret (v := .tuple #[RV ⟨0, 0, []⟩, .int .i64 1]) (by simp [results, Tryz.results35, go_sem, r0, r1, r2, RV, S]) rfl ⟨rfl, unhide HBW⟩
end Go.Proofs.YtajcaglbbdbibaaGreatDoor
