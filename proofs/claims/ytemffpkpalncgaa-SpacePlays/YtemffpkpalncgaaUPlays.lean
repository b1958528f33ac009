/- SpacePlays' walk. -/
import Derived.Test.YtemffpkpalncgaaUIs
namespace Go.Proofs.Ytemffpkpalncgaa
open Go.RowKit
set_option linter.unusedVariables false

/- The space and the reference's row are the same pages. -/
structure UPS (w0 w : World) (b g : Nat) (v : Value) (l : List Nat) : Prop where
  sp : SpAt w0.heap.size w b g l
  row : w.ownsRow w0.heap.size 3 1 v l.length (nums l)
  far : v.ownBlock ≠ some g
  below : Below w0.heap.size w0 w
theorem UPS.quiet {w0 w w' : World} {b g : Nat} {v : Value} {l : List Nat} (h : UPS w0 w b g v l) (hb : Below w.heap.size w w') : UPS w0 w' b g v l :=
  ⟨h.sp.later hb, ownsRow_below h.row hb, h.far, h.below.trans (hb.mono h.below.size)⟩
/- The space took a step; the reference's row is as it was. -/
structure UMid (w0 w : World) (b g : Nat) (v : Value) (l l' : List Nat) : Prop where
  sp : SpAt w0.heap.size w b g l'
  row : w.ownsRow w0.heap.size 3 1 v l.length (nums l)
  far : v.ownBlock ≠ some g
  below : Below w0.heap.size w0 w
theorem UPS.mid {w0 w w' : World} {b g : Nat} {v : Value} {l l' : List Nat} (h : UPS w0 w b g v l) (hs : SpAt w0.heap.size w' b g l') (hb : But g w.heap.size w w') : UMid w0 w' b g v l l' := by
  refine ⟨hs, ownsRow_same h.row fun k hk => hb.block k ?_ ?_, h.far, h.below.trans (hb.below h.sp.log h.below.size)⟩
  · obtain ⟨_, hh, _⟩ := ownsRow_blk h.row hk
    exact block_lt hh
  · intro e
    exact h.far (by rw [hk, e])
theorem UMid.next {w0 w w' : World} {b g : Nat} {v v' : Value} {l l' : List Nat} (h : UMid w0 w b g v l l') (ho : w'.ownsRow w.heap.size 3 1 v' l'.length (nums l')) (hb : Below w.heap.size w w') : UPS w0 w' b g v' l' := by
  refine ⟨h.sp.later hb, ownsRow_less ho h.below.size, fun e => ?_, h.below.trans (hb.mono h.below.size)⟩
  obtain ⟨_, _, h2⟩ := ownsRow_blk ho e
  have := h.sp.glt
  omega
theorem keepF_map (l : List Nat) (h : ∀ x ∈ l, x ≤ 3) : l.map keepF = Sp.keep l := (Sp.keep_eq l h).symm
theorem undoF_map (l : List Nat) (h : ∀ x ∈ l, x ≤ 3) : l.map undoF = Sp.undo l := (Sp.undo_eq l h).symm

set_option maxRecDepth 4000 in
set_option maxHeartbeats 6400000 in
theorem uplays_any (a0 : Int) (a : Option Addr) (len cap : Nat) (w : World) (hlen : len ≤ maxLen) (hacts : UActs w a len) :
    Calls Try.prog 3 #[.int .i64 a0, .slice a len cap] w fun e w' => e = .returned (.bool true) ∧ Below w.heap.size w w' := by
  unfold maxLen at hlen
  obtain ⟨i0, hi, hz0, hz1, hz2⟩ := info_parts info_int
  have HACTS := hide hacts
  have HAW := hide (fun w => uawake_any w)
  obtain ⟨n, hn, hn1, hn2⟩ : ∃ n : Nat, wrap64 (1 + bits .and .i64 a0 15) = (n : Int) ∧ 1 ≤ n ∧ n ≤ 16 := by
    have := u_mask a0 4 15 (by omega) (by decide)
    exact ⟨_, this.1, by omega, by have := this.2; omega⟩
  have HNEW := hide (unew_ok n w hn1 (by omega))
  clear hacts
  go_enter Try.func3, Try.ntmps3
  go_wp2_with fail
  refine (unhide HNEW).mono ?_
  rintro e w1 ⟨b, g, rfl, hs1, hb1⟩
  have HS := hide hs1
  have HB := hide hb1
  clear hs1 hb1 HNEW
  go_wp2_with fail
  refine (unhide HAW _).mono ?_
  rintro e w3 ⟨rfl, hb⟩
  have HB2 := hide ((unhide HB).trans (hb.mono (unhide HB).size))
  have HS2 := hide ((unhide HS).later hb)
  clear hb HB HS HAW
  obtain ⟨w4, hmk, hown4, hgr4⟩ := run_make_full (P := Try.prog) w3 w3.heap.size 28 3 i0 (.int .i64 0) 1 under_ints hi hz0 hz1 .i64 .i64 n (by rw [hz2]; omega) (by unfold maxLen; omega) (Nat.le_refl _)
  have hb4 : Below w3.heap.size w3 w4 := (Below.refl _ _).grown hgr4 (Nat.le_refl _) (fun k e => by cases e)
  have HPS : Hid (UPS w w4 b g (.slice (some ⟨w3.heap.size, 0, none⟩) n n) (List.replicate n 0)) := by
    have e : (madeCells (Value.int .i64 0).cells (n * 1)).toList = List.replicate n (.int .i64 0) := by
      rw [Nat.mul_one]; exact toList_madeCells_one _ n
    rw [e] at hown4
    have hm : UMid w w3 b g (.slice none 0 0) [] (List.replicate n 0) := ⟨unhide HS2, World.ownsRow_nil _ _ _ _, (by intro e; cases e), unhide HB2⟩
    refine hm.next ?_ hb4
    rw [nums_replicate, List.length_replicate]
    exact hown4
  clear hown4 hgr4 hb4 HS2 HB2
  obtain ⟨X, hX⟩ : ∃ X, w3.heap.size = X := ⟨_, rfl⟩
  rw [hX] at hmk HPS
  have hlr : (List.replicate n 0).length = n := by simp
  have HLR := hide hlr
  generalize List.replicate n 0 = l0 at *
  clear hX hlr
  go_wp2_with fail
  clear hmk
  go_loopw [7, 8] (fun v i wr => ∃ (k : Nat) (l : List Nat), k ≤ 120 ∧ k ≤ len ∧ i = .int .i64 k ∧ l.length = n ∧ UPS w wr b g v l) (fun _ i _ => 120 - (intOf i).toNat)
  case atStart => exact ⟨0, l0, Nat.zero_le _, Nat.zero_le _, rfl, unhide HLR, unhide HPS⟩
  case round =>
    obtain ⟨k, l, hk, hkl, rfl, hl, hps⟩ := hrel
    clear HPS HLR
    have HL := hide hl
    have HPS := hide hps
    by_cases hlt : k < len ∧ k < 120
    · obtain ⟨h1, h2⟩ := hlt
      obtain ⟨kind, at', hact⟩ := unhide HACTS k h1
      obtain ⟨⟨ab, ao, rfl, c0, c1⟩, hat1, hat2⟩ := hact.later hps.below
      obtain ⟨g2, c2, rfl, _⟩ := row_some hps.row hps.sp.pos
      have hpos := hps.sp.pos
      have hl128 := hps.sp.len
      have i1 : (0 : Int) ≤ (k : Int) := by omega
      have i2 : (k : Int) < (len : Int) := by omega
      have i3 : (k : Int) < 120 := by omega
      have HIS : Hid (∀ wx vx lx, UPS w wx b g vx lx → Calls Try.prog 17 #[.pointer (some ⟨b, 0, none⟩), vx] wx fun e w' => e = .returned (.int .i64 0) ∧ UPS w w' b g vx lx) :=
        fun wx vx lx hp => (uis_any hp.sp hp.row).mono fun e w' ⟨he, hb⟩ => ⟨he, hp.quiet hb⟩
      clear hact
      have hkind : kind = 1 ∨ kind = 2 ∨ kind = 3 ∨ kind = 4 ∨ kind = 5 ∨ (¬kind = 1 ∧ ¬kind = 2 ∧ ¬kind = 3 ∧ ¬kind = 4 ∧ ¬kind = 5) := by omega
      have HGIVE : Hid (∀ j : Int, (∃ e : Int, ∃ l', l'.length = n ∧ ((e = 0 ∧ (Calls Try.prog 11 #[.pointer (some ⟨b, 0, none⟩), .int .i64 j] wr fun x w' => x = .returned (.int .i64 0) ∧ UMid w w' b g (.slice (some ⟨g2, 0, none⟩) l.length c2) l l') ∧
            ∀ w', UMid w w' b g (.slice (some ⟨g2, 0, none⟩) l.length c2) l l' → Calls Try.prog 12 #[.slice (some ⟨g2, 0, none⟩) l.length c2, .int .i64 j] w' fun x w2 => ∃ v2, x = .returned (.tuple #[v2, .bool true]) ∧ UPS w w2 b g v2 l') ∨
          (e = 8 ∧ (Calls Try.prog 11 #[.pointer (some ⟨b, 0, none⟩), .int .i64 j] wr fun x w' => x = .returned (.int .i64 8) ∧ UMid w w' b g (.slice (some ⟨g2, 0, none⟩) l.length c2) l l') ∧
            ∀ w', UMid w w' b g (.slice (some ⟨g2, 0, none⟩) l.length c2) l l' → Calls Try.prog 12 #[.slice (some ⟨g2, 0, none⟩) l.length c2, .int .i64 j] w' fun x w2 => ∃ v2, x = .returned (.tuple #[v2, .bool false]) ∧ UPS w w2 b g v2 l')))) := by
        intro j
        by_cases hj : stAt l j ≠ 1 ∧ stAt l j ≠ 2
        · refine ⟨8, l, hl, .inr ⟨rfl, (ugive_no hps.sp j hj).mono ?_, fun w' hm => (rgive_no hm.row hl128 hpos j hj).mono ?_⟩⟩
          · rintro e w' ⟨rfl, rfl⟩
            exact ⟨rfl, ⟨hps.sp, hps.row, hps.far, hps.below⟩⟩
          · rintro e w2 ⟨rfl, rfl⟩
            exact ⟨_, rfl, ⟨hm.sp, hm.row, hm.far, hm.below⟩⟩
        · have hin : ∃ q : Nat, j = (q : Int) ∧ Sp.mayGive l q = true := by
            by_cases hb : j < 0 ∨ (l.length : Int) ≤ j
            · rw [stAt_out l j hb] at hj
              omega
            · refine ⟨j.toNat, by omega, ?_⟩
              obtain ⟨q, rfl⟩ : ∃ q : Nat, j = (q : Int) := ⟨j.toNat, by omega⟩
              have hq : q < l.length := by omega
              rw [stAt_in l q hq] at hj
              have e : l.getD q 0 = l[q] := by simp [List.getD, hq]
              simp only [Int.toNat_natCast, Sp.mayGive, hq, decide_true, Bool.true_and, e, Sp.use, Bool.or_eq_true, beq_iff_eq]
              omega
          obtain ⟨q, rfl, hq⟩ := hin
          refine ⟨0, Sp.given l q, by rw [Sp.given_length]; exact hl, .inl ⟨rfl, (ugive_ok hps.sp q hq).mono ?_, fun w' hm => (rgive_ok hm.row hl128 q hq).mono ?_⟩⟩
          · rintro e w' ⟨rfl, hs, hb⟩
            exact ⟨rfl, hps.mid hs hb⟩
          · rintro e w2 ⟨v2, rfl, ho, hb⟩
            exact ⟨v2, rfl, hm.next ho hb⟩
      rcases hkind with rfl | rfl | rfl | rfl | rfl | ⟨k1, k2, k3, k4, k5⟩
      · by_cases h0 : 0 ∈ l
        · have HT := hide ((utake_ok hps.sp h0).mono (fun e w' h => (⟨h.1, hps.mid h.2.1 h.2.2⟩ : e = _ ∧ UMid w w' b g _ l (Sp.taken l))))
          have HR := hide (fun w' (hm : UMid w w' b g (.slice (some ⟨g2, 0, none⟩) l.length c2) l (Sp.taken l)) => rtake_ok hm.row hl128 h0)
          have HLT : Hid ((Sp.taken l).length = n) := (Sp.taken_length l).trans hl
          generalize Sp.taken l = l2 at *
          generalize Sp.first l = f at *
          clear hps hl
          go_wp2_with fail
          refine (unhide HT).mono ?_
          rintro e w5 ⟨rfl, hm⟩
          have HM := hide hm
          clear hm HT
          go_wp2_with fail
          refine (unhide HR _ (unhide HM)).mono ?_
          rintro e w6 ⟨v2, rfl, ho, hb⟩
          have HP := hide ((unhide HM).next ho hb)
          clear ho hb HR
          have b1 : ((f : Int) != (f : Int)) = false := by simp
          go_wp2_with fail
          refine (unhide HIS _ _ _ (unhide HP)).mono ?_
          rintro e w7 ⟨rfl, hp⟩
          have HP7 := hide hp
          clear hp
          go_wp2_with fail
          go_roundw
          case rel => exact ⟨k + 1, l2, by omega, by omega, by go_num, unhide HLT, unhide HP7⟩
          case measure => simp [intOf]; omega
        · have HT := hide (utake_no hps.sp h0)
          have HR := hide (rtake_no hps.row hl128 hpos h0)
          clear hps hl
          go_wp2_with fail
          refine (unhide HT).mono ?_
          rintro e w5 ⟨rfl, rfl⟩
          clear HT
          go_wp2_with fail
          refine (unhide HR).mono ?_
          rintro e w6 ⟨rfl, rfl⟩
          clear HR
          go_wp2_with fail
          refine (unhide HIS _ _ _ (unhide HPS)).mono ?_
          rintro e w7 ⟨rfl, hp⟩
          have HP7 := hide hp
          clear hp
          go_wp2_with fail
          go_roundw
          case rel => exact ⟨k + 1, l, by omega, by omega, by go_num, unhide HL, unhide HP7⟩
          case measure => simp [intOf]; omega
      · obtain ⟨e, l2, hl2, hG⟩ := unhide HGIVE at'
        have HL2 := hide hl2
        clear hps hl hl2 HGIVE
        rcases hG with ⟨rfl, hg, hr⟩ | ⟨rfl, hg, hr⟩
        all_goals
          have HT := hide hg
          have HR := hide hr
          clear hg hr
          go_wp2_with fail
          refine (unhide HT).mono ?_
          rintro e w5 ⟨rfl, hm⟩
          have HM := hide hm
          clear hm HT
          go_wp2_with fail
          refine (unhide HR _ (unhide HM)).mono ?_
          rintro e w6 ⟨v2, rfl, hp⟩
          have HP := hide hp
          clear hp HR
          go_wp2_with fail
          refine (unhide HIS _ _ _ (unhide HP)).mono ?_
          rintro e w7 ⟨rfl, hp⟩
          have HP7 := hide hp
          clear hp
          go_wp2_with fail
          go_roundw
          case rel => exact ⟨k + 1, l2, by omega, by omega, by go_num, unhide HL2, unhide HP7⟩
          case measure => simp [intOf]; omega
      · have HT := hide ((ukeep_any hps.sp).mono (fun e w' h => (⟨h.1, hps.mid h.2.1 h.2.2⟩ : e = _ ∧ UMid w w' b g _ l (Sp.keep l))))
        have HR := hide (fun w' (hm : UMid w w' b g (.slice (some ⟨g2, 0, none⟩) l.length c2) l (Sp.keep l)) => rkeep_any hm.row hl128 hpos)
        rw [keepF_map l hps.sp.st] at HR
        have HLT : Hid ((Sp.keep l).length = n) := (Sp.keep_length l).trans hl
        generalize Sp.keep l = l2 at *
        clear hps hl HGIVE
        go_wp2_with fail
        refine (unhide HT).mono ?_
        rintro e w5 ⟨rfl, hm⟩
        have HM := hide hm
        clear hm HT
        go_wp2_with fail
        refine (unhide HR _ (unhide HM)).mono ?_
        rintro e w6 ⟨v2, rfl, ho, hb⟩
        have HP := hide ((unhide HM).next ho hb)
        clear ho hb HR
        go_wp2_with fail
        refine (unhide HIS _ _ _ (unhide HP)).mono ?_
        rintro e w7 ⟨rfl, hp⟩
        have HP7 := hide hp
        clear hp
        go_wp2_with fail
        go_roundw
        case rel => exact ⟨k + 1, l2, by omega, by omega, by go_num, unhide HLT, unhide HP7⟩
        case measure => simp [intOf]; omega
      · have HT := hide ((uundo_any hps.sp).mono (fun e w' h => (⟨h.1, hps.mid h.2.1 h.2.2⟩ : e = _ ∧ UMid w w' b g _ l (Sp.undo l))))
        have HR := hide (fun w' (hm : UMid w w' b g (.slice (some ⟨g2, 0, none⟩) l.length c2) l (Sp.undo l)) => rundo_any hm.row hl128 hpos)
        rw [undoF_map l hps.sp.st] at HR
        have HLT : Hid ((Sp.undo l).length = n) := (Sp.undo_length l).trans hl
        generalize Sp.undo l = l2 at *
        clear hps hl HGIVE
        go_wp2_with fail
        refine (unhide HT).mono ?_
        rintro e w5 ⟨rfl, hm⟩
        have HM := hide hm
        clear hm HT
        go_wp2_with fail
        refine (unhide HR _ (unhide HM)).mono ?_
        rintro e w6 ⟨v2, rfl, ho, hb⟩
        have HP := hide ((unhide HM).next ho hb)
        clear ho hb HR
        go_wp2_with fail
        refine (unhide HIS _ _ _ (unhide HP)).mono ?_
        rintro e w7 ⟨rfl, hp⟩
        have HP7 := hide hp
        clear hp
        go_wp2_with fail
        go_roundw
        case rel => exact ⟨k + 1, l2, by omega, by omega, by go_num, unhide HLT, unhide HP7⟩
        case measure => simp [intOf]; omega
      · obtain ⟨q, hq1, hq2⟩ := u_and255 at' n hn1
        have hnz : ((n : Int) == 0) = false := by simp; omega
        obtain ⟨e, l2, hl2, hG⟩ := unhide HGIVE (q : Int)
        have HL2 := hide hl2
        clear hps hl hl2 HGIVE
        rcases hG with ⟨rfl, hg, hr⟩ | ⟨rfl, hg, hr⟩
        all_goals
          have HT := hide hg
          have HR := hide hr
          clear hg hr
          go_wp2_with fail
          refine (unhide HT).mono ?_
          rintro e w5 ⟨rfl, hm⟩
          have HM := hide hm
          clear hm HT
          go_wp2_with fail
          refine (unhide HR _ (unhide HM)).mono ?_
          rintro e w6 ⟨v2, rfl, hp⟩
          have HP := hide hp
          clear hp HR
          go_wp2_with fail
          refine (unhide HIS _ _ _ (unhide HP)).mono ?_
          rintro e w7 ⟨rfl, hp⟩
          have HP7 := hide hp
          clear hp
          go_wp2_with fail
          go_roundw
          case rel => exact ⟨k + 1, l2, by omega, by omega, by go_num, unhide HL2, unhide HP7⟩
          case measure => simp [intOf]; omega
      · clear hps hl HGIVE
        go_wp2_with fail
        refine (unhide HIS _ _ _ (unhide HPS)).mono ?_
        rintro e w7 ⟨rfl, hp⟩
        have HP7 := hide hp
        clear hp
        go_wp2_with fail
        go_roundw
        case rel => exact ⟨k + 1, l, by omega, by omega, by go_num, unhide HL, unhide HP7⟩
        case measure => simp [intOf]; omega
    · have hor : len ≤ k ∨ (k < len ∧ 120 ≤ k) := by omega
      have HB := hide hps.below
      clear hps hlt hl
      rcases hor with h1 | ⟨h1, h2⟩
      all_goals
        go_wp2_with fail
        go_ret
        exact ⟨rfl, unhide HB⟩

theorem spacePlays_walk (a0 : Int) (w0 : (Lit.int .i64 a0).wf = true) {H : Type} {enc : TypeId × Value → H} {base b0 : Nat} {spare : Nat → Bool} {held : Bool} {r : Reach} {v : Value} {d : DataW H} {p : List MemPlace} (w : World)
    (hv : Value.okWide Try.prog w r b0 22 v) (hd : DataW.Trod enc Try.prog w base spare held 22 v d p) :
    Calls Try.prog 3 #[.int .i64 a0, v] w fun e w' => e = .returned (.bool true) ∧ Below w.heap.size w w' := by
  obtain ⟨a, len, cap, rfl, hl, ha⟩ := uacts_open hv hd
  exact uplays_any a0 a len cap w hl ha
end Go.Proofs.Ytemffpkpalncgaa
