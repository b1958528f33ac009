/- DevicePlays' walk. -/
import Derived.Test.YtbggjkokfbcbcaaDState
namespace Go.Proofs.Ytbggjkokfbcbcaa
open Go.RowKit
set_option linter.unusedVariables false

set_option maxRecDepth 4000 in
set_option maxHeartbeats 12800000 in
theorem plays_any (a0 : Int) (a : Option Addr) (len cap : Nat) (w : World) (hlen : len ≤ maxLen) (hacts : Acts w a len) :
    Calls Try.prog 3 #[.int .i64 a0, .slice a len cap] w fun e w' => e = .returned (.bool true) ∧ Below w.heap.size w w' := by
  unfold maxLen at hlen
  have HACTS := hide hacts
  have HAW := hide (fun w => awake_any w)
  obtain ⟨n, hn, hn8, hn1⟩ : ∃ n : Nat, wrap64 (1 + bits .and .i64 a0 7) = (n : Int) ∧ n ≤ 8 ∧ 1 ≤ n := ⟨(1 + a0 % 8).toNat, by rw [pl_and_mask a0 3 7 (by omega) (by decide)]; unfold wrap64; omega, by omega, by omega⟩
  have HNEW := hide (new_ok n w (by omega) (by omega))
  have HRN := hide (fun w => rnew_any n w (by omega))
  unfold RV at HRN
  have HSM := hide (Sm.new n hn1)
  have e0 : rleft (Dev.new n) = -1 := rfl
  have e1 : (Dev.new n).down = false := rfl
  have e2 : (Dev.new n).calls = 0 := rfl
  have HE := hide (And.intro e0 (And.intro e1 e2))
  generalize Dev.new n = D0 at *
  clear hacts e0 e1 e2
  go_enter Try.func3, Try.ntmps3
  go_wp2_with fail
  refine (unhide HNEW).mono ?_
  rintro e wa ⟨b, rfl, hd1, hb1⟩
  have HD1 := hide hd1
  have HB1 := hide hb1
  clear hd1 hb1 HNEW
  go_wp2_with fail
  refine (unhide HAW wa).mono ?_
  rintro e wb ⟨rfl, hb2⟩
  have HD2 := hide ((unhide HD1).later hb2).1
  have HB2 := hide ((unhide HB1).trans (hb2.mono (unhide HB1).size))
  clear hb2 HD1 HB1 HAW
  go_wp2_with fail
  refine (unhide HRN wb).mono ?_
  rintro e wc ⟨lv, rfl, hr3, hb3⟩
  obtain ⟨l0, l1, rfl, _⟩ := ownsRow_slice hr3.sec
  have HPS : Hid (PS w (wc.alloc (.cells #[.slice l0 D0.L.length l1, .slice none 0 0, .int .i64 (rleft D0), .bool D0.down, .int .i64 (D0.calls : Int)] 31)) b wc.heap.size D0 D0 (.slice l0 D0.L.length l1) (.slice none 0 0)) := by
    have hsz := (unhide HB2).size
    have hbc : Below wb.heap.size wb (wc.alloc (.cells #[.slice l0 D0.L.length l1, .slice none 0 0, .int .i64 (rleft D0), .bool D0.down, .int .i64 (D0.calls : Int)] 31)) := hb3.alloc hb3.size _
    have hbb := hbc.block b (unhide HD2).lt
    refine ⟨((unhide HD2).later hbc).1, heap_alloc_new wc _, ⟨ownsRow_less (hr3.sec.alloc _) hsz, ownsRow_less (hr3.loo.alloc _) hsz⟩, (DFor.new (unhide HD2) hb3.size).same hbb, fun k hk => (DFor.new (unhide HD2) (hr3.sec.lt k hk).1).same hbb, fun k hk => (by cases hk), (unhide HB2).trans (hbc.mono hsz), by have := hb3.size; omega⟩
  rw [(unhide HE).1, (unhide HE).2.1, (unhide HE).2.2] at HPS ⊢
  obtain ⟨X, hX⟩ : ∃ X, wc.heap.size = X := ⟨_, rfl⟩
  rw [hX] at HPS
  clear hr3 hb3 HRN HD2 HB2
  go_wp2_with fail
  clear hX
  obtain ⟨w1, hw1⟩ : ∃ w1, wc.alloc (.cells #[.slice l0 D0.L.length l1, .slice none 0 0, .int .i64 (-1), .bool false, .int .i64 ((0 : Nat) : Int)] 31) = w1 := ⟨_, rfl⟩
  go_loopw [8] (fun i wr => ∃ (k : Nat) (d : Dev) (lv cv : Value), k ≤ 100 ∧ k ≤ len ∧ i = .int .i64 k ∧ Sm n k d ∧ PS w wr b X d d lv cv) (fun i _ => 100 - (intOf i).toNat)
  case atStart =>
    exact ⟨0, D0, _, _, Nat.zero_le _, Nat.zero_le _, rfl, unhide HSM, unhide HPS⟩
  case round =>
    obtain ⟨k, d, lv, cv, hk, hkl, rfl, hsm, hps⟩ := hrel
    clear HPS HSM HE hw1
    by_cases hlt : k < len ∧ k < 100
    · obtain ⟨hlt0, hlt1⟩ := hlt
      obtain ⟨kind, at', s, kv, keep, hact⟩ := unhide HACTS k hlt0
      have hact2 := hact.later hps.below
      obtain ⟨_, _, _, he0, _, _, hrow0⟩ := hact.row
      clear he0
      obtain ⟨⟨ab, ao, rfl, c0, c1, c2, c3⟩, hat1, hat2, ka, kl, kc, rfl, hkl2, hkc, hrow⟩ := hact2
      have HCUT := hide (fun w => cut_any s 70 w)
      generalize s.take 70 = t at *
      have hi1 : (0 : Int) ≤ (k : Int) := by omega
      have hi2 : (k : Int) < (len : Int) := by omega
      have hi3 : (k : Int) < 100 := by omega
      obtain ⟨wA, hwA⟩ : ∃ wA, wr.alloc (.cells #[.int .i64 kind, .int .i64 at', .string (S t), .slice ka kl kc] 35) = wA := ⟨_, rfl⟩
      obtain ⟨A, hA⟩ : ∃ A, wr.heap.size = A := ⟨_, rfl⟩
      have hbA : Below wr.heap.size wr wA := by rw [← hwA]; exact (Below.refl _ _).alloc (Nat.le_refl _) _
      have hpA := hps.quiet hbA
      have haA : AS w wA b X A kind at' t (.slice ka kl kc) := by
        refine ⟨by rw [← hwA, ← hA]; exact heap_alloc_new wr _, (DFor.new hps.dev (by omega)).same (hbA.block b hps.dev.lt), by have := block_lt hps.box; omega, by have := hps.below.size; omega⟩
      have hrowA := hrow.later hbA
      obtain ⟨x0, x1, x2, x3⟩ := haA.cells
      obtain ⟨lva, lvc, rfl, _⟩ := ownsRow_slice hpA.ref.sec
      obtain ⟨cva, cvc, rfl, _⟩ := ownsRow_slice hpA.ref.loo
      obtain ⟨y0, y1, y2, y3, y4⟩ := cells5 hpA.box
      obtain ⟨g0, g1, g2, g3, g4⟩ := frozen5 hpA.box
      have h1 := hsm.calls
      have h2 := hsm.few
      have h3 := hsm.left
      have h4 := hsm.len
      have HSM := hide hsm
      have HPA := hide hpA
      have HAA := hide haA
      have HRA := hide hrowA
      have HKL := hide hkl2
      have HROW := hide hrow0
      have HIS : Hid (∀ wx dx lx cx, Sm n (k + 1) dx → PS w wx b X dx dx lx cx → Calls Try.prog 24 #[.pointer (some ⟨b, 0, none⟩), .agg #[lx, cx, .int .i64 (rleft dx), .bool dx.down, .int .i64 (dx.calls : Int)]] wx fun e w' => e = .returned (.int .i64 0) ∧ PS w w' b X dx dx lx cx) :=
        fun wx dx lx cx hs hp => (is_any hp.dev hp.ref (by have := hs.few; omega) (by have := hs.len; omega)).mono fun e w' ⟨he, hb⟩ => ⟨he, hp.quiet hb⟩
      clear hsm hps hact hrow hbA hpA haA hrowA h4 hkl2 hrow0
      go_wp2_with fail
      refine (unhide HCUT _).mono ?_
      rintro e wq ⟨rfl, rfl⟩
      clear c0 c1 c2 c3 HCUT
      have hkind : kind = 1 ∨ kind = 2 ∨ kind = 3 ∨ kind = 4 ∨ kind = 5 ∨ kind = 6 ∨ kind = 7 ∨ (kind ≠ 1 ∧ kind ≠ 2 ∧ kind ≠ 3 ∧ kind ≠ 4 ∧ kind ≠ 5 ∧ kind ≠ 6 ∧ kind ≠ 7) := by omega
      rcases hkind with rfl | rfl | rfl | rfl | rfl | rfl | rfl | ⟨k1, k2, k3, k4, k5, k6, k7⟩
      · have HWR := hide (write_any (unhide HPA).dev at' t h3 (by omega) (by omega) (by have := (unhide HPA).below.size; omega))
        have HSX := hide ((unhide HSM).write at' t)
        have HPUT := hide (fun w2 (hp : PS w w2 b X (d.write at' t) d (.slice lva d.L.length lvc) (.slice cva d.W.length cvc)) => rput_any hp.ref at' t h3 (by omega) (by omega) hp.below.size)
        unfold RV at HPUT
        generalize d.writeE at' t = E at *
        go_wp2_with fail
        refine (unhide HWR).mono ?_
        rintro e w2 ⟨rfl, hd2, hs2⟩
        have hp2 := (unhide HPA).step hd2 hs2
        have ha2 := (unhide HAA).step hs2
        clear x0 x1 x2 x3 y0 y1 y2 y3 y4 g0 g1 g2 g3 g4
        obtain ⟨x0, x1, x2, x3⟩ := ha2.cells
        obtain ⟨y0, y1, y2, y3, y4⟩ := cells5 hp2.box
        have HP2 := hide hp2
        have HPU := hide (unhide HPUT w2 hp2)
        clear hp2 ha2 hd2 hs2 HWR HPUT
        go_wp2_with fail
        refine (unhide HPU).mono ?_
        rintro e w3 ⟨cv', rfl, hr3, hf3, hb3⟩
        have hp3 := (unhide HP2).quiet hb3
        clear x0 x1 x2 x3 y0 y1 y2 y3 y4
        obtain ⟨y0, y1, y2, y3, y4⟩ := cells5 hp3.box
        obtain ⟨g0, g1, g2, g3, g4⟩ := frozen5 hp3.box
        have HPX := hide ((unhide HP2).put hb3 hr3 (fun k hk => Or.inl hk) hf3)
        obtain ⟨cva2, cvc2, rfl, _⟩ := ownsRow_slice hr3.loo
        unfold put5 at HPX
        clear hp3 hr3 hf3 hb3 HPU HP2
        go_wp2_with fail
        refine (unhide HIS _ _ _ _ (unhide HSX) (unhide HPX)).mono ?_
        rintro e w9 ⟨rfl, hp9⟩
        have HP9 := hide hp9
        clear hp9 HIS
        go_wp2_with fail
        go_roundw
        case rel => exact ⟨k + 1, _, _, _, by omega, by omega, by go_num, unhide HSX, unhide HP9⟩
        case measure => simp [intOf]; omega
      · have b1 : (((2 : Int)) == 1) = false := rfl
        have HWR := hide (flush_any (unhide HPA).dev (unhide HSM).ok h3 (by omega) (by omega) (by have := (unhide HSM).len; omega))
        have HSX := hide (unhide HSM).flush
        have HPUT := hide (fun w2 (hp : PS w w2 b X d.flush d (.slice lva d.L.length lvc) (.slice cva d.W.length cvc)) => rflush_any hp.ref (unhide HSM).ok h3 (by omega) (by omega) (by have := (unhide HSM).len; omega) hp.below.size)
        unfold RV at HPUT
        generalize d.flushE = E at *
        go_wp2_with fail
        refine (unhide HWR).mono ?_
        rintro e w2 ⟨rfl, hd2, hs2⟩
        have hp2 := (unhide HPA).step hd2 hs2
        clear x0 x1 x2 x3 y0 y1 y2 y3 y4 g0 g1 g2 g3 g4
        obtain ⟨y0, y1, y2, y3, y4⟩ := cells5 hp2.box
        have HP2 := hide hp2
        have HPU := hide (unhide HPUT w2 hp2)
        clear hp2 hd2 hs2 HWR HPUT
        go_wp2_with fail
        refine (unhide HPU).mono ?_
        rintro e w3 ⟨lv', cv', rfl, hr3, hf3, hf4, hb3⟩
        have hp3 := (unhide HP2).quiet hb3
        clear y0 y1 y2 y3 y4
        obtain ⟨y0, y1, y2, y3, y4⟩ := cells5 hp3.box
        obtain ⟨g0, g1, g2, g3, g4⟩ := frozen5 hp3.box
        have HPX := hide ((unhide HP2).put hb3 hr3 hf3 hf4)
        obtain ⟨cva2, cvc2, rfl, _⟩ := ownsRow_slice hr3.loo
        obtain ⟨lva2, lvc2, rfl, _⟩ := ownsRow_slice hr3.sec
        unfold put5 at HPX
        clear hp3 hr3 hf3 hf4 hb3 HPU HP2
        go_wp2_with fail
        refine (unhide HIS _ _ _ _ (unhide HSX) (unhide HPX)).mono ?_
        rintro e w9 ⟨rfl, hp9⟩
        have HP9 := hide hp9
        clear hp9 HIS
        go_wp2_with fail
        go_roundw
        case rel => exact ⟨k + 1, _, _, _, by omega, by omega, by go_num, unhide HSX, unhide HP9⟩
        case measure => simp [intOf]; omega
      · have b1 : (((3 : Int)) == 1) = false := rfl
        have b2 : (((3 : Int)) == 2) = false := rfl
        have HFEW := hide (fun w => few_any ka kl kc keep w (unhide HKL) hkc)
        have hl30 : (keep.take 30).length ≤ 30 := by simp; omega
        generalize keep.take 30 = kp at *
        have HCR := hide (fun v (hv : NumRow wA v kp) => crash_any (unhide HPA).dev (unhide HSM).ok v kp hv (by omega) (by have := (unhide HSM).len; omega) (by omega))
        have HSX := hide (((unhide HSM).crash kp).mono (Nat.le_succ k))
        have HRC := hide (fun wx v (hp : PS w wx b X (d.crash kp) d (.slice lva d.L.length lvc) (.slice cva d.W.length cvc)) (hv : NumRow wx v kp) => rcrash_any hp.ref (unhide HSM).ok v kp hv (by omega) (by have := (unhide HSM).len; omega) (by omega) hp.below.size)
        unfold RV at HRC
        go_wp2_with fail
        refine (unhide HFEW _).mono ?_
        rintro e wq ⟨v, rfl, hv, rfl⟩
        have HV := hide hv
        clear hv
        go_wp2_with fail
        refine (unhide HCR v (unhide HV _ (unhide HRA))).mono ?_
        rintro e w2 ⟨rfl, hd2, hs2⟩
        have hp2 := (unhide HPA).step hd2 hs2
        have ha2 := (unhide HAA).step hs2
        clear x0 x1 x2 x3 y0 y1 y2 y3 y4 g0 g1 g2 g3 g4
        obtain ⟨x0, x1, x2, x3⟩ := ha2.cells
        obtain ⟨y0, y1, y2, y3, y4⟩ := cells5 hp2.box
        have HP2 := hide hp2
        have HR2 := hide ((unhide HROW).later hp2.below)
        have hXlt := block_lt hp2.box
        clear hp2 ha2 hd2 hs2 HCR HV
        go_wp2_with fail
        go_region_with (first
          | (go_at_call 16; refine (unhide HFEW _).mono ?_; rintro e wq ⟨v2, rfl, hv2, rfl⟩; have HV2 := hide hv2; clear hv2)
          | (go_at_call 17; refine (unhide HRC _ v2 ((unhide HP2).quiet (by exact (Below.refl _ _).drew)) (unhide HV2 _ ((unhide HR2).later (by exact (Below.refl _ _).drew)))).mono ?_; rintro e w3 ⟨lv', rfl, hr3, hf3, hb3⟩; replace hb3 := below_undrew hb3; have hp3 := (unhide HP2).quiet hb3; clear y0 y1 y2 y3 y4; obtain ⟨y0, y1, y2, y3, y4⟩ := cells5 hp3.box; obtain ⟨g0, g1, g2, g3, g4⟩ := frozen5 hp3.box; have HPX := hide ((unhide HP2).put hb3 hr3 hf3 (fun k hk => by cases hk)); obtain ⟨lva2, lvc2, rfl, _⟩ := ownsRow_slice hr3.sec; unfold put5 at HPX; clear hp3 hr3 hf3 hb3))
        all_goals
          go_wp2_with fail
          refine (unhide HIS _ _ _ _ (unhide HSX) (unhide HPX)).mono ?_
          rintro e w9 ⟨rfl, hp9⟩
          have HP9 := hide hp9
          clear hp9 HIS
          go_wp2_with fail
          go_roundw
          case rel => exact ⟨k + 1, _, _, _, by omega, by omega, by go_num, unhide HSX, unhide HP9⟩
          case measure => simp [intOf]; omega
      · have b1 : (((4 : Int)) == 1) = false := rfl
        have b2 : (((4 : Int)) == 2) = false := rfl
        have b3 : (((4 : Int)) == 3) = false := rfl
        have HWR := hide (arm_any (unhide HPA).dev at')
        have HSX := hide (((unhide HSM).arm at' hat2).mono (Nat.le_succ k))
        go_wp2_with fail
        refine (unhide HWR).mono ?_
        rintro e w2 ⟨rfl, hd2, hs2⟩
        have hp2 := (unhide HPA).step hd2 hs2
        have ha2 := (unhide HAA).step hs2
        clear x0 x1 x2 x3 y0 y1 y2 y3 y4 g0 g1 g2 g3 g4
        obtain ⟨x0, x1, x2, x3⟩ := ha2.cells
        obtain ⟨y0, y1, y2, y3, y4⟩ := cells5 hp2.box
        obtain ⟨g0, g1, g2, g3, g4⟩ := frozen5 hp2.box
        have HPX := hide (hp2.left at' : PS w (w2.setCell ⟨X, 2, none⟩ (.int .i64 (max at' (-1)))) b X (d.arm at') (d.arm at') _ _)
        have HRA2 := hide (And.intro (rleft_arm d at') (And.intro (show (d.arm at').down = d.down from rfl) (show (d.arm at').calls = d.calls from rfl)))
        have HIS2 := hide (unhide HIS _ _ _ _ (unhide HSX) (unhide HPX))
        rw [(unhide HRA2).1, (unhide HRA2).2.1, (unhide HRA2).2.2] at HIS2
        clear hp2 ha2 hd2 hs2 HWR HRA2
        go_wp2_with fail
        refine (unhide HIS2).mono ?_
        rintro e w9 ⟨rfl, hp9⟩
        have HP9 := hide hp9
        clear hp9 HIS HIS2
        go_wp2_with fail
        go_roundw
        case rel => exact ⟨k + 1, _, _, _, by omega, by omega, by go_num, unhide HSX, unhide HP9⟩
        case measure => simp [intOf]; omega
      · have b1 : (((5 : Int)) == 1) = false := rfl
        have b2 : (((5 : Int)) == 2) = false := rfl
        have b3 : (((5 : Int)) == 3) = false := rfl
        have b4 : (((5 : Int)) == 4) = false := rfl
        have HSP := hide (spoil_any (unhide HPA).dev at' t (by have := (unhide HSM).len; omega))
        have HSX := hide (((unhide HSM).spoil at' t).mono (Nat.le_succ k))
        have hLn := (unhide HSM).len
        go_wp2_with fail
        refine (unhide HSP).mono ?_
        rintro e w2 ⟨rfl, hd2, hs2⟩
        have hp2 := (unhide HPA).step hd2 hs2
        have ha2 := (unhide HAA).step hs2
        clear x0 x1 x2 x3 y0 y1 y2 y3 y4 g0 g1 g2 g3 g4 hd2 hs2 HSP
        obtain ⟨x0, x1, x2, x3⟩ := ha2.cells
        obtain ⟨y0, y1, y2, y3, y4⟩ := cells5 hp2.box
        by_cases hno : d.no at'
        · have hor : at' < 0 ∨ (0 ≤ at' ∧ (n : Int) ≤ at') := by unfold Dev.no at hno; omega
          have e : d.spoil at' t = d := by unfold Dev.spoil; rw [if_pos hno]
          rw [e] at hp2 HSX
          have HPX := hide hp2
          clear hp2 ha2 e hno hLn
          rcases hor with q1 | ⟨q1, q2⟩
          all_goals
            go_wp2_with fail
            refine (unhide HIS _ _ _ _ (unhide HSX) (unhide HPX)).mono ?_
            rintro e w9 ⟨rfl, hp9⟩
            have HP9 := hide hp9
            clear hp9 HIS
            go_wp2_with fail
            go_roundw
            case rel => exact ⟨k + 1, _, _, _, by omega, by omega, by go_num, unhide HSX, unhide HP9⟩
            case measure => simp [intOf]; omega
        · have q1 : 0 ≤ at' := by unfold Dev.no at hno; omega
          have q2 : at' < (n : Int) := by unfold Dev.no at hno; omega
          obtain ⟨x, rfl⟩ : ∃ x : Nat, at' = (x : Int) := ⟨at'.toNat, by omega⟩
          have e : d.spoil (x : Int) t = { d with L := d.L.set x (whole t) } := by unfold Dev.spoil; rw [if_neg hno]; simp
          obtain ⟨i0, hi, hz0, hz1, hz2⟩ := info_parts info_string
          obtain ⟨ga, gc, w3, hrun, ho3, hb3⟩ := run_copy_all (P := Try.prog) w2 w.heap.size 28 28 9 i0 (.string ⟨#[]⟩) 1 16 under_strings hi hz0 hz1 hz2 rfl (by decide) (.slice lva d.L.length lvc) d.L.length (secs d.L) hp2.ref.sec (secs_one d.L) (by unfold maxLen; omega) (by omega)
          obtain ⟨g, rfl, hg⟩ : ∃ g, ga = ⟨g, 0, none⟩ ∧ w2.heap.size ≤ g := by
            rcases ho3.2 with ⟨e, _⟩ | ⟨g, cap, cur, e, h, _⟩
            · cases e
            · cases e; exact ⟨g, rfl, h⟩
          have hxL : x < d.L.length := by omega
          have hcx : w3.cell? ⟨g, x, none⟩ = some (.string (S (d.L[x]'hxL))) := ownsRow_cell ho3 rfl x _ (by simp [secs, List.getElem?_eq_getElem hxL])
          have hfx : w3.frozen? ⟨g, x, none⟩ = false := by
            obtain ⟨cur, hh, _⟩ := ownsRow_blk ho3 (k := g) rfl
            exact block_frozen hh x
          have hp3 := hp2.quiet hb3
          have ha3 := ha2.step (hp2.dev.later hb3).2
          have hXlt := block_lt hp2.box
          have hgX : g ≠ X := by omega
          have hXg := Ne.symm hgX
          have pa : ∀ o, (w2.alloc o).cell? ⟨X, 0, none⟩ = some (.slice lva d.L.length lvc) := fun o => (((Below.refl _ w2).alloc (Nat.le_refl _) o).cell (p := ⟨X, 0, none⟩) hXlt).trans y0
          have HPX : Hid (PS w ((w3.setCell ⟨g, x, none⟩ (.string (S (whole t)))).setCell ⟨X, 0, none⟩ (.slice (some ⟨g, 0, none⟩) d.L.length gc)) b X (d.spoil (x : Int) t) (d.spoil (x : Int) t) (.slice (some ⟨g, 0, none⟩) d.L.length gc) (.slice cva d.W.length cvc)) := by
            rw [e] at hp2 ⊢
            have hb4 : Below w2.heap.size w2 (w3.setCell ⟨g, x, none⟩ (.string (S (whole t)))) := hb3.setCell (p := ⟨g, x, none⟩) hg _
            refine hp2.putL hb4 ⟨?_, (hp2.ref.later hb4).loo⟩ (fun k hk => by cases hk; exact hg) ⟨rfl, rfl, rfl⟩
            have := ownsRow_less (ownsRow_store ho3 rfl x (.string (S (whole t)))) hp2.below.size
            simpa [secs, List.map_set] using this
          have HFI := hide (fun w => fill_any t w)
          generalize whole t = tz at *
          have HRUN := hide hrun
          have HIS2 := hide (unhide HIS _ _ _ _ (unhide HSX) ((unhide HPX).quiet ((Below.refl _ _).drew)))
          have er : rleft (d.spoil (x : Int) t) = rleft d := by rw [e]; rfl
          have er2 : (d.spoil (x : Int) t).down = d.down := by rw [e]
          have er3 : (d.spoil (x : Int) t).calls = d.calls := by rw [e]
          rw [er, er2, er3] at HIS2
          generalize d.spoil (x : Int) t = D5 at *
          obtain ⟨z0, z1, z2, z3⟩ := ha3.cells
          obtain ⟨v0, v1, v2, v3, v4⟩ := cells5 hp3.box
          obtain ⟨f0, f1, f2, f3, f4⟩ := frozen5 hp3.box
          generalize d.L[x]'hxL = old at *
          rw [hLn] at HRUN HIS2 pa y0 v0 HPX
          clear hp2 ha2 hp3 ha3 hno e ho3 hb3 hrun er er2 er3 hLn hxL
          go_wp2_with (first | (at_builtin; refine wpList_append_is rfl _ _ 28 rfl _ _ _ _ rfl rfl (unhide HRUN) ?_) | fail)
          clear HRUN pa y0 y1 y2 y3 y4 x0 x1 x2 x3
          go_wp2_with fail
          go_region_with (go_at_call 20; refine (unhide HFI _).mono ?_; rintro e wq ⟨rfl, hwq⟩; obtain rfl := hwq)
          all_goals
            go_wp2_with fail
            refine (unhide HIS2).mono ?_
            rintro e w9 ⟨rfl, hp9⟩
            have HP9 := hide hp9
            clear hp9 HIS HIS2
            go_wp2_with fail
            go_roundw
            case rel => exact ⟨k + 1, _, _, _, by omega, by omega, by go_num, unhide HSX, unhide HP9⟩
            case measure => simp [intOf]; omega
      · have b1 : (((6 : Int)) == 1) = false := rfl
        have b2 : (((6 : Int)) == 2) = false := rfl
        have b3 : (((6 : Int)) == 3) = false := rfl
        have b4 : (((6 : Int)) == 4) = false := rfl
        have b5 : (((6 : Int)) == 5) = false := rfl
        have HCL := hide (clone_any (unhide HPA).dev (by have := (unhide HSM).len; omega) (by omega))
        have HSX := hide ((unhide HSM).mono (Nat.le_succ k))
        have HS1 := hide ((unhide HSM).write 0 [111, 116, 104, 101, 114])
        have HS2 := hide (unhide HS1).flush
        go_wp2_with fail
        refine (unhide HCL).mono ?_
        rintro e w2 ⟨b', rfl, hd2, hb2⟩
        have HD2 := hide hd2
        have HB2 := hide hb2
        clear hd2 hb2 HCL x0 x1 x2 x3 y0 y1 y2 y3 y4 g0 g1 g2 g3 g4
        go_wp2_with fail
        refine (write_any (unhide HD2) 0 [111, 116, 104, 101, 114] h3 (by omega) (by omega) (unhide HB2).size).mono ?_
        rintro e w3 ⟨rfl, hd3, hs3⟩
        have HD3 := hide hd3
        have HB3 := hide ((unhide HB2).trans (hs3.below (unhide HD2) (unhide HB2).size))
        generalize d.writeE 0 [111, 116, 104, 101, 114] = E1 at *
        generalize d.write 0 [111, 116, 104, 101, 114] = d1 at *
        clear hd3 hs3 HD2 HB2
        go_wp2_with fail
        refine (flush_any (unhide HD3) (unhide HS1).ok (unhide HS1).left (by have := (unhide HS1).calls; omega) (by have := (unhide HS1).few; omega) (by have := (unhide HS1).len; omega)).mono ?_
        rintro e w4 ⟨rfl, hd4, hs4⟩
        have HD4 := hide hd4
        have HB4 := hide ((unhide HB3).trans (hs4.below (unhide HD3) (unhide HB3).size))
        generalize d1.flushE = E2 at *
        generalize d1.flush = d2 at *
        clear hd4 hs4 HD3 HB3
        go_wp2_with fail
        refine (spoil_any (unhide HD4) 0 [109, 111, 114, 101] (by have := (unhide HS2).len; omega)).mono ?_
        rintro e w5 ⟨rfl, hd5, hs5⟩
        have hb5 := ((unhide HB4).trans (hs5.below (unhide HD4) (unhide HB4).size))
        have hp5 := (unhide HPA).quiet hb5
        obtain ⟨y0, y1, y2, y3, y4⟩ := cells5 hp5.box
        have HPX := hide hp5
        clear hd5 hs5 hb5 hp5 HD4 HB4
        go_wp2_with fail
        refine (unhide HIS _ _ _ _ (unhide HSX) (unhide HPX)).mono ?_
        rintro e w9 ⟨rfl, hp9⟩
        have HP9 := hide hp9
        clear hp9 HIS
        go_wp2_with fail
        go_roundw
        case rel => exact ⟨k + 1, _, _, _, by omega, by omega, by go_num, unhide HSX, unhide HP9⟩
        case measure => simp [intOf]; omega
      · have b1 : (((7 : Int)) == 1) = false := rfl
        have b2 : (((7 : Int)) == 2) = false := rfl
        have b3 : (((7 : Int)) == 3) = false := rfl
        have b4 : (((7 : Int)) == 4) = false := rfl
        have b5 : (((7 : Int)) == 5) = false := rfl
        have b6 : (((7 : Int)) == 6) = false := rfl
        have HRD := hide (dread_any (unhide HPA).dev at' (by omega))
        have HRR := hide (fun wx (hp : PS w wx b X d d (.slice lva d.L.length lvc) (.slice cva d.W.length cvc)) => rread_any hp.ref at' (by omega))
        unfold RV at HRR
        have HSX := hide ((unhide HSM).mono (Nat.le_succ k))
        generalize d.read at' = tt at *
        generalize d.readE at' = rr at *
        go_wp2_with fail
        refine (unhide HRD).mono ?_
        rintro e w2 ⟨rfl, hb2⟩
        have hp2 := (unhide HPA).quiet hb2
        have ha2 := (unhide HAA).step ((unhide HPA).dev.later hb2).2
        clear x0 x1 x2 x3 y0 y1 y2 y3 y4 g0 g1 g2 g3 g4
        obtain ⟨x0, x1, x2, x3⟩ := ha2.cells
        obtain ⟨y0, y1, y2, y3, y4⟩ := cells5 hp2.box
        have HP2 := hide hp2
        have HR2 := hide (unhide HRR w2 hp2)
        clear hp2 ha2 hb2 HRD HRR
        go_wp2_with fail
        refine (unhide HR2).mono ?_
        rintro e w3 ⟨rfl, hb3⟩
        have hp3 := (unhide HP2).quiet hb3
        clear x0 x1 x2 x3 y0 y1 y2 y3 y4
        obtain ⟨y0, y1, y2, y3, y4⟩ := cells5 hp3.box
        have HPX := hide hp3
        clear hp3 hb3 HP2 HR2
        go_wp2_with fail
        refine (unhide HIS _ _ _ _ (unhide HSX) (unhide HPX)).mono ?_
        rintro e w9 ⟨rfl, hp9⟩
        have HP9 := hide hp9
        clear hp9 HIS
        go_wp2_with fail
        go_roundw
        case rel => exact ⟨k + 1, _, _, _, by omega, by omega, by go_num, unhide HSX, unhide HP9⟩
        case measure => simp [intOf]; omega
      · have b1 : (kind == 1) = false := by simpa using k1
        have b2 : (kind == 2) = false := by simpa using k2
        have b3 : (kind == 3) = false := by simpa using k3
        have b4 : (kind == 4) = false := by simpa using k4
        have b5 : (kind == 5) = false := by simpa using k5
        have b6 : (kind == 6) = false := by simpa using k6
        have b7 : (kind == 7) = false := by simpa using k7
        have HSX := hide ((unhide HSM).mono (Nat.le_succ k))
        have HPX := hide (unhide HPA)
        clear k1 k2 k3 k4 k5 k6 k7
        go_wp2_with fail
        refine (unhide HIS _ _ _ _ (unhide HSX) (unhide HPX)).mono ?_
        rintro e w9 ⟨rfl, hp9⟩
        have HP9 := hide hp9
        clear hp9 HIS
        go_wp2_with fail
        go_roundw
        case rel => exact ⟨k + 1, _, _, _, by omega, by omega, by go_num, unhide HSX, unhide HP9⟩
        case measure => simp [intOf]; omega
    · have hb := hps.below
      have HB := hide hb
      have hor : (len : Int) ≤ (k : Int) ∨ ((k : Int) < (len : Int) ∧ (100 : Int) ≤ (k : Int)) := by omega
      clear hps hsm hb hlt
      rcases hor with hk1 | ⟨hk1, hk2⟩
      all_goals
        go_wp2_with fail
        go_ret
        exact ⟨rfl, unhide HB⟩

theorem devicePlays_walk (a0 : Int) (w0 : (Lit.int .i64 a0).wf = true) {H : Type} {enc : TypeId × Value → H} {base b0 : Nat} {spare : Nat → Bool} {held : Bool} {r : Reach} {v : Value} {d : DataW H} {p : List MemPlace} (w : World)
    (hv : Value.okWide Try.prog w r b0 22 v) (hd : DataW.Trod enc Try.prog w base spare held 22 v d p) :
    Calls Try.prog 3 #[.int .i64 a0, v] w fun e w' => e = .returned (.bool true) ∧ Below w.heap.size w w' := by
  obtain ⟨a, len, cap, rfl, hl, ha⟩ := acts_open hv hd
  exact plays_any a0 a len cap w hl ha
end Go.Proofs.Ytbggjkokfbcbcaa
