/- DeviceArms's walk. -/
import Derived.Test.YtbggjkokfbcbcaaDAwake
namespace Go.Proofs.Ytbggjkokfbcbcaa
open Go.RowKit
set_option linter.unusedVariables false

structure AInv (n k : Nat) (d : Dev) : Prop where
  len : d.L.length = 4
  armed : d.armed = true
  sum : d.calls + d.left = n
  down : d.down = true → d.left = 0
  few : d.W.length ≤ k
  has : ∀ x ∈ d.W, x.1 < 4

theorem AInv.ok {n k : Nat} {d : Dev} (h : AInv n k d) : d.Ok := ⟨by rw [h.len]; exact h.has, by rw [h.len]; omega⟩
theorem AInv.out {n k : Nat} {d : Dev} (h : AInv n k d) : d.out ↔ d.left = 0 := by
  unfold Dev.out
  rw [h.armed]
  constructor
  · rintro (h1 | h1)
    · exact h.down h1
    · exact h1.2
  · intro h1; exact Or.inr ⟨rfl, h1⟩
theorem AInv.begin {n k : Nat} {d : Dev} (h : AInv n k d) : AInv n k d.begin ∧ (d.begin.down = decide d.out) := by
  unfold Dev.begin
  by_cases ho : d.out
  · rw [if_pos ho]
    exact ⟨⟨h.len, h.armed, h.sum, fun _ => h.out.1 ho, h.few, h.has⟩, by simp [ho]⟩
  · rw [if_neg ho]
    have hl : d.left ≠ 0 := fun e => ho (h.out.2 e)
    have hd : d.down = false := by
      cases hx : d.down with
      | false => rfl
      | true => exact absurd (h.down hx) hl
    have hs := h.sum
    refine ⟨⟨h.len, h.armed, ?_, fun e => ?_, h.few, h.has⟩, ?_⟩
    · simp [h.armed]; omega
    · rw [hd] at e; cases e
    · simp [ho, hd]
theorem AInv.write {n k : Nat} {d : Dev} (h : AInv n k d) (i : Int) (h0 : 0 ≤ i) (h4 : i < 4) : AInv n (k + 1) (d.write i [120]) ∧ d.writeE i [120] = if (d.write i [120]).down then 16 else 0 := by
  obtain ⟨hb, hd⟩ := h.begin
  have hno : ¬(d.no i ∨ 64 < ([120] : List UInt8).length) := by unfold Dev.no; rw [h.len]; simp; omega
  unfold Dev.write Dev.writeE
  rw [if_neg hno, if_neg hno]
  by_cases ho : d.out
  · rw [if_pos ho, if_pos ho]
    refine ⟨⟨hb.len, hb.armed, hb.sum, hb.down, by have := hb.few; omega, hb.has⟩, ?_⟩
    rw [hd]; simp [ho]
  · rw [if_neg ho, if_neg ho]
    refine ⟨⟨hb.len, hb.armed, hb.sum, hb.down, by have := h.few; simp; omega, fun x hx => ?_⟩, ?_⟩
    · rcases List.mem_append.1 hx with hx | hx
      · exact h.has x hx
      · simp at hx; subst hx; show i.toNat < 4; omega
    · rw [hd]; simp [ho]
theorem AInv.flush {n k : Nat} {d : Dev} (h : AInv n k d) : AInv n k d.flush ∧ d.flushE = if d.flush.down then 16 else 0 := by
  obtain ⟨hb, hd⟩ := h.begin
  unfold Dev.flush Dev.flushE
  by_cases ho : d.out
  · rw [if_pos ho, if_pos ho]
    exact ⟨hb, by rw [hd]; simp [ho]⟩
  · rw [if_neg ho, if_neg ho]
    refine ⟨⟨by rw [lay_length]; exact h.len, hb.armed, hb.sum, hb.down, by simp, by simp⟩, by rw [hd]; simp [ho]⟩
theorem AInv.start (n : Nat) : AInv n 0 ((Dev.new 4).arm (n : Int)) := by
  refine ⟨by simp [Dev.arm, Dev.new], by simp [Dev.arm], by simp [Dev.arm, Dev.new], by simp [Dev.arm, Dev.new], by simp [Dev.arm, Dev.new], by simp [Dev.arm, Dev.new]⟩

theorem and_mask (n : Int) (k : Nat) (m : Int) (hk : k < 63) (hm : (BitVec.ofInt 64 m).toNat = 2 ^ k - 1) : bits .and .i64 n m = n % (2 ^ k : Nat) := by
  have key : (BitVec.ofInt 64 n &&& BitVec.ofInt 64 m).toNat = (n % ((2 ^ 64 : Nat) : Int)).toNat % 2 ^ k := by
    rw [BitVec.toNat_and, BitVec.toNat_ofInt, hm, Nat.and_two_pow_sub_one_eq_mod]
  show IntKind.i64.wrap ((BitVec.ofInt 64 n &&& BitVec.ofInt 64 m).toNat : Nat) = n % (2 ^ k : Nat)
  have hlt : (n % ((2 ^ 64 : Nat) : Int)).toNat % 2 ^ k < 2 ^ 63 := Nat.lt_trans (Nat.mod_lt _ (Nat.two_pow_pos k)) (Nat.pow_lt_pow_right (by omega) hk)
  rw [key, IntKind.wrap_i64]
  have hd : (2 ^ 64 : Nat) = 2 ^ k * 2 ^ (64 - k) := by rw [← Nat.pow_add]; congr 1; omega
  have h1 : (((n % ((2 ^ 64 : Nat) : Int)).toNat % 2 ^ k : Nat) : Int) = n % (2 ^ k : Nat) := by
    rw [Int.natCast_emod, Int.toNat_of_nonneg (Int.emod_nonneg _ (by simp)), hd, Int.natCast_mul, Int.emod_emod_of_dvd _ ⟨_, rfl⟩]
  rw [h1]
  have h2 : (n % (2 ^ k : Nat)) < 9223372036854775808 := by
    have : (2 : Nat) ^ 63 = 9223372036854775808 := by decide
    rw [← h1]; omega
  have h3 : 0 ≤ n % (2 ^ k : Nat) := by rw [← h1]; omega
  omega

theorem AInv.crash {n k : Nat} {d : Dev} (h : AInv n k d) (c : Nat) : (d.crash []).Ok ∧ (d.crash []).L.length = 4 ∧ (d.crash []).W = [] ∧ (d.crash []).down = false ∧ (d.crash []).armed = false ∧ (d.crash []).left = 0 ∧ (d.crash []).calls = d.calls := by
  have hl : (d.crash []).L.length = 4 := by unfold Dev.crash; rw [lay_length]; exact h.len
  exact ⟨⟨fun x hx => absurd hx List.not_mem_nil, by omega⟩, hl, rfl, rfl, rfl, rfl, rfl⟩

set_option maxHeartbeats 3200000 in
theorem deviceArms_walk (a0 : Int) (w0 : (Lit.int .i64 a0).wf = true) (a1 : Int) (w1 : (Lit.int .i64 a1).wf = true) (w : World) :
    Calls Try.prog 5 #[.int .i64 a0, .int .i64 a1] w fun e w' => e = .returned (.bool true) ∧ Below w.heap.size w w' := by
  have HAW := hide (fun w => awake_any w)
  have HNEW := hide (new_ok 4 w (by omega) (by omega))
  obtain ⟨n, hn, hn16⟩ : ∃ n : Nat, bits .and .i64 a0 15 = (n : Int) ∧ n < 16 := ⟨(a0 % 16).toNat, by rw [and_mask a0 4 15 (by omega) (by decide)]; omega, by omega⟩
  obtain ⟨m, hm, hm32⟩ : ∃ m : Nat, bits .and .i64 a1 31 = (m : Int) ∧ m < 32 := ⟨(a1 % 32).toNat, by rw [and_mask a1 5 31 (by omega) (by decide)]; omega, by omega⟩
  have HARM := hide (fun b w' (h : DevAt w.heap.size w' b (Dev.new 4)) => arm_any h (n : Int))
  have HST := hide (AInv.start n)
  generalize (Dev.new 4).arm (n : Int) = DA at *
  generalize Dev.new 4 = D0 at *
  go_enter Try.func5, Try.ntmps5
  go_wp2_with fail
  refine (unhide HNEW).mono ?_
  rintro e wa ⟨b, rfl, hd1, hb1⟩
  have HD1 := hide hd1
  have HB1 := hide hb1
  clear hd1 hb1 HNEW
  go_wp2_with fail
  refine (unhide HAW wa).mono ?_
  rintro e wb ⟨rfl, hb2⟩
  have HD2 := hide ((unhide HD1).later hb2).1
  have HB2 := hide ((unhide HB1).trans (hb2.mono (unhide HB1).size))
  clear hb2 HD1 HB1 HAW
  go_wp2_with fail
  refine (unhide HARM b wb (unhide HD2)).mono ?_
  rintro e wc ⟨rfl, hd3, hs3⟩
  have HD3 := hide hd3
  have HB3 := hide ((unhide HB2).trans (hs3.below (unhide HD2) (unhide HB2).size))
  clear hd3 hs3 HD2 HB2 HARM
  go_wp2_with fail
  go_loopw [31] (fun i wr => ∃ (k : Nat) (d : Dev), k ≤ m ∧ i = .int .i64 k ∧ DevAt w.heap.size wr b d ∧ AInv n k d ∧ Below w.heap.size w wr) (fun i _ => m - (intOf i).toNat)
  case atStart =>
    exact ⟨0, DA, Nat.zero_le _, rfl, unhide HD3, unhide HST, unhide HB3⟩
  case round =>
    obtain ⟨k, d, hk, rfl, hd, hinv, hb⟩ := hrel
    clear HD3 HB3 HST
    by_cases hlt : k < m
    · obtain ⟨j, hj, hj4⟩ : ∃ j : Nat, bits .and .i64 (k : Int) 3 = (j : Int) ∧ j < 4 := ⟨k % 4, by rw [and_mask (k : Int) 2 3 (by omega) (by decide)]; omega, by omega⟩
      obtain ⟨hw1, hw2⟩ := hinv.write (j : Int) (by omega) (by omega)
      have hsum := hinv.sum
      have hfew := hinv.few
      have HW := hide (write_any hd (j : Int) [120] (by omega) (by omega) (by omega) hb.size)
      rw [hw2] at HW
      generalize d.write (j : Int) [120] = d1 at *
      have hsum1 := hw1.sum
      have hfew1 := hw1.few
      obtain ⟨hf1, hf2⟩ := hw1.flush
      have HF := hide (fun w' (h : DevAt w.heap.size w' b d1) => flush_any h hw1.ok (by omega) (by omega) (by omega) (by rw [hw1.len]; omega))
      rw [hf2] at HF
      have HDN1 := hide (fun w' (h : DevAt w.heap.size w' b d1) => down_any h)
      have HCA1 := hide (fun w' (h : DevAt w.heap.size w' b d1) => calls_any h)
      generalize d1.flush = d2 at *
      have hsum2 := hf1.sum
      have HDN2 := hide (fun w' (h : DevAt w.heap.size w' b d2) => down_any h)
      have HCA2 := hide (fun w' (h : DevAt w.heap.size w' b d2) => calls_any h)
      have HI1 := hide hw1
      have HI2 := hide hf1
      have HD := hide hd
      have HB := hide hb
      have hle1 : (d1.calls : Int) ≤ (n : Int) := by omega
      have hle2 : (d2.calls : Int) ≤ (n : Int) := by omega
      clear hw1 hw2 hf1 hf2 hd hb hsum hfew hsum1 hfew1 hsum2 hinv
      generalize d1.down = n1 at *
      generalize d2.down = n2 at *
      generalize (d1.calls : Int) = c1 at *
      generalize (d2.calls : Int) = c2 at *
      go_wp2_with fail
      refine (unhide HW).mono ?_
      rintro e wd ⟨rfl, hd4, hs4⟩
      have HD4 := hide hd4
      have HB4 := hide ((unhide HB).trans (hs4.below (unhide HD) (unhide HB).size))
      clear hd4 hs4 HD HB HW
      go_wp2_with fail
      · refine (unhide HF wd (unhide HD4)).mono ?_
        rintro e we ⟨rfl, hd5, hs5⟩
        have HD5 := hide hd5
        have HB5 := hide ((unhide HB4).trans (hs5.below (unhide HD4) (unhide HB4).size))
        clear hd5 hs5 HD4 HB4 HF HDN1 HCA1
        cases n2
        all_goals
          go_wp2_with fail
          refine (unhide HDN2 we (unhide HD5)).mono ?_
          rintro e wf ⟨rfl, rfl⟩
          go_wp2_with fail
          refine (unhide HCA2 wf (unhide HD5)).mono ?_
          rintro e wg ⟨rfl, rfl⟩
          go_wp2_with fail
          go_roundw
          case rel => exact ⟨k + 1, d2, by omega, by go_num, unhide HD5, unhide HI2, unhide HB5⟩
          case measure => simp [intOf]; omega
      · refine (unhide HF wd (unhide HD4)).mono ?_
        rintro e we ⟨rfl, hd5, hs5⟩
        have HD5 := hide hd5
        have HB5 := hide ((unhide HB4).trans (hs5.below (unhide HD4) (unhide HB4).size))
        clear hd5 hs5 HD4 HB4 HF HDN1 HCA1
        cases n2
        all_goals
          go_wp2_with fail
          refine (unhide HDN2 we (unhide HD5)).mono ?_
          rintro e wf ⟨rfl, rfl⟩
          go_wp2_with fail
          refine (unhide HCA2 wf (unhide HD5)).mono ?_
          rintro e wg ⟨rfl, rfl⟩
          go_wp2_with fail
          go_roundw
          case rel => exact ⟨k + 1, d2, by omega, by go_num, unhide HD5, unhide HI2, unhide HB5⟩
          case measure => simp [intOf]; omega
      · refine (unhide HDN1 wd (unhide HD4)).mono ?_
        rintro e we ⟨rfl, rfl⟩
        go_wp2_with fail
        refine (unhide HCA1 we (unhide HD4)).mono ?_
        rintro e wf ⟨rfl, rfl⟩
        go_wp2_with fail
        go_roundw
        case rel => exact ⟨k + 1, d1, by omega, by go_num, unhide HD4, unhide HI1, unhide HB4⟩
        case measure => simp [intOf]; omega
      · refine (unhide HDN1 wd (unhide HD4)).mono ?_
        rintro e we ⟨rfl, rfl⟩
        go_wp2_with fail
        refine (unhide HCA1 we (unhide HD4)).mono ?_
        rintro e wf ⟨rfl, rfl⟩
        go_wp2_with fail
        go_roundw
        case rel => exact ⟨k + 1, d1, by omega, by go_num, unhide HD4, unhide HI1, unhide HB4⟩
        case measure => simp [intOf]; omega
    · have : k = m := by omega
      subst this
      obtain ⟨hok, hl4, hW, hdn, har, hle, hca⟩ := hinv.crash 0
      have hsum := hinv.sum
      have hfew := hinv.few
      have hE : d.readE 0 = if d.down then 16 else 0 := by
        unfold Dev.readE
        rw [if_neg (by unfold Dev.no; rw [hinv.len]; omega)]
      have HDN := hide (fun w' (h : DevAt w.heap.size w' b d) => down_any h)
      have HRD := hide (fun w' (h : DevAt w.heap.size w' b d) => read_any h 0 (by omega))
      rw [hE] at HRD
      have HCR := hide (fun w' (h : DevAt w.heap.size w' b d) => crash_any h hinv.ok (.slice none 0 0) [] ⟨none, 0, rfl, fun j hj => absurd hj (by simp)⟩ (by omega) (by rw [hinv.len]; omega) (by simp))
      have hcal : (d.crash []).calls < 16 := by rw [hca]; omega
      generalize d.crash [] = d3 at *
      have ho3 : ¬d3.out := by unfold Dev.out; rw [hdn, har]; simp
      have hwE : d3.writeE 0 [121] = 0 := by
        unfold Dev.writeE
        rw [if_neg (by unfold Dev.no; rw [hl4]; simp), if_neg ho3]
      have hw4 : d3.write 0 [121] = { d3.begin with W := d3.W ++ [(0, whole [121])] } := by
        unfold Dev.write
        rw [if_neg (by unfold Dev.no; rw [hl4]; simp), if_neg ho3]
        rfl
      have hbeg : d3.begin = { d3 with calls := d3.calls + 1 } := by unfold Dev.begin; rw [if_neg ho3, har]; rfl
      have HDN3 := hide (fun w' (h : DevAt w.heap.size w' b d3) => down_any h)
      rw [hdn] at HDN3
      have HW3 := hide (fun w' (h : DevAt w.heap.size w' b d3) (hB : w.heap.size ≤ w'.heap.size) => write_any h 0 [121] (by rw [hle]; omega) (by omega) (by rw [hW]; simp) hB)
      rw [hwE] at HW3
      have h4 : (d3.write 0 [121]).Ok ∧ (d3.write 0 [121]).left = 0 ∧ (d3.write 0 [121]).calls < 17 ∧ (d3.write 0 [121]).W.length = 1 ∧ (d3.write 0 [121]).L.length = 4 ∧ ¬(d3.write 0 [121]).out := by
        rw [hw4, hbeg]
        refine ⟨⟨fun x hx => ?_, by simp [hl4]⟩, hle, by simp; omega, by simp [hW], hl4, ?_⟩
        · simp [hW] at hx; subst hx; simp [hl4]
        · unfold Dev.out; simp [hdn, har]
      obtain ⟨k1, k2, k3, k4, k5, k6⟩ := h4
      generalize d3.write 0 [121] = d4 at *
      have HF4 := hide (fun w' (h : DevAt w.heap.size w' b d4) => flush_any h k1 (by omega) (by omega) (by omega) (by omega))
      rw [show d4.flushE = 0 by unfold Dev.flushE; rw [if_neg k6]] at HF4
      have HD := hide hd
      have HB := hide hb
      clear hok hl4 hW hdn har hle hca hsum hfew hE hcal ho3 hwE hw4 hbeg k1 k2 k3 k4 k5 k6 hd hb hinv
      generalize d.down = dn at *
      go_wp2_with fail
      refine (unhide HDN wr (unhide HD)).mono ?_
      rintro e wd ⟨rfl, rfl⟩
      clear HDN
      cases dn
      all_goals
        go_wp2_with fail
        refine (unhide HRD wd (unhide HD)).mono ?_
        rintro e we ⟨rfl, hb5⟩
        have HD5 := hide ((unhide HD).later hb5).1
        have HB5 := hide ((unhide HB).trans (hb5.mono (unhide HB).size))
        clear hb5 HD HB HRD
        go_wp2_with fail
        refine (unhide HCR we (unhide HD5)).mono ?_
        rintro e wf ⟨rfl, hd6, hs6⟩
        have HD6 := hide hd6
        have HB6 := hide ((unhide HB5).trans (hs6.below (unhide HD5) (unhide HB5).size))
        clear hd6 hs6 HD5 HB5 HCR
        go_wp2_with fail
        refine (unhide HDN3 wf (unhide HD6)).mono ?_
        rintro e wg ⟨rfl, rfl⟩
        go_wp2_with fail
        refine (unhide HW3 wg (unhide HD6) (unhide HB6).size).mono ?_
        rintro e wh ⟨rfl, hd7, hs7⟩
        have HD7 := hide hd7
        have HB7 := hide ((unhide HB6).trans (hs7.below (unhide HD6) (unhide HB6).size))
        clear hd7 hs7 HD6 HB6 HW3
        go_wp2_with fail
        refine (unhide HF4 wh (unhide HD7)).mono ?_
        rintro e wi ⟨rfl, hd8, hs8⟩
        have HB8 := hide ((unhide HB7).trans (hs8.below (unhide HD7) (unhide HB7).size))
        clear hd8 hs8 HD7 HB7 HF4
        go_wp2_with fail
        go_ret
        exact ⟨rfl, unhide HB8⟩
end Go.Proofs.Ytbggjkokfbcbcaa
