/- The contract of adt's Room. -/
import Derived.Test.YtcialbhmmbcgjaaDoorBundleT3
import Derived.Test.YtcialbhmmbcgjaaDoorMGrow
namespace Go.Proofs.YtcialbhmmbcgjaaDoor
open Go.RowKit
set_option linter.unusedVariables false
set_option maxRecDepth 100000

def full (s : VS) (c : MC) (r : MR) (rows money : Int) : Bool := (decide (mgrowth c.op c.n r.code = 1) && decide (8 < (s.rows.length : Int) + rows + 1)) || (decide (c.op = 5) && decide (1125899906842624 < s.n + money + c.n))
theorem grow_five (n code : Int) : mgrowth 5 n code ≠ 1 := by unfold mgrowth; split <;> simp
set_option maxHeartbeats 6400000 in
theorem aroom_any {w : World} {v : Value} {s : VS} {c : MC} (h : StAt w v s) (hl : s.rows.length ≤ 8) (r : MR) (rows money : Int) (hr : 0 ≤ rows ∧ rows ≤ 7) (hm : 0 ≤ money ∧ money < 562949953421312) (hc5 : c.op = 5 → (0 ≤ s.n ∧ s.n < 1125899906842624) ∧ 1 ≤ c.n ∧ c.n ≤ 1048576) :
    Calls Tryd.prog 23 #[v, mcV c, mrV r, .int .i64 rows, .int .i64 money] w fun e w' => e = .returned (.int .i64 (if full s c r rows money = true then 7 else 0)) ∧ Below w.heap.size w w' := by
  have HGR := hide (fun (w1 : World) => mgrowth_any (w := w1) c r)
  have HG5 := hide (fun (e : c.op = 5) => (show mgrowth c.op c.n r.code ≠ 1 by rw [e]; exact grow_five _ _))
  unfold full
  generalize mgrowth c.op c.n r.code = G at *
  obtain ⟨k0, rfl, hrow⟩ := h
  obtain ⟨a, cc, rfl, hcc, hmm⟩ := hrow.shape
  obtain ⟨kd, n, rs⟩ := s
  obtain ⟨op, ca, cb, cn⟩ := c
  obtain ⟨y1, y2, y3⟩ := r
  unfold mcV mrV at *
  dsimp only at *
  clear hrow hcc hmm
  generalize rs.length = L at *
  obtain ⟨A, hA⟩ : ∃ A : Obj, A = .cells #[.int .i64 kd, .int .i64 n, .slice a L cc] 24 (0, 0) := ⟨_, rfl⟩
  obtain ⟨B, hB⟩ : ∃ B : Obj, B = .cells #[.int .i64 op, .string (S ca), .string (S cb), .int .i64 cn] 27 (0, 0) := ⟨_, rfl⟩
  obtain ⟨C, hC⟩ : ∃ C : Obj, C = .cells #[.int .i64 y1, .string (S y2), .int .i64 y3] 44 (0, 0) := ⟨_, rfl⟩
  obtain ⟨c0, c1, c2, k0, k1, k2, k3, r0, r1, r2⟩ := B3.scr (w := w) hA hB hC
  have hst := B3.start w A B C
  obtain ⟨z, hz⟩ : ∃ z : Int, 7 - (L : Int) = z := ⟨_, rfl⟩
  have hwz : IntKind.i64.wrap (7 - (L : Int)) = z := by rw [IntKind.wrap_i64]; omega
  by_cases hG : G = 1
  · have e1 : (G == 1) = true := by rw [hG]; rfl
    have h5 : op ≠ 5 := fun e => unhide HG5 e hG
    have e5 : (op == 5) = false := by rw [beq_eq_false_iff_ne]; exact h5
    by_cases hf : 8 < (L : Int) + rows + 1
    · rw [decide_eq_true hG, decide_eq_true hf, Bool.true_and, Bool.true_or, if_pos rfl]
      have hgt : z < rows := by omega
      clear hf hG HG5 hz hc5 hr hm hl h5
      go_enter Tryd.func23, Tryd.ntmps23
      go_wp2_with fail
      rw [← hA, ← hB, ← hC]
      clear hA hB hC
      refine (unhide HGR _).mono ?_
      rintro e w1 ⟨rfl, hb⟩
      have hx1 := hst.below hb
      have HL := hide hx1.low
      clear hb hst HGR
      go_wp2_with fail
      go_ret
      exact ⟨rfl, unhide HL⟩
    · rw [decide_eq_true hG, decide_eq_false hf, decide_eq_false h5, Bool.true_and, Bool.false_and, Bool.or_false, if_neg (by simp)]
      have hgt : ¬ z < rows := by omega
      clear hf hG HG5 hz hc5 hr hm hl h5
      go_enter Tryd.func23, Tryd.ntmps23
      go_wp2_with fail
      rw [← hA, ← hB, ← hC]
      clear hA hB hC
      refine (unhide HGR _).mono ?_
      rintro e w1 ⟨rfl, hb⟩
      have hx1 := hst.below hb
      have HL := hide hx1.low
      clear hb hst HGR
      go_wp2_with fail
      go_ret
      exact ⟨rfl, unhide HL⟩
  · have e1 : (G == 1) = false := by rw [beq_eq_false_iff_ne]; exact hG
    rw [decide_eq_false hG, Bool.false_and, Bool.false_or]
    by_cases h5 : op = 5
    · have e5 : (op == 5) = true := by rw [h5]; rfl
      obtain ⟨⟨hn0, hn1⟩, hc0, hc1⟩ := hc5 h5
      obtain ⟨p, hp⟩ : ∃ p : Int, 1125899906842624 - money = p := ⟨_, rfl⟩
      obtain ⟨q, hq⟩ : ∃ q : Int, p - cn = q := ⟨_, rfl⟩
      have hwp : IntKind.i64.wrap (1125899906842624 - money) = p := by rw [IntKind.wrap_i64]; omega
      have hwq : IntKind.i64.wrap (p - cn) = q := by rw [IntKind.wrap_i64]; omega
      rw [decide_eq_true h5, Bool.true_and]
      by_cases hf : 1125899906842624 < n + money + cn
      · rw [decide_eq_true hf, if_pos rfl]
        have hgt : q < n := by omega
        clear hf hG HG5 hz hr hm hl h5 hc5 hn0 hn1 hc0 hc1 hp hq
        go_enter Tryd.func23, Tryd.ntmps23
        go_wp2_with fail
        rw [← hA, ← hB, ← hC]
        clear hA hB hC
        refine (unhide HGR _).mono ?_
        rintro e w1 ⟨rfl, hb⟩
        have hx1 := hst.below hb
        have HL := hide hx1.low
        clear hb hst HGR
        go_wp2_with fail
        go_ret
        exact ⟨rfl, unhide HL⟩
      · rw [decide_eq_false hf, if_neg (by simp)]
        have hgt : ¬ q < n := by omega
        clear hf hG HG5 hz hr hm hl h5 hc5 hn0 hn1 hc0 hc1 hp hq
        go_enter Tryd.func23, Tryd.ntmps23
        go_wp2_with fail
        rw [← hA, ← hB, ← hC]
        clear hA hB hC
        refine (unhide HGR _).mono ?_
        rintro e w1 ⟨rfl, hb⟩
        have hx1 := hst.below hb
        have HL := hide hx1.low
        clear hb hst HGR
        go_wp2_with fail
        go_ret
        exact ⟨rfl, unhide HL⟩
    · have e5 : (op == 5) = false := by rw [beq_eq_false_iff_ne]; exact h5
      rw [decide_eq_false h5, Bool.false_and, if_neg (by simp)]
      clear hG HG5 hz hr hm hl h5 hc5
      go_enter Tryd.func23, Tryd.ntmps23
      go_wp2_with fail
      rw [← hA, ← hB, ← hC]
      clear hA hB hC
      refine (unhide HGR _).mono ?_
      rintro e w1 ⟨rfl, hb⟩
      have hx1 := hst.below hb
      have HL := hide hx1.low
      clear hb hst HGR
      go_wp2_with fail
      go_ret
      exact ⟨rfl, unhide HL⟩
end Go.Proofs.YtcialbhmmbcgjaaDoor
