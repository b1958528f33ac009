/- Texts that this proof needs, one behind the other: TRoom, TLaw, TOf. -/
import Derived.Test.YtcialbhmmbcgjaaDoorBundleT7
import Derived.Test.YtcialbhmmbcgjaaDoorMGrow
import Derived.Test.YtcialbhmmbcgjaaDoorBundleT6
import Derived.Test.YtcialbhmmbcgjaaDoorMTidy
import Derived.Test.YtcialbhmmbcgjaaDoorVTidy
import Derived.Test.YtcialbhmmbcgjaaDoorMRefs2
/- The contract of adt's Room. -/
namespace Go.Proofs.YtcialbhmmbcgjaaDoor
open Go.RowKit
set_option linter.unusedVariables false
set_option maxRecDepth 100000

def full (s : VS) (c : MC) (r : MR) (rows money : Int) : Bool := (decide (mgrowth c.op c.n r.code = 1) && decide (8 < (s.rows.length : Int) + rows + 1)) || (decide (c.op = 5) && decide (1125899906842624 < s.n + money + c.n))
theorem grow_five (n code : Int) : mgrowth 5 n code ≠ 1 := by unfold mgrowth; split <;> simp
set_option maxHeartbeats 6400000 in
theorem aroom_any {w : World} {v : Value} {s : VS} {c : MC} (h : StAt w v s) (hl : s.rows.length ≤ 8) (r : MR) (rows money : Int) (hr : 0 ≤ rows ∧ rows ≤ 7) (hm : 0 ≤ money ∧ money < 562949953421312) (hc5 : c.op = 5 → (0 ≤ s.n ∧ s.n < 1125899906842624) ∧ 1 ≤ c.n ∧ c.n ≤ 1048576) :
    Calls Tryd.prog 23 #[v, mcV c, mrV r, .int .i64 rows, .int .i64 money] w fun e w' => e = .returned (.int .i64 (if full s c r rows money = true then 7 else 0)) ∧ Below w.heap.size w w' := by
  have HGR := hide (fun (w1 : World) => mgrowth_any (w := w1) c r)
  have HG5 := hide (fun (e : c.op = 5) => (show mgrowth c.op c.n r.code ≠ 1 by rw [e]; exact grow_five _ _))
  unfold full
  generalize mgrowth c.op c.n r.code = G at *
  obtain ⟨k0, rfl, hrow⟩ := h
  obtain ⟨a, cc, rfl, hcc, hmm⟩ := hrow.shape
  obtain ⟨kd, n, rs⟩ := s
  obtain ⟨op, ca, cb, cn⟩ := c
  obtain ⟨y1, y2, y3⟩ := r
  unfold mcV mrV at *
  dsimp only at *
  clear hrow hcc hmm
  generalize rs.length = L at *
  obtain ⟨A, hA⟩ : ∃ A : Obj, A = .cells #[.int .i64 kd, .int .i64 n, .slice a L cc] 24 (0, 0) := ⟨_, rfl⟩
  obtain ⟨B, hB⟩ : ∃ B : Obj, B = .cells #[.int .i64 op, .string (S ca), .string (S cb), .int .i64 cn] 27 (0, 0) := ⟨_, rfl⟩
  obtain ⟨C, hC⟩ : ∃ C : Obj, C = .cells #[.int .i64 y1, .string (S y2), .int .i64 y3] 44 (0, 0) := ⟨_, rfl⟩
  obtain ⟨c0, c1, c2, k0, k1, k2, k3, r0, r1, r2⟩ := B3.scr (w := w) hA hB hC
  have hst := B3.start w A B C
  obtain ⟨z, hz⟩ : ∃ z : Int, 7 - (L : Int) = z := ⟨_, rfl⟩
  have hwz : IntKind.i64.wrap (7 - (L : Int)) = z := by rw [IntKind.wrap_i64]; omega
  by_cases hG : G = 1
  · have e1 : (G == 1) = true := by rw [hG]; rfl
    have h5 : op ≠ 5 := fun e => unhide HG5 e hG
    have e5 : (op == 5) = false := by rw [beq_eq_false_iff_ne]; exact h5
    by_cases hf : 8 < (L : Int) + rows + 1
    · rw [decide_eq_true hG, decide_eq_true hf, Bool.true_and, Bool.true_or, if_pos rfl]
      have hgt : z < rows := by omega
      clear hf hG HG5 hz hc5 hr hm hl h5
      go_enter Tryd.func23, Tryd.ntmps23
      go_wp2_with fail
      rw [← hA, ← hB, ← hC]
      clear hA hB hC
      refine (unhide HGR _).mono ?_
      rintro e w1 ⟨rfl, hb⟩
      have hx1 := hst.below hb
      have HL := hide hx1.low
      clear hb hst HGR
      go_wp2_with fail
      go_ret
      exact ⟨rfl, unhide HL⟩
    · rw [decide_eq_true hG, decide_eq_false hf, decide_eq_false h5, Bool.true_and, Bool.false_and, Bool.or_false, if_neg (by simp)]
      have hgt : ¬ z < rows := by omega
      clear hf hG HG5 hz hc5 hr hm hl h5
      go_enter Tryd.func23, Tryd.ntmps23
      go_wp2_with fail
      rw [← hA, ← hB, ← hC]
      clear hA hB hC
      refine (unhide HGR _).mono ?_
      rintro e w1 ⟨rfl, hb⟩
      have hx1 := hst.below hb
      have HL := hide hx1.low
      clear hb hst HGR
      go_wp2_with fail
      go_ret
      exact ⟨rfl, unhide HL⟩
  · have e1 : (G == 1) = false := by rw [beq_eq_false_iff_ne]; exact hG
    rw [decide_eq_false hG, Bool.false_and, Bool.false_or]
    by_cases h5 : op = 5
    · have e5 : (op == 5) = true := by rw [h5]; rfl
      obtain ⟨⟨hn0, hn1⟩, hc0, hc1⟩ := hc5 h5
      obtain ⟨p, hp⟩ : ∃ p : Int, 1125899906842624 - money = p := ⟨_, rfl⟩
      obtain ⟨q, hq⟩ : ∃ q : Int, p - cn = q := ⟨_, rfl⟩
      have hwp : IntKind.i64.wrap (1125899906842624 - money) = p := by rw [IntKind.wrap_i64]; omega
      have hwq : IntKind.i64.wrap (p - cn) = q := by rw [IntKind.wrap_i64]; omega
      rw [decide_eq_true h5, Bool.true_and]
      by_cases hf : 1125899906842624 < n + money + cn
      · rw [decide_eq_true hf, if_pos rfl]
        have hgt : q < n := by omega
        clear hf hG HG5 hz hr hm hl h5 hc5 hn0 hn1 hc0 hc1 hp hq
        go_enter Tryd.func23, Tryd.ntmps23
        go_wp2_with fail
        rw [← hA, ← hB, ← hC]
        clear hA hB hC
        refine (unhide HGR _).mono ?_
        rintro e w1 ⟨rfl, hb⟩
        have hx1 := hst.below hb
        have HL := hide hx1.low
        clear hb hst HGR
        go_wp2_with fail
        go_ret
        exact ⟨rfl, unhide HL⟩
      · rw [decide_eq_false hf, if_neg (by simp)]
        have hgt : ¬ q < n := by omega
        clear hf hG HG5 hz hr hm hl h5 hc5 hn0 hn1 hc0 hc1 hp hq
        go_enter Tryd.func23, Tryd.ntmps23
        go_wp2_with fail
        rw [← hA, ← hB, ← hC]
        clear hA hB hC
        refine (unhide HGR _).mono ?_
        rintro e w1 ⟨rfl, hb⟩
        have hx1 := hst.below hb
        have HL := hide hx1.low
        clear hb hst HGR
        go_wp2_with fail
        go_ret
        exact ⟨rfl, unhide HL⟩
    · have e5 : (op == 5) = false := by rw [beq_eq_false_iff_ne]; exact h5
      rw [decide_eq_false h5, Bool.false_and, if_neg (by simp)]
      clear hG HG5 hz hr hm hl h5 hc5
      go_enter Tryd.func23, Tryd.ntmps23
      go_wp2_with fail
      rw [← hA, ← hB, ← hC]
      clear hA hB hC
      refine (unhide HGR _).mono ?_
      rintro e w1 ⟨rfl, hb⟩
      have hx1 := hst.below hb
      have HL := hide hx1.low
      clear hb hst HGR
      go_wp2_with fail
      go_ret
      exact ⟨rfl, unhide HL⟩
end Go.Proofs.YtcialbhmmbcgjaaDoor
/- The law's own: awake, State, Of. -/
namespace Go.Proofs.YtcialbhmmbcgjaaDoor
open Go.RowKit
set_option linter.unusedVariables false
set_option maxRecDepth 100000

theorem vs_eq {s t : VS} (h1 : s.kind = t.kind) (h2 : s.n = t.n) (h3 : s.rows = t.rows) : s = t := by
  cases s
  cases t
  simp_all
def semi1 : VS := ⟨7, 0, [([98], [])]⟩
def semi2 : VS := ⟨7, 0, [([97], []), ([98], [])]⟩
def semi3 : VS := ⟨7, 0, [([97], []), ([98], []), ([98], [])]⟩
theorem semi1_is : VS.with ⟨7, 0, []⟩ ([98], []) = semi1 := vs_eq rfl rfl (by decide +kernel)
theorem semi2_is : semi1.with ([97], []) = semi2 := vs_eq rfl rfl (by decide +kernel)
theorem semi3_is : semi2.with ([98], []) = semi3 := vs_eq rfl rfl (by decide +kernel)
theorem semi_answers : answers semi3 ⟨17, [], [], 0⟩ = [⟨1, [97], 0⟩, ⟨1, [98], 0⟩] := by decide +kernel
theorem semi_legal : legal semi3 ⟨16, [], [], 0⟩ ⟨1, [], 0⟩ = true := by decide +kernel

set_option maxHeartbeats 6400000 in
theorem tawake_any {w : World} (hw : MD w) :
    Calls Tryd.prog 10 #[] w fun e w' => e = .returned (.bool true) ∧ Below w.heap.size w w' := by
  have HNE := hide (fun (w1 : World) => vnew_any (w := w1) 7)
  have HW1 : Hid (∀ w1 : World, Calls Tryd.prog 32 #[.agg #[.int .i64 7, .int .i64 0, .slice none 0 0], .agg #[.string ⟨#[98]⟩, .string ⟨#[]⟩]] w1 fun e w' => ∃ v', e = .returned v' ∧ StOwn w1.heap.size 70 w' v' semi1 ∧ Below w1.heap.size w1 w') := fun w1 => by
    have := with_any (s := ⟨7, 0, []⟩) ⟨_, rfl, Row2.nil w1⟩ (by simp) ([98], [])
    rw [semi1_is] at this
    exact this
  have HW2 : Hid (∀ (w1 : World) (v : Value) (h : StAt w1 v semi1), Calls Tryd.prog 32 #[v, .agg #[.string ⟨#[97]⟩, .string ⟨#[]⟩]] w1 fun e w' => ∃ v', e = .returned v' ∧ StOwn w1.heap.size 70 w' v' semi2 ∧ Below w1.heap.size w1 w') := fun w1 v h => by
    have := with_any h (by simp [semi1]) ([97], [])
    rw [semi2_is] at this
    exact this
  have HW3 : Hid (∀ (w1 : World) (v : Value) (h : StAt w1 v semi2), Calls Tryd.prog 32 #[v, .agg #[.string ⟨#[98]⟩, .string ⟨#[]⟩]] w1 fun e w' => ∃ v', e = .returned v' ∧ StOwn w1.heap.size 70 w' v' semi3 ∧ Below w1.heap.size w1 w') := fun w1 v h => by
    have := with_any h (by simp [semi2]) ([98], [])
    rw [semi3_is] at this
    exact this
  have HAN : Hid (∀ (w1 : World) (v : Value) (h : StAt w1 v semi3) (hb : Below w.heap.size w w1), Calls Tryd.prog 13 #[v, .agg #[.int .i64 17, .string ⟨#[]⟩, .string ⟨#[]⟩, .int .i64 0]] w1 fun e w' => ∃ v', e = .returned v' ∧ Row3 w' v' [⟨1, [97], 0⟩, ⟨1, [98], 0⟩] ∧ Below w1.heap.size w1 w') := fun w1 v h hb => by
    have := aanswers_any (c := ⟨17, [], [], 0⟩) h (by simp [semi3]) (by decide) (hw.later hb)
    rw [semi_answers] at this
    exact this
  have HLE : Hid (∀ (w1 : World) (v : Value) (h : StAt w1 v semi3) (hb : Below w.heap.size w w1), Calls Tryd.prog 15 #[v, .agg #[.int .i64 16, .string ⟨#[]⟩, .string ⟨#[]⟩, .int .i64 0], .agg #[.int .i64 1, .string ⟨#[]⟩, .int .i64 0]] w1 fun e w' => e = .returned (.bool true) ∧ Below w1.heap.size w1 w') := fun w1 v h hb => by
    have := alegal_any (c := ⟨16, [], [], 0⟩) h (by simp [semi3]) (by decide) (hw.later hb) ⟨1, [], 0⟩
    rw [semi_legal] at this
    exact this
  clear hw
  go_enter Tryd.func10, Tryd.ntmps10
  go_wp2_with fail
  refine (unhide HNE _).mono ?_
  rintro e w1 ⟨rfl, hb1⟩
  have HB1 := hide hb1
  clear hb1
  go_wp2_with fail
  refine (unhide HW1 _).mono ?_
  rintro e w2 ⟨v2, rfl, h2, hb2⟩
  have HB2 := hide ((unhide HB1).trans (hb2.mono (unhide HB1).size))
  clear hb2
  go_wp2_with fail
  refine (unhide HW2 _ _ h2.at).mono ?_
  rintro e w3 ⟨v3, rfl, h3, hb3⟩
  have HB3 := hide ((unhide HB2).trans (hb3.mono (unhide HB2).size))
  clear hb3 h2
  go_wp2_with fail
  refine (unhide HW3 _ _ h3.at).mono ?_
  rintro e w4 ⟨v4, rfl, h4, hb4⟩
  have HB4 := hide ((unhide HB3).trans (hb4.mono (unhide HB3).size))
  clear hb4 h3
  have HST4 := hide h4.at
  obtain ⟨k4, rfl, h5⟩ := h4
  obtain ⟨a4, c4, rfl, _⟩ := ownsRow_slice h5
  clear h5 HNE HW1 HW2 HW3 HB1 HB2 HB3
  have e7 : semi3.kind = 7 := rfl
  have e0 : semi3.n = 0 := rfl
  have e3 : semi3.rows.length = 3 := rfl
  rw [e7, e0, e3] at *
  go_upto_region 2 with fail
  have HB5 := hide ((unhide HB4).alloc (unhide HB4).size (.cells #[.int .i64 7, .int .i64 0, .slice a4 3 c4] 24))
  have HST5 := hide ((unhide HST4).later (under_box (.cells #[.int .i64 7, .int .i64 0, .slice a4 3 c4] 24)))
  have hbox := heap_alloc_new w4 (.cells #[.int .i64 7, .int .i64 0, .slice a4 3 c4] 24)
  have HBX := hide hbox
  have HLT := hide (show w4.heap.size < (w4.alloc (.cells #[.int .i64 7, .int .i64 0, .slice a4 3 c4] 24)).heap.size by simp)
  clear hbox
  go_wp2_with fail
  refine (unhide HAN _ _ (unhide HST5) (unhide HB5)).mono ?_
  rintro e w6 ⟨v6, rfl, h6, hb6⟩
  have HB6 := hide ((unhide HB5).trans (hb6.mono (unhide HB5).size))
  have HST6 := hide ((unhide HST5).later hb6)
  have hbox6 := (hb6.block _ (unhide HLT)).trans (unhide HBX)
  have d0 : w6.cell? ⟨w4.heap.size, 0, none⟩ = some (.int .i64 7) := by rw [block_cell hbox6]; rfl
  have d1 : w6.cell? ⟨w4.heap.size, 1, none⟩ = some (.int .i64 0) := by rw [block_cell hbox6]; rfl
  have d2 : w6.cell? ⟨w4.heap.size, 2, none⟩ = some (.slice a4 3 c4) := by rw [block_cell hbox6]; rfl
  obtain ⟨s6, c6, rfl, hc6, _⟩ := h6.shape
  obtain ⟨b, off, rfl, hbl, f0, f1, f2⟩ := h6.at 0 (by simp)
  obtain ⟨b', off', e', _, g0, g1, g2⟩ := h6.at 1 (by simp)
  cases e'
  simp only [List.getElem_cons_zero, List.getElem_cons_succ, Nat.zero_mul, Nat.add_zero, Nat.one_mul] at f1 g1
  simp only [List.length_cons, List.length_nil] at *
  have f1' : w6.cell? ⟨b, off + 1, none⟩ = some (.string ⟨#[97]⟩) := f1
  have g1' : w6.cell? ⟨b, off + 3 + 1, none⟩ = some (.string ⟨#[98]⟩) := g1
  clear h6 hb6 hbox6 f0 f2 g0 g2 f1 g1 HB5 HST5 HBX HLT HAN HB4 HST4
  go_wp2_with fail
  refine (unhide HLE _ _ (unhide HST6) (unhide HB6)).mono ?_
  rintro e w7 ⟨rfl, hb7⟩
  have HB7 := hide ((unhide HB6).trans (hb7.mono (unhide HB6).size))
  clear hb7
  go_wp2_with fail
  go_ret
  exact ⟨rfl, unhide HB7⟩
end Go.Proofs.YtcialbhmmbcgjaaDoor
/- The law's State and Of. -/
namespace Go.Proofs.YtcialbhmmbcgjaaDoor
open Go.RowKit
set_option linter.unusedVariables false
set_option maxRecDepth 100000

theorem mask50 (n : Int) : bits .and .i64 n 1125899906842623 = n % 1125899906842624 := by
  have h := pl_and_mask n 50 1125899906842623 (by decide) (by decide)
  rw [h]
  rfl
theorem may_masked {x : VS} (h : x.may) (hk : x.kind = 3) : VS.may ⟨x.kind, x.n % 1125899906842624, x.rows⟩ := by
  have hr := h.fit.bare (Or.inr hk)
  rw [hk, hr]
  exact may_three _ (by omega) (by omega)

set_option maxHeartbeats 6400000 in
theorem tstate_any {w : World} {v : Value} {s : VS} (h : StAt w v s) (hn : -9223372036854775808 ≤ s.n ∧ s.n ≤ 9223372036854775807) (hsz : ∀ i (h : i < s.rows.length), (s.rows[i]'h).1.length ≤ maxLen ∧ (s.rows[i]'h).2.length ≤ maxLen) :
    Calls Tryd.prog 7 #[v] w fun e w' => ∃ v', e = .returned v' ∧ ∃ x : VS, x.may ∧ (x.kind = 3 → 0 ≤ x.n ∧ x.n < 1125899906842624) ∧ StOwn w.heap.size 71 w' v' x ∧ Below w.heap.size w w' := by
  have HT := hide (fun (w1 : World) (hb : Below w.heap.size w w1) => tidy_any (h.later hb) hn hsz)
  obtain ⟨k0, rfl, hr⟩ := h
  obtain ⟨a, c, rfl, hc, hm⟩ := hr.shape
  have HST := hide (B2.start w (.cells #[.int .i64 s.kind, .int .i64 s.n, .slice a s.rows.length c] 24) (.cells #[.int .i64 0, .int .i64 0, .slice none 0 0] 30))
  clear hr
  go_enter Tryd.func7, Tryd.ntmps7
  go_wp2_with fail
  refine (unhide HT _ (unhide HST).low).mono ?_
  rintro e w1 ⟨v1, rfl, x, hmay, ⟨k1, rfl, ho⟩, hb⟩
  obtain ⟨ka, kc, rfl, _⟩ := ownsRow_slice ho
  have hx1 := (unhide HST).on hb
  have hs1 := (unhide HST).blocks.2.2
  by_cases h3 : x.kind = 3
  · have e3 : (x.kind == 3) = true := by rw [h3]; rfl
    have hq := mask50 x.n
    have HMAY := hide (may_masked hmay h3)
    obtain ⟨q, hqq⟩ : ∃ q, x.n % 1125899906842624 = q := ⟨_, rfl⟩
    have HQ : Hid (0 ≤ q ∧ q < 1125899906842624) := by show _ ∧ _; rw [← hqq]; omega
    rw [hqq] at hq HMAY
    obtain ⟨z0, z1, z2, zl, zo, y0, y1, y2, f1⟩ := give3 (hx1.on (under_box (.cells #[.int .i64 x.kind, .int .i64 q, .slice ka x.rows.length kc] 30))).low (by omega) (hx1.on (under_box (.cells #[.int .i64 x.kind, .int .i64 q, .slice ka x.rows.length kc] 30))).blocks.2.1 (.int .i64 x.kind) (.int .i64 q) (.slice ka x.rows.length kc)
    have ZO := hide (zo _ _ _ _ _ _ (by omega) (ho.alloc _))
    unfold put3 at z0 z1 z2 zl ZO
    have ZL := hide zl
    clear hx1 hb ho zo zl HT HST hs1 hqq h3 hmay
    go_wp2_with fail
    exact bodyPost_ret (v := .agg #[.int .i64 x.kind, .int .i64 q, .slice ka x.rows.length kc]) (by simp [results, Tryd.results7, go_sem, z0, z1, z2]) rfl ⟨_, rfl, ⟨x.kind, q, x.rows⟩, unhide HMAY, fun _ => unhide HQ, ⟨_, rfl, unhide ZO⟩, unhide ZL⟩
  · have e3 : (x.kind == 3) = false := by rw [beq_eq_false_iff_ne]; exact h3
    obtain ⟨z0, z1, z2, zl, zo, y0, y1, y2, f1⟩ := give3 (hx1.on (under_box (.cells #[.int .i64 x.kind, .int .i64 x.n, .slice ka x.rows.length kc] 30))).low (by omega) (hx1.on (under_box (.cells #[.int .i64 x.kind, .int .i64 x.n, .slice ka x.rows.length kc] 30))).blocks.2.1 (.int .i64 x.kind) (.int .i64 x.n) (.slice ka x.rows.length kc)
    have ZO := hide (zo _ _ _ _ _ _ (by omega) (ho.alloc _))
    unfold put3 at z0 z1 z2 zl ZO
    have ZL := hide zl
    have H3 := hide h3
    clear hx1 hb ho zo zl HT HST hs1 h3
    go_wp2_with fail
    exact bodyPost_ret (v := .agg #[.int .i64 x.kind, .int .i64 x.n, .slice ka x.rows.length kc]) (by simp [results, Tryd.results7, go_sem, z0, z1, z2]) rfl ⟨_, rfl, x, hmay, fun e => absurd e (unhide H3), ⟨_, rfl, unhide ZO⟩, unhide ZL⟩
end Go.Proofs.YtcialbhmmbcgjaaDoor
