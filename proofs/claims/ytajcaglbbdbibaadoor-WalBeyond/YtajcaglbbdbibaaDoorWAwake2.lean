/- The contract of the law's awake. -/
import Derived.Test.YtajcaglbbdbibaaDoorWAwake
import Derived.Test.YtajcaglbbdbibaaDoorCKey
namespace Go.Proofs.YtajcaglbbdbibaaDoor
open Go.RowKit
set_option linter.unusedVariables false
set_option maxRecDepth 100000

theorem w_make100 (w : World) : ∃ w', (Instr.makeSlice 58 (.int .i64 100) (.int .i64 100)).run Tryd.prog w = .ok (.slice (some ⟨w.heap.size, 0, none⟩) 100 100) w' ∧ (convert 58 9 (.slice (some ⟨w.heap.size, 0, none⟩) 100 100)).run Tryd.prog w' = .ok (.string (S Z100)) w' ∧ Below w.heap.size w w' := by
  obtain ⟨i0, hi, hz0, hz1, hz2⟩ := info_parts info_byte
  obtain ⟨w', hmk, hown, hgr⟩ := run_make_full (P := Tryd.prog) w w.heap.size 58 5 i0 (.int .u8 0) 1 under_bytes hi hz0 hz1 .i64 .i64 100 (by rw [hz2]; omega) (by unfold maxLen; omega) (Nat.le_refl _)
  refine ⟨w', hmk, ?_, (Below.refl _ _).grown hgr (Nat.le_refl _) (fun k e => by cases e)⟩
  refine run_convert_bytes_back w' 58 9 5 ⟨w.heap.size, 0, none⟩ 100 Z100 under_bytes under_byte under_string ?_
  have e : (madeCells (Value.int .u8 0).cells (100 * 1)).toList = List.replicate 100 (.int .u8 0) := by
    rw [Nat.mul_one]; exact toList_madeCells_one _ 100
  rw [e] at hown
  intro j hj
  have hj' : j < 100 := by rw [← Z100_length]; exact hj
  rw [plain_add, Nat.zero_add]
  have := ownsRow_cell hown (g := w.heap.size) (c := 100) rfl j (.int .u8 0) (by rw [List.getElem?_replicate, if_pos hj'])
  rw [this, show Z100[j]'hj = 0 from List.getElem_replicate _]
  rfl

set_option maxHeartbeats 1600000 in
theorem wawake_any (w : World) :
    Calls Tryd.prog 6 #[] w fun e w' => e = .returned (.bool true) ∧ Below w.heap.size w w' := by
  have HBG := hide (begin_log 1 10 7 w (by omega) (by unfold areaE; simp [Dev.new]) (by omega) (by omega))
  have HC45 := hide (fun wy => wcost_any 45 wy (by omega))
  rw [show Codec.cost 45 = 2 from rfl] at HC45
  unfold AV at HBG
  go_enter Tryd.func6, Tryd.ntmps6
  go_wp2_with fail
  refine (unhide HBG).mono ?_
  rintro e w1 ⟨b, lb, rfl, hl1, hb1⟩
  obtain ⟨w2, hmk, hcv, hb2⟩ := w_make100 w1
  obtain ⟨hl2, hs2⟩ := hl1.later hb2
  have hB2 : w.heap.size ≤ w2.heap.size := Nat.le_trans hb1.size hb2.size
  have HAP := hide (append_put (head := 7) (x := 7) (fr := 1) (ln := 10) hl2 Z100 hB2 (by rw [Z100_length]; omega) (by omega) (by omega) (by rw [Z100_length]; decide) (by omega) (by omega) (by rw [Z100_length]; decide) (by simp [Dev.new]) (by simp [Dev.new]) (by simp [Dev.new]))
  rw [awake_dev, show Codec.cost Z100.length = 3 by rw [Z100_length]; rfl] at HAP
  have HB2 := hide (hb1.trans (hb2.mono hb1.size))
  have HL2 := hide hl2
  have HBS := hide hB2
  clear HBG hl1 hb1 hb2 hl2 hs2 hB2
  go_wp2_with fail
  refine (unhide HAP).mono ?_
  rintro e w3 ⟨hok, _, hst⟩
  obtain ⟨rfl, hl3⟩ := hok (by trivial)
  have hb3 := hst.below (unhide HL2) (unhide HBS)
  have hb3 : Below w.heap.size w w3 := (unhide HB2).trans hb3
  obtain ⟨w4, hw4⟩ : ∃ w4, w3.alloc (.cells #[.int .i64 7, .int .i64 9, .string (S Z100)] 37) = w4 := ⟨_, rfl⟩
  have hb34 : Below w3.heap.size w3 w4 := by rw [← hw4]; exact (Below.refl _ _).alloc (Nat.le_refl _) _
  obtain ⟨hl4, _⟩ := hl3.later hb34
  have HRD := hide (sread_ok hl4.dev 8 (by simp [D7, wlist_length]) (by rw [awake_read.1, sec_len _ _ _ (by omega)]; omega) awake_read.2)
  rw [awake_parse] at HRD
  obtain ⟨RB, hRB⟩ : ∃ RB, w3.heap.size = RB := ⟨_, rfl⟩
  have hrb4 : w4.heap[RB]? = some (.cells #[.int .i64 7, .int .i64 9, .string (S Z100)] 37 (0, 0)) := by rw [← hw4, ← hRB]; exact heap_alloc_new w3 _
  have HB4 := hide (hb3.trans (hb34.mono hb3.size))
  have HL4 := hide hl4
  have HRB4 := hide hrb4
  unfold SV at HRD
  have hmk0 : (Codec.sec Z100 7 0).mark = 1 := by
    show Codec.mk Z100 0 = 1
    unfold Codec.mk
    rw [Z100_length]
    rfl
  have hst0 : (Codec.sec Z100 7 0).stamp = 7 := rfl
  rw [hmk0, hst0] at HRD
  generalize (Codec.sec Z100 7 0).data = dt at *
  clear HAP hmk hcv hok hst hl3 hb3 hb34 hl4 hrb4 hmk0 hst0 HB2
  go_wp2_with fail
  refine (unhide HRD).mono ?_
  rintro e w5 ⟨rfl, hb5⟩
  obtain ⟨w6, hw6⟩ : ∃ w6, w5.alloc (.cells #[.int .i64 7, .int .u8 1, .string (S dt)] 60) = w6 := ⟨_, rfl⟩
  have hb46 : Below w4.heap.size w4 w6 := by rw [← hw6]; exact hb5.alloc hb5.size _
  obtain ⟨SB, hSB⟩ : ∃ SB, w5.heap.size = SB := ⟨_, rfl⟩
  have hsb6 : w6.heap[SB]? = some (.cells #[.int .i64 7, .int .u8 1, .string (S dt)] 60 (0, 0)) := by rw [← hw6, ← hSB]; exact heap_alloc_new w5 _
  have hrb6 := (hb46.block RB (block_lt (unhide HRB4))).trans (unhide HRB4)
  have hl6 := ((unhide HL4).later hb46).1
  have HNX := hide (next_any hl6.log)
  have HFR := hide (free_any hl6.log (by omega) (by omega) (by omega) (by omega) (by omega))
  have HB6 := hide ((unhide HB4).trans (hb46.mono (unhide HB4).size))
  have r0 := bcell hrb6 0
  have r1 := bcell hrb6 1
  have q0 := bcell hsb6 0
  have q1 := bcell hsb6 1
  simp only [List.getElem?_toArray, List.getElem?_cons_zero, List.getElem?_cons_succ] at r0 r1 q0 q1
  have HSB6 := hide hsb6
  clear hb5 hb46 hsb6 hrb6 hl6 HRD hw4 hRB HRB4 HL4 HB4
  go_wp2_with fail
  refine (unhide HNX).mono ?_
  rintro e w7 ⟨rfl, rfl⟩
  go_wp2_with fail
  refine (unhide HFR).mono ?_
  rintro e w8 ⟨rfl, nq, rfl⟩
  have q0' : (w7.drewN nq).cell? ⟨SB, 0, none⟩ = some (.int .i64 7) := q0
  have q1' : (w7.drewN nq).cell? ⟨SB, 1, none⟩ = some (.int .u8 1) := q1
  clear q0 q1 r0 r1
  have HB8 := hide (w_below_drewN (unhide HB6) nq)
  generalize w7.drewN nq = w8 at *
  go_wp2_with fail
  refine (unhide HC45 _).mono ?_
  rintro e w9 ⟨rfl, rfl⟩
  go_wp2_with fail
  go_ret
  exact ⟨rfl, unhide HB8⟩
end Go.Proofs.YtajcaglbbdbibaaDoor
