/- That nodes answer what the document's examples say. -/
import Derived.Test.YtochaiinofhdhaaNCheck2
namespace Go.Proofs.Ytochaiinofhdhaa
open Go.RowKit
set_option linter.unusedVariables false
set_option maxRecDepth 100000

def n5 : Nd := ⟨true, [[97], [98], [99], [100], [101]], [[], [], [], [], []], []⟩
theorem n5_fine : n5.fine := ⟨⟨by decide, by decide, by decide⟩, by decide, rfl⟩
theorem n5_key : n5.key = [100] := by decide
theorem n5_a : n5.part 0 n5.half = ⟨true, [[97], [98], [99]], [[], [], []], []⟩ := rfl
theorem n5_b : n5.part n5.half n5.len = ⟨true, [[100], [101]], [[], []], []⟩ := rfl
theorem n5_ca : Nd.check ⟨true, [[97], [98], [99]], [[], [], []], []⟩ = 0 := by decide

/- Two boxes of four cells behind each other, and one ahead of them. -/
theorem boxes3 {w1 w2 : World} {n0 n1 n2 n3 a0 a1 a2 a3 b0 b1 b2 b3 : Value} {t s u : TypeId} (hb2 : Below (w1.heap.size + 1) (w1.alloc (.cells #[n0, n1, n2, n3] t)) w2) (wx : World)
    (hx : Below (w2.heap.size + 1 + 1) ((w2.alloc (.cells #[a0, a1, a2, a3] s)).alloc (.cells #[b0, b1, b2, b3] u)) wx) :
    (wx.cell? ⟨w1.heap.size, 0, none⟩ = some n0 ∧ wx.cell? ⟨w1.heap.size, 1, none⟩ = some n1 ∧ wx.cell? ⟨w1.heap.size, 2, none⟩ = some n2 ∧ wx.cell? ⟨w1.heap.size, 3, none⟩ = some n3) ∧
    (wx.cell? ⟨w2.heap.size, 0, none⟩ = some a0 ∧ wx.cell? ⟨w2.heap.size, 1, none⟩ = some a1 ∧ wx.cell? ⟨w2.heap.size, 2, none⟩ = some a2 ∧ wx.cell? ⟨w2.heap.size, 3, none⟩ = some a3) ∧
    (wx.cell? ⟨w2.heap.size + 1, 0, none⟩ = some b0 ∧ wx.cell? ⟨w2.heap.size + 1, 1, none⟩ = some b1 ∧ wx.cell? ⟨w2.heap.size + 1, 2, none⟩ = some b2 ∧ wx.cell? ⟨w2.heap.size + 1, 3, none⟩ = some b3) ∧
    w2.heap.size + 1 + 1 ≤ wx.heap.size ∧ Below w2.heap.size w2 wx ∧ Below w1.heap.size w1 wx := by
  have hs2 := hb2.size
  rw [World.size_alloc] at hs2
  have hsx := hx.size
  rw [World.size_alloc, World.size_alloc] at hsx
  have hl2 : Below w2.heap.size w2 wx := (below_two w2 _ _).trans (hx.mono (by omega))
  refine ⟨cells4 ((hl2.block w1.heap.size (by omega)).trans ((hb2.block w1.heap.size (by omega)).trans (heap_alloc_new w1 _))), cells4 ((hx.block w2.heap.size (by omega)).trans ((Below.heap_alloc _ _ _ (by simp)).trans (heap_alloc_new w2 _))), cells4 (t := u) ((hx.block (w2.heap.size + 1) (by omega)).trans ?_), hsx, hl2, ?_⟩
  · have := heap_alloc_new (w2.alloc (.cells #[a0, a1, a2, a3] s)) (.cells #[b0, b1, b2, b3] u)
    rwa [World.size_alloc] at this
  · exact ((below_box _).trans (hb2.mono (by omega))).trans (hl2.mono (by omega))

set_option maxHeartbeats 6400000 in
theorem awake_node (w : World) :
    Calls Try.prog 10 #[] w fun e w' => e = .returned (.bool true) ∧ Below w.heap.size w w' := by
  obtain ⟨i0, hi, hz0, hz1, hz2⟩ := info_parts info_string
  obtain ⟨K5, hK5⟩ : ∃ K5 : Obj, K5 = .cells #[.string ⟨#[97]⟩, .string ⟨#[98]⟩, .string ⟨#[99]⟩, .string ⟨#[100]⟩, .string ⟨#[101]⟩] 9 (0, 0) := ⟨_, rfl⟩
  obtain ⟨w1, hmk, hown1, hgr1⟩ := run_make_full (P := Try.prog) (w.alloc K5) w.heap.size 22 9 i0 (.string ⟨#[]⟩) 1 under_strings hi hz0 hz1 .i64 .i64 5 (by rw [hz2]; omega) (by unfold maxLen; omega) (by simp)
  have e5 : ((5 : Nat) : Int) = 5 := rfl
  rw [e5, World.size_alloc] at hmk
  rw [World.size_alloc] at hown1
  have hb1 : Below (w.heap.size + 1) (w.alloc K5) w1 := by
    have := (Below.refl (w.alloc K5).heap.size (w.alloc K5)).grown hgr1 (Nat.le_refl _) (fun k e => by cases e)
    rwa [World.size_alloc] at this
  have hs1 := hb1.size
  rw [World.size_alloc] at hs1
  have hk5 : w1.heap[w.heap.size]? = some (.cells #[.string ⟨#[97]⟩, .string ⟨#[98]⟩, .string ⟨#[99]⟩, .string ⟨#[100]⟩, .string ⟨#[101]⟩] 9 (0, 0)) := by
    rw [hb1.block w.heap.size (by omega), ← hK5]
    exact heap_alloc_new w K5
  have hn5 : NdAt w1 (.agg #[.bool true, .slice (some ⟨w.heap.size, 0, none⟩) 5 5, .slice (some ⟨w.heap.size + 1, 0, none⟩) 5 5, .slice none 0 0]) n5 := by
    refine ⟨_, _, _, rfl, ?_, Row.of_own (n := 5) (e := 9) (base := w.heap.size) ?_, Row.nil _⟩
    · refine ⟨_, 5, rfl, by decide, by simp [maxLen], fun e => (by cases e), fun i u hu => ⟨w.heap.size, 0, rfl, by omega, ?_⟩⟩
      rw [Nat.zero_add, block_cell hk5]
      have hi5 : i < 5 := by
        rcases Nat.lt_or_ge i 5 with h | h
        · exact h
        · rw [List.getElem?_eq_none (by simpa [T9, n5] using h)] at hu; cases hu
      match i, hi5, hu with
      | 0, _, hu => exact hu
      | 1, _, hu => exact hu
      | 2, _, hu => exact hu
      | 3, _, hu => exact hu
      | 4, _, hu => exact hu
    · have e : (madeCells (Value.string ⟨#[]⟩).cells (5 * 1)).toList = T9 n5.vals := by rw [Nat.mul_one]; exact toList_madeCells_one _ 5
      rwa [e] at hown1
  have hlow1 : Below w.heap.size w w1 := (below_box K5).trans (hb1.mono (by omega))
  have HSP := hide (fun o => split_any (hn5.later (below_box (w := w1) o)) n5_fine (by decide))
  have HOV := hide (fun (wx : World) (hb : Below w1.heap.size w1 wx) => nover_any (hn5.later hb))
  rw [n5_key, n5_a, n5_b] at HSP
  have HLOW1 := hide hlow1
  rw [hK5] at hmk
  clear hown1 hgr1 hb1 hk5 hn5 hlow1 hz0 hz1 hz2 hi
  go_enter Try.func10, Try.ntmps10
  go_wp2_with fail
  refine (unhide HSP _).mono ?_
  rintro e w2 ⟨va, vb, rfl, hoa, hob, hb2⟩
  obtain ⟨aka, akc, aua, auc, ada, adc, rfl⟩ := hoa.shape
  obtain ⟨bka, bkc, bua, buc, bda, bdc, rfl⟩ := hob.shape
  rw [World.size_alloc] at hb2 hoa hob
  have HBX := hide (boxes3 hb2 (n0 := .bool true) (a0 := .bool true) (a1 := .slice aka 3 akc) (a2 := .slice aua 3 auc) (a3 := .slice ada 0 adc) (b0 := .bool true) (b1 := .slice bka 2 bkc) (b2 := .slice bua 2 buc) (b3 := .slice bda 0 bdc) (s := 25) (u := 25))
  have HOA := hide hoa
  have HOB := hide hob
  have HLOW2 := hide (((unhide HLOW1).alloc (unhide HLOW1).size _).trans (hb2.mono (by have := (unhide HLOW1).size; omega)))
  clear hoa hob hb2 HSP
  obtain ⟨⟨n0, n1, n2, n3⟩, ⟨a0, a1, a2, a3⟩, ⟨b0, b1, b2, b3⟩, hz3, hl3, hm3⟩ := unhide HBX _ ((Below.refl _ _))
  go_wp2_with fail
  refine (unhide HOV _ hm3).mono ?_
  rintro e w4 ⟨rfl, hb4⟩
  rw [World.size_alloc, World.size_alloc] at hb4
  have HO : Hid (n5.over = true) := rfl
  rw [unhide HO]
  clear n0 n1 n2 n3 a0 a1 a2 a3 b0 b1 b2 b3 hz3 hl3 hm3 HO
  obtain ⟨⟨n0, n1, n2, n3⟩, ⟨a0, a1, a2, a3⟩, ⟨b0, b1, b2, b3⟩, hz4, hl4, hm4⟩ := unhide HBX _ hb4
  have HB4 := hide hb4
  clear hb4
  go_wp2_with fail
  refine (nlen_any ((unhide HOA).later hl4).at).mono ?_
  rintro e w5 ⟨rfl, hb5⟩
  have HB5 := hide ((unhide HB4).trans (hb5.mono hz4))
  clear n0 n1 n2 n3 a0 a1 a2 a3 b0 b1 b2 b3 hb5 hl4 hm4
  obtain ⟨⟨n0, n1, n2, n3⟩, ⟨a0, a1, a2, a3⟩, ⟨b0, b1, b2, b3⟩, hz5, hl5, hm5⟩ := unhide HBX _ (unhide HB5)
  have hl3 : ((Nd.len ⟨true, [[97], [98], [99]], [[], [], []], []⟩ : Nat) : Int) = 3 := rfl
  rw [hl3]
  have hS := S_list [100]
  clear hl3
  go_wp2_with fail
  refine (nlen_any ((unhide HOB).later hl5).at).mono ?_
  rintro e w6 ⟨rfl, hb6⟩
  have HB6 := hide ((unhide HB5).trans (hb6.mono hz5))
  clear n0 n1 n2 n3 a0 a1 a2 a3 b0 b1 b2 b3 hb6 hl5 hm5
  obtain ⟨⟨n0, n1, n2, n3⟩, ⟨a0, a1, a2, a3⟩, ⟨b0, b1, b2, b3⟩, hz6, hl6, hm6⟩ := unhide HBX _ (unhide HB6)
  have hl3 : ((Nd.len ⟨true, [[100], [101]], [[], []], []⟩ : Nat) : Int) = 2 := rfl
  rw [hl3]
  clear hl3
  go_wp2_with fail
  refine (check_node ((unhide HOA).later hl6).at ⟨by decide, by decide, by decide⟩).mono ?_
  rintro e w7 ⟨rfl, hb7⟩
  have HB7 := hide ((unhide HB6).trans (hb7.mono hz6))
  clear n0 n1 n2 n3 a0 a1 a2 a3 b0 b1 b2 b3 hb7 hl6 hm6
  obtain ⟨⟨n0, n1, n2, n3⟩, ⟨a0, a1, a2, a3⟩, ⟨b0, b1, b2, b3⟩, hz7, hl7, hm7⟩ := unhide HBX _ (unhide HB7)
  rw [n5_ca]
  go_wp2_with fail
  refine (nunder_any ((unhide HOB).later hl7).at).mono ?_
  rintro e w8 ⟨rfl, hb8⟩
  have HFIN := hide ((unhide HLOW2).trans ((hl7.trans (hb8.mono (by omega))).mono (by have := (unhide HLOW2).size; omega)))
  have hu : Nd.under ⟨true, [[100], [101]], [[], []], []⟩ = false := rfl
  rw [hu]
  clear n0 n1 n2 n3 a0 a1 a2 a3 b0 b1 b2 b3 hb8 hl7 hm7 hu
  go_wp2_with fail
  go_ret
  exact ⟨rfl, unhide HFIN⟩
end Go.Proofs.Ytochaiinofhdhaa
