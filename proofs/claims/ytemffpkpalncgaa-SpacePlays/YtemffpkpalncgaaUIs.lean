/- The contract of the law's is: a space is the document's. -/
import Derived.Test.YtemffpkpalncgaaURefText
import Derived.Deep.QuietTactic
import Derived.BigQuiet
namespace Go.Proofs.Ytemffpkpalncgaa
open Go.RowKit
set_option linter.unusedVariables false

def cnt (l : List Nat) : Array Value := #[.int .i64 ((Sp.count 0 l : Nat) : Int), .int .i64 ((Sp.count 1 l : Nat) : Int), .int .i64 ((Sp.count 2 l : Nat) : Int), .int .i64 ((Sp.count 3 l : Nat) : Int)]
theorem cnt_get (l : List Nat) (k : Nat) (h : k < 4) : (cnt l)[k]? = some (.int .i64 ((Sp.count k l : Nat) : Int)) := by
  have : k = 0 ∨ k = 1 ∨ k = 2 ∨ k = 3 := by omega
  rcases this with rfl | rfl | rfl | rfl <;> rfl
theorem cnt_next (l : List Nat) (k : Nat) (hk : k < l.length) (hy : l[k] ≤ 3) : cnt (l.take (k + 1)) = (cnt (l.take k)).setIfInBounds l[k] (.int .i64 ((Sp.count l[k] (l.take k) + 1 : Nat) : Int)) := by
  unfold cnt
  rw [Sp.count_take 0 l k hk, Sp.count_take 1 l k hk, Sp.count_take 2 l k hk, Sp.count_take 3 l k hk]
  generalize l[k] = y at *
  have : y = 0 ∨ y = 1 ∨ y = 2 ∨ y = 3 := by omega
  rcases this with rfl | rfl | rfl | rfl <;> rfl
theorem u_drewN {B : Nat} {u w : World} (h : Below B u w) (n : Nat) : Below B u (w.drewN n) := ⟨h.os, h.tape, h.output, h.size, h.block⟩
theorem SpAt.heap {base : Nat} {w w' : World} {b g : Nat} {l : List Nat} (h : SpAt base w b g l) (e : w'.heap = w.heap) : SpAt base w' b g l := h.same (by rw [e]) (by rw [e])

set_option maxRecDepth 4000 in
set_option maxHeartbeats 3200000 in
theorem uis_any {base base2 : Nat} {w : World} {b g : Nat} {v : Value} {l : List Nat} (hs : SpAt base w b g l) (h : w.ownsRow base2 3 1 v l.length (nums l)) :
    Calls Try.prog 17 #[.pointer (some ⟨b, 0, none⟩), v] w fun e w' => e = .returned (.int .i64 0) ∧ Below w.heap.size w w' := by
  have hlen := hs.len
  have hpos := hs.pos
  obtain ⟨g2, c, rfl, _⟩ := row_some h hpos
  have HST : Hid (∀ w' (i : Int), Below w.heap.size w w' → Calls Try.prog 18 #[.pointer (some ⟨b, 0, none⟩), .int .i64 i] w' fun e w2 => e = .returned (.int .i64 (stAt l i)) ∧ w2 = w') := fun w' i hb => ustate_any (hs.later hb) i
  have HCN : Hid (∀ w' (i : Nat), Below w.heap.size w w' → Calls Try.prog 19 #[.pointer (some ⟨b, 0, none⟩), .int .i64 (i : Int)] w' fun e w2 => e = .returned (.int .i64 ((Sp.count i l : Nat) : Int)) ∧ w2 = w') := fun w' i hb => ucount_any (hs.later hb) i
  have HLE : Hid (∀ w', Below w.heap.size w w' → Calls Try.prog 23 #[.pointer (some ⟨b, 0, none⟩)] w' fun e w2 => e = .returned (.int .i64 (l.length : Int)) ∧ w2 = w') := fun w' hb => ulen_any (hs.later hb)
  have HTX : Hid (∀ w', Below w.heap.size w w' → Calls Try.prog 22 #[.pointer (some ⟨b, 0, none⟩)] w' fun e w2 => e = .returned (.string (S (Sp.txt l))) ∧ Below w'.heap.size w' w2) := fun w' hb => utext_any (hs.later hb)
  have HRT : Hid (∀ w', Below w.heap.size w w' → Calls Try.prog 27 #[.slice (some ⟨g2, 0, none⟩) l.length c] w' fun e w2 => e = .returned (.string (S (Sp.txt l))) ∧ Below w'.heap.size w' w2) := fun w' hb => rtext_any (ownsRow_below h hb) hlen hpos
  have HC : Hid (∀ w' k (hk : k < l.length), Below w.heap.size w w' → w'.cell? ⟨g2, k, none⟩ = some (.int .i64 ((l[k] : Nat) : Int))) := fun w' k hk hb => nums_cell (ownsRow_below h hb) k hk
  have HLe : Hid (∀ k (hk : k < l.length), l[k] ≤ 3) := fun k hk => hs.st _ (List.getElem_mem hk)
  have HM1 : Hid (stAt l (-1) = -1) := stAt_out l (-1) (.inl (by omega))
  have HMn : Hid (stAt l (l.length : Int) = -1) := stAt_out l _ (.inr (Int.le_refl _))
  generalize Sp.txt l = T at *
  obtain ⟨n, hn⟩ : ∃ n, l.length = n := ⟨_, rfl⟩
  have HN := hide hn
  rw [hn] at hlen hpos HLE HRT HMn ⊢
  obtain ⟨A, hA⟩ : ∃ A, w.heap.size = A := ⟨_, rfl⟩
  have HA := hide hA
  have HX0 : Hid ((w.alloc (.cells #[.int .i64 0, .int .i64 0, .int .i64 0, .int .i64 0] 54)).heap[A]? = some (.cells (cnt (l.take 0)) 54 (0, 0))) := by rw [← hA]; exact heap_alloc_new w _
  have HB0 : Hid (Below w.heap.size w (w.alloc (.cells #[.int .i64 0, .int .i64 0, .int .i64 0, .int .i64 0] 54))) := (Below.refl _ _).alloc (Nat.le_refl _) _
  clear hn hs h
  go_enter Try.func17, Try.ntmps17
  go_wp2_with fail
  clear hA
  go_loopw [11] (fun i wr => ∃ k : Nat, k ≤ n ∧ i = .int .i64 k ∧ wr.heap[A]? = some (.cells (cnt (l.take k)) 54 (0, 0)) ∧ Below w.heap.size w wr) (fun i _ => n - (intOf i).toNat)
  case atStart => exact ⟨0, Nat.zero_le _, rfl, unhide HX0, unhide HB0⟩
  case round =>
    obtain ⟨k, hk, rfl, hx, hb⟩ := hrel
    clear HX0 HB0
    have HX := hide hx
    have HB := hide hb
    by_cases hlt : k < n
    · have hkl : k < l.length := by rw [unhide HN]; exact hlt
      have hc := unhide HC wr k hkl hb
      have HSK := hide (unhide HST wr (k : Int) hb)
      rw [stAt_in l k hkl] at HSK
      have hle := unhide HLe k hkl
      have hcl : Sp.count l[k] (l.take k) ≤ k := Nat.le_trans (Sp.count_le _ _) (List.length_take_le _ _)
      have hca : wr.cell? ⟨A, l[k], none⟩ = some (.int .i64 ((Sp.count l[k] (l.take k) : Nat) : Int)) := by
        rw [block_cell hx]
        exact cnt_get _ _ (by omega)
      have hfz : wr.frozen? ⟨A, l[k], none⟩ = false := block_frozen hx _
      have HNX := hide (cnt_next l k hkl hle)
      generalize l[k] = y at *
      generalize Sp.count y (l.take k) = z at *
      have i1 : (0 : Int) ≤ (k : Int) := by omega
      have i2 : (k : Int) < (n : Int) := by omega
      have y1 : (0 : Int) ≤ (y : Int) := by omega
      have y2 : (y : Int) < 4 := by omega
      clear hx hb
      go_wp2_with fail
      refine (unhide HSK).mono ?_
      rintro e w2 ⟨rfl, rfl⟩
      clear HSK
      go_wp2_with fail
      go_roundw
      case rel =>
        refine ⟨k + 1, by omega, by go_num, ?_, (unhide HB).setCell (p := ⟨A, y, none⟩) (by rw [unhide HA]; exact Nat.le_refl _) _⟩
        rw [heap_setCell_same _ A y _ _ _ (unhide HX), unhide HNX]
        rfl
      case measure => simp [intOf]; omega
    · have : k = n := by omega
      subst this
      have HX2 : Hid (wr.heap[A]? = some (.cells (cnt l) 54 (0, 0))) := by
        rw [List.take_of_length_le (by rw [unhide HN]; exact Nat.le_refl _)] at hx
        exact hx
      clear hx hb HX HC HLe
      go_wp2_with fail
      go_loopw [27] (fun i wr => ∃ j : Nat, j ≤ 4 ∧ i = .int .i64 j ∧ wr.heap[A]? = some (.cells (cnt l) 54 (0, 0)) ∧ Below w.heap.size w wr) (fun i _ => 4 - (intOf i).toNat)
      case atStart => exact ⟨0, by omega, rfl, unhide HX2, unhide HB⟩
      case round =>
        obtain ⟨j, hj, rfl, hx, hb⟩ := hrel
        clear HX2 HB
        have HX := hide hx
        have HB := hide hb
        by_cases hlt : j < 4
        · have hca : wr.cell? ⟨A, j, none⟩ = some (.int .i64 ((Sp.count j l : Nat) : Int)) := by
            rw [block_cell hx]
            exact cnt_get _ _ hlt
          have HCJ := hide (fun q => unhide HCN (wr.drewN q) j (u_drewN hb q))
          generalize Sp.count j l = z at *
          have j1 : (0 : Int) ≤ (j : Int) := by omega
          have j2 : (j : Int) < 4 := by omega
          have b1 : ((z : Int) != (z : Int)) = false := by simp
          clear hx hb
          go_wp2_with fail
          go_quiet ((go_at_call 19; exact Calls.quiet_of_same (unhide HCJ _)))
          have HX3 : Hid ((wr.drewN nq).heap[A]? = some (.cells (cnt l) 54 (0, 0))) := unhide HX
          have HB3 := hide (u_drewN (unhide HB) nq)
          generalize wr.drewN nq = w3 at *
          clear hca HX HB HCJ
          go_wp2_with fail
          go_roundw
          case rel => exact ⟨j + 1, by omega, by go_num, unhide HX3, unhide HB3⟩
          case measure => simp [intOf]; omega
        · have : j = 4 := by omega
          subst this
          have HS1 := hide (unhide HST wr (-1) hb)
          have HS2 := hide (unhide HST wr (k : Int) hb)
          rw [unhide HM1] at HS1
          rw [unhide HMn] at HS2
          clear hx hb
          have hse : ((S T).toList == (S T).toList) = true := by simp
          go_wp2_with fail
          refine (unhide HLE wr (unhide HB)).mono ?_
          rintro e w4 ⟨rfl, rfl⟩
          go_wp2_with fail
          refine (unhide HS1).mono ?_
          rintro e w4 ⟨rfl, rfl⟩
          go_wp2_with fail
          refine (unhide HS2).mono ?_
          rintro e w4 ⟨rfl, rfl⟩
          go_wp2_with fail
          refine (unhide HTX _ (unhide HB)).mono ?_
          rintro e w5 ⟨rfl, hb5⟩
          have HB5 := hide ((unhide HB).trans (hb5.mono (unhide HB).size))
          clear hb5
          go_wp2_with fail
          refine (unhide HRT _ (unhide HB5)).mono ?_
          rintro e w6 ⟨rfl, hb6⟩
          have HB6 := hide ((unhide HB5).trans (hb6.mono (unhide HB5).size))
          clear hb6
          go_wp2_with fail
          go_ret
          exact ⟨rfl, unhide HB6⟩
end Go.Proofs.Ytemffpkpalncgaa
