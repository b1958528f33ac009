/- The contract of the reference's New. -/
import Derived.Test.YtbggjkokfbcbcaaDRef4
namespace Go.Proofs.Ytbggjkokfbcbcaa
open Go.RowKit
set_option linter.unusedVariables false

theorem cell_one_new' (w : World) (u : Value) (t : TypeId) (j : Nat) (x : Value) (h : [u][j]? = some x) : (w.alloc (.cells #[u] t)).cell? ((⟨w.heap.size, 0, none⟩ : Addr).add j) = some x := by
  rw [plain_add, Nat.zero_add, block_cell (heap_alloc_new w _)]
  match j, h with
  | 0, h => simpa using h
  | j + 1, h => simp at h

/- The box of the device that is made, the row in it, the result's block. -/
structure Mk (w wr : World) (M Y : Nat) (k : Nat) (lv : Value) : Prop where
  box : wr.heap[Y]? = some (.cells #[lv, .slice none 0 0, .int .i64 (-1), .bool false, .int .i64 0] 31 (0, 0))
  res : wr.heap[M]? = some (.cells #[.slice none 0 0, .slice none 0 0, .int .i64 0, .bool false, .int .i64 0] 31 (0, 0))
  row : wr.ownsRow M 9 1 lv k (secs (List.replicate k (whole [])))
  below : Below M w wr

theorem Mk.put {w wr w2 w3 : World} {M Y k : Nat} {lv v : Value} (h : Mk w wr M Y k lv) (hMY : M < Y) (hb : Below wr.heap.size wr w2) (hg : w2.grownBy w3 lv.ownBlock) (hown : w3.ownsRow M 9 1 v (k + 1) (secs (List.replicate k (whole [])) ++ [.string (S (whole []))])) :
    w3.cell? ⟨Y, 0, none⟩ = some lv ∧ w3.frozen? ⟨Y, 0, none⟩ = false ∧ Mk w (w3.setCell ⟨Y, 0, none⟩ v) M Y (k + 1) v := by
  have hs := hb.size
  have hyl := block_lt h.box
  have hml := block_lt h.res
  have ny : lv.ownBlock ≠ some Y := ownsRow_unlike h.row h.box (by decide)
  have nm : lv.ownBlock ≠ some M := ownsRow_unlike h.row h.res (by decide)
  have hy3 : w3.heap[Y]? = _ := (hg.block Y (by omega) (fun e => ny e.symm)).trans ((hb.block Y hyl).trans h.box)
  have hm3 : w3.heap[M]? = _ := (hg.block M (by omega) (fun e => nm e.symm)).trans ((hb.block M hml).trans h.res)
  have ny3 : v.ownBlock ≠ some Y := ownsRow_unlike hown hy3 (by decide)
  refine ⟨by rw [block_cell hy3]; rfl, block_frozen hy3 0, ⟨?_, ?_, ?_, ?_⟩⟩
  · have := heap_setCell_same w3 Y 0 _ _ v hy3
    simpa [Array.setIfInBounds] using this
  · exact (heap_setCell_other w3 ⟨Y, 0, none⟩ M _ (show M ≠ Y by omega)).trans hm3
  · have := ownsRow_same hown (w' := w3.setCell ⟨Y, 0, none⟩ v) (fun j hj => heap_setCell_other w3 ⟨Y, 0, none⟩ j _ (fun e => ny3 (by rw [hj, e])))
    simpa [secs, List.replicate_succ'] using this
  · refine Below.setCell (p := ⟨Y, 0, none⟩) ?_ (show M ≤ Y by omega) _
    have h1 : Below M w w2 := h.below.trans (hb.mono (by omega))
    exact h1.grown hg (by omega) (fun j hj => (h.row.lt j hj).1)

set_option maxHeartbeats 3200000 in
theorem rnew_any (n : Nat) (w : World) (hn : n ≤ 1099511627) :
    Calls Try.prog 9 #[.int .i64 (n : Int)] w fun e w' => ∃ lv, e = .returned (RV lv (.slice none 0 0) (Dev.new n)) ∧ RIs w.heap.size w' lv (.slice none 0 0) (Dev.new n) ∧ Below w.heap.size w w' := by
  obtain ⟨i0, hi, hz0, hz1, hz2⟩ := info_parts info_string
  have HFI := hide (fun w => fill_any [] w)
  have HFIN : Hid (∀ (e : Ending) (lv : Value) (w' : World), e = .returned (.agg #[lv, .slice none 0 0, .int .i64 (-1), .bool false, .int .i64 0]) → w'.ownsRow w.heap.size 9 1 lv n (secs (List.replicate n (whole []))) → Below w.heap.size w w' → ∃ lv, e = .returned (RV lv (.slice none 0 0) (Dev.new n)) ∧ RIs w.heap.size w' lv (.slice none 0 0) (Dev.new n) ∧ Below w.heap.size w w') :=
    fun e lv w' he hrow hb => ⟨lv, he, ⟨by simpa [Dev.new] using hrow, World.ownsRow_nil _ _ _ _⟩, hb⟩
  obtain ⟨P0, hP0⟩ : ∃ P0 : Ending → World → Prop, (fun (e : Ending) (w' : World) => ∃ lv, e = .returned (RV lv (.slice none 0 0) (Dev.new n)) ∧ RIs w.heap.size w' lv (.slice none 0 0) (Dev.new n) ∧ Below w.heap.size w w') = P0 := ⟨_, rfl⟩
  have HFIN2 : Hid (∀ (e : Ending) (lv : Value) (w' : World), e = .returned (.agg #[lv, .slice none 0 0, .int .i64 (-1), .bool false, .int .i64 0]) → w'.ownsRow w.heap.size 9 1 lv n (secs (List.replicate n (whole []))) → Below w.heap.size w w' → P0 e w') := by
    rw [← hP0]; exact HFIN
  rw [hP0]
  clear HFIN hP0
  have HM0 : Hid (Mk w ((w.alloc (.cells #[.slice none 0 0, .slice none 0 0, .int .i64 0, .bool false, .int .i64 0] 31)).alloc (.cells #[.slice none 0 0, .slice none 0 0, .int .i64 (-1), .bool false, .int .i64 0] 31)) w.heap.size (w.heap.size + 1) 0 (.slice none 0 0)) := by
    obtain ⟨h1, h2, _, h4⟩ := two_new (Below.refl _ ((w.alloc (.cells #[.slice none 0 0, .slice none 0 0, .int .i64 0, .bool false, .int .i64 0] 31)).alloc (.cells #[.slice none 0 0, .slice none 0 0, .int .i64 (-1), .bool false, .int .i64 0] 31)))
    exact ⟨h2, h1, World.ownsRow_nil _ _ _ _, h4⟩
  obtain ⟨M, hM⟩ : ∃ M, w.heap.size = M := ⟨_, rfl⟩
  obtain ⟨Y, hY⟩ : ∃ Y, M + 1 = Y := ⟨_, rfl⟩
  have hMY : M < Y := by omega
  have hw1 : ∀ k : Nat, k < n → wrap64 ((k : Int) + 1) = ((k + 1 : Nat) : Int) := fun k hk => by unfold wrap64; omega
  obtain ⟨z, hz⟩ : ∃ z, whole [] = z := ⟨_, rfl⟩
  have HZ := hide hz
  rw [hz] at HFI
  go_enter Try.func9, Try.ntmps9
  go_wp2_with fail
  rw [hM] at HM0 HFIN2
  rw [hY] at HM0
  clear hM hY hz
  go_loopw [4] (fun i wr => ∃ k : Nat, k ≤ n ∧ i = .int .i64 k ∧ ∃ lv, Mk w wr M Y k lv) (fun i _ => n - (intOf i).toNat)
  case atStart => exact ⟨0, Nat.zero_le _, rfl, _, unhide HM0⟩
  case round =>
    obtain ⟨k, hk, rfl, lv, hr⟩ := hrel
    clear HM0
    obtain ⟨ao, c, rfl, _⟩ := ownsRow_slice hr.row
    obtain ⟨p0, p1, p2, p3, p4⟩ := cells5 hr.box
    obtain ⟨g0, g1, g2, g3, g4⟩ := frozen5 hr.box
    have hylt := block_lt hr.box
    have hmlt := block_lt hr.res
    have HR := hide hr
    clear hr
    by_cases hlt : k < n
    · have hk2 : (k : Int) < (n : Int) := by omega
      go_wp2_with fail
      go_region_law (first
        | (go_simp; go_at_call 20; refine (unhide HFI _).mono ?_; rintro e w2 ⟨rfl, hw2⟩; have hb2 : Below wr.heap.size wr w2 := (by rw [hw2]; exact (Below.refl _ _).drew); clear hw2; have hc2 := (hb2.cell (p := ⟨Y, 0, none⟩) hylt).trans p0; have hc2A : ∀ o, (w2.alloc o).cell? ⟨Y, 0, none⟩ = some (.slice ao k c) := (fun o => by rw [World.cell?_of_block (w := w2) (a := ⟨Y, 0, none⟩) (Below.heap_alloc w2 o Y (by have := hb2.size; omega))]; exact hc2); have HB2 := hide hb2; clear hb2)
        | (refine step_append_fresh rfl (.tmp 12) (.tmp 14) 28 rfl M 9 i0 (.string ⟨#[]⟩) 1 16 under_strings hi hz0 hz1 hz2 rfl (by decide) (.slice ao k c) k (secs (List.replicate k (whole []))) (by simp [Act.eval]) ((ownsRow_later (unhide HR).row (unhide HB2)).alloc _) ⟨w2.heap.size, 0, none⟩ 1 1 [.string (S z)] (by simp [Act.eval]) rfl (fun j x hx => by exact cell_one_new' _ _ _ j x hx) (fun u hu => by simp at hu; rcases hu with rfl; rfl) (by unfold maxLen; omega) (by omega) (by have := (unhide HB2).size; simp; omega) ?_; intro v' w3 hown' hgrow hfresh; have hp := (unhide HR).put hMY ((unhide HB2).alloc (unhide HB2).size _) hgrow (by rw [unhide HZ]; rw [unhide HZ] at hown'; exact hown'); obtain ⟨hc3, hf3, hp⟩ := hp; have HP := hide hp; obtain ⟨a1, c1, rfl, _⟩ := ownsRow_slice hown'; clear hown' hgrow hfresh hp))
      all_goals
        have hp := unhide HP
        clear HP hc3 hf3 hc2 hc2A
        have HP := hide hp
        clear hp p0 p1 p2 p3 p4 g0 g1 g2 g3 g4
        go_wp2
        go_roundw
        case rel => exact ⟨k + 1, by omega, by go_num, _, unhide HP⟩
        case measure => simp [intOf]; omega
    · have : k = n := by omega
      subst this
      obtain ⟨t0, t1, t2, t3, t4⟩ := cells5 (unhide HR).res
      obtain ⟨f0, f1, f2, f3, f4⟩ := frozen5 (unhide HR).res
      have hq := put5_same (a' := .slice ao k c) (b' := .slice none 0 0) (c' := .int .i64 (-1)) (d' := .bool false) (e' := .int .i64 0) (unhide HR).res
      obtain ⟨q0, q1, q2, q3, q4⟩ := cells5 hq
      have hb5 : Below M w (put5 wr M (.slice ao k c) (.slice none 0 0) (.int .i64 (-1)) (.bool false) (.int .i64 0)) := below_put5 (unhide HR).below (Nat.le_refl _) _ _ _ _ _
      have nm : (Value.slice ao k c).ownBlock ≠ some M := ownsRow_unlike (unhide HR).row (unhide HR).res (by decide)
      have hrow : (put5 wr M (.slice ao k c) (.slice none 0 0) (.int .i64 (-1)) (.bool false) (.int .i64 0)).ownsRow M 9 1 (.slice ao k c) k (secs (List.replicate k (whole []))) :=
        ownsRow_same (unhide HR).row fun j hj => put5_other _ _ _ _ _ (fun e => nm (by rw [hj, e]))
      have H5 := hide (And.intro hb5 hrow)
      unfold put5 at q0 q1 q2 q3 q4 H5
      clear hq hb5 hrow nm
      go_wp2
      exact bodyPost_ret (v := .agg #[.slice ao k c, .slice none 0 0, .int .i64 (-1), .bool false, .int .i64 0]) (by simp [results, Try.results9, go_sem, q0, q1, q2, q3, q4]) rfl (unhide HFIN2 _ _ _ rfl (unhide H5).2 (unhide H5).1)
end Go.Proofs.Ytbggjkokfbcbcaa
