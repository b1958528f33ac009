/- The contract of the law's Tidy: some state that may be. -/
import Derived.Test.YteaiidcconggcaaDoorVRefWith
import Derived.Test.YteaiidcconggcaaDoorAOpen
import Derived.Test.YteaiidcconggcaaDoorCCut
namespace Go.Proofs.YteaiidcconggcaaDoor
open Go.RowKit
set_option linter.unusedVariables false
set_option maxRecDepth 100000

/- A state that may be. -/
def VS.may (s : VS) : Prop := s.check = 0 ∧ -9223372036854775808 ≤ s.n ∧ s.n ≤ 9223372036854775807
theorem VS.may_kind {s : VS} (h : s.may) : 1 ≤ s.kind ∧ s.kind ≤ 7 := by
  have h0 := h.1
  unfold VS.check at h0
  split at h0
  · cases h0
  · omega
theorem VS.may_rows {s : VS} (h : s.may) : s.rows.length ≤ s.most ∧ s.numOk = true ∧ ∀ i, i < s.rows.length → s.rowErr i = 0 := by
  have h0 := h.1
  unfold VS.check at h0
  split at h0
  · cases h0
  · split at h0
    · cases h0
    · rename_i hn
      split at h0
      · cases h0
      · exact ⟨by omega, by simpa using hn, first_all h0⟩
theorem VS.most_le (s : VS) : s.most ≤ 8 := by unfold VS.most; split <;> omega
theorem VS.may_len {s : VS} (h : s.may) (i : Nat) (hi : i < s.rows.length) : (s.rows[i]'hi).1.length ≤ 24 ∧ (s.rows[i]'hi).2.length ≤ 24 := by
  have h0 := (VS.may_rows h).2.2 i hi
  unfold VS.rowErr VS.key VS.val at h0
  have hg : s.rows.getD i ([], []) = s.rows[i]'hi := by simp [List.getD, hi]
  rw [hg] at h0
  split at h0
  · cases h0
  · omega

structure Ty (w : World) (kd n : Int) (sl : Value) (x : VS) (v : Value) (wr : World) : Prop where
  low : Below w.heap.size w wr
  st : ∃ t, wr.heap[w.heap.size]? = some (.cells #[.int .i64 kd, .int .i64 n, sl] t (0, 0))
  res : ∃ a b c t', wr.heap[w.heap.size + 1]? = some (.cells #[a, b, c] t' (0, 0))
  bx : ∃ t, wr.heap[w.heap.size + 1 + 1]? = some (.cells #[.int .i64 x.kind, .int .i64 x.n, v] t (0, 0))
  own : wr.ownsRow (w.heap.size + 1 + 1 + 1) 77 2 v x.rows.length (R9 x.rows)
section
variable {w wr w' : World} {kd n : Int} {sl v : Value} {x : VS}
theorem Ty.start (w : World) (kd n k' n' : Int) (sl a b c : Value) (t t' t'' : TypeId) : Ty w kd n sl ⟨k', n', []⟩ (.slice none 0 0) (((w.alloc (.cells #[.int .i64 kd, .int .i64 n, sl] t)).alloc (.cells #[a, b, c] t')).alloc (.cells #[.int .i64 k', .int .i64 n', .slice none 0 0] t'')) := by
  refine ⟨((under_box _).alloc (by simp) _).alloc (by simp; omega) _, ⟨t, ?_⟩, ⟨a, b, c, t', ?_⟩, ⟨t'', ?_⟩, World.ownsRow_nil _ _ _ _⟩
  · rw [Below.heap_alloc _ _ _ (by simp; omega), Below.heap_alloc _ _ _ (by simp)]; exact heap_alloc_new w _
  · rw [Below.heap_alloc _ _ _ (by simp)]
    have := heap_alloc_new (w.alloc (.cells #[.int .i64 kd, .int .i64 n, sl] t)) (.cells #[a, b, c] t')
    rwa [World.size_alloc] at this
  · have := heap_alloc_new ((w.alloc (.cells #[.int .i64 kd, .int .i64 n, sl] t)).alloc (.cells #[a, b, c] t')) (.cells #[.int .i64 k', .int .i64 n', .slice none 0 0] t'')
    rwa [World.size_alloc, World.size_alloc] at this
theorem Ty.size (h : Ty w kd n sl x v wr) : w.heap.size + 1 + 1 + 1 ≤ wr.heap.size := by
  obtain ⟨t, hx⟩ := h.bx
  exact block_lt hx
theorem Ty.later (h : Ty w kd n sl x v wr) (hb : Below wr.heap.size wr w') : Ty w kd n sl x v w' := by
  have hs := h.size
  obtain ⟨t1, h1⟩ := h.st
  obtain ⟨a, b, c, t2, h2⟩ := h.res
  obtain ⟨t3, h3⟩ := h.bx
  exact ⟨h.low.trans (hb.mono (by omega)), ⟨t1, (hb.block _ (by omega)).trans h1⟩, ⟨a, b, c, t2, (hb.block _ (by omega)).trans h2⟩, ⟨t3, (hb.block _ (by omega)).trans h3⟩, ownsRow_below h.own hb⟩
theorem Ty.facts (h : Ty w kd n sl x v wr) : (wr.cell? ⟨w.heap.size, 1, none⟩ = some (.int .i64 n) ∧ wr.cell? ⟨w.heap.size, 2, none⟩ = some sl) ∧ (wr.cell? ⟨w.heap.size + 1 + 1, 0, none⟩ = some (.int .i64 x.kind) ∧ wr.cell? ⟨w.heap.size + 1 + 1, 1, none⟩ = some (.int .i64 x.n) ∧ wr.cell? ⟨w.heap.size + 1 + 1, 2, none⟩ = some v) ∧ (∀ j, wr.frozen? ⟨w.heap.size + 1 + 1, j, none⟩ = false) := by
  obtain ⟨t1, h1⟩ := h.st
  obtain ⟨t3, h3⟩ := h.bx
  refine ⟨⟨?_, ?_⟩, ⟨?_, ?_, ?_⟩, fun j => block_frozen h3 j⟩
  · rw [block_cell h1]; rfl
  · rw [block_cell h1]; rfl
  · rw [block_cell h3]; rfl
  · rw [block_cell h3]; rfl
  · rw [block_cell h3]; rfl
theorem Ty.at (h : Ty w kd n sl x v wr) : StAt wr (.agg #[.int .i64 x.kind, .int .i64 x.n, v]) x := ⟨_, rfl, Row2.of_own h.own⟩
theorem Ty.put (h : Ty w kd n sl x v wr) {y : VS} {u : Value} (ho : wr.ownsRow (w.heap.size + 1 + 1 + 1) 77 2 u y.rows.length (R9 y.rows)) : Ty w kd n sl y u (((wr.setCell ⟨w.heap.size + 1 + 1, 0, none⟩ (.int .i64 y.kind)).setCell ⟨w.heap.size + 1 + 1, 1, none⟩ (.int .i64 y.n)).setCell ⟨w.heap.size + 1 + 1, 2, none⟩ u) := by
  show Ty w kd n sl y u (put3 wr (w.heap.size + 1 + 1) (.int .i64 y.kind) (.int .i64 y.n) u)
  obtain ⟨t1, h1⟩ := h.st
  obtain ⟨a, b, c, t2, h2⟩ := h.res
  obtain ⟨t3, h3⟩ := h.bx
  refine ⟨⟨h.low.os, h.low.tape, h.low.output, by rw [put3_size]; exact h.low.size, fun k hk => ?_⟩, ⟨t1, ?_⟩, ⟨a, b, c, t2, ?_⟩, ⟨t3, ?_⟩, ownsRow_same ho fun k hk => ?_⟩
  · rw [put3_other _ _ _ _ (by omega)]; exact h.low.block k hk
  · rw [put3_other _ _ _ _ (by omega)]; exact h1
  · rw [put3_other _ _ _ _ (by omega)]; exact h2
  · have e1 := heap_setCell_same wr (w.heap.size + 1 + 1) 0 _ _ (.int .i64 y.kind) h3
    have e2 := heap_setCell_same _ (w.heap.size + 1 + 1) 1 _ _ (.int .i64 y.n) e1
    have e3 := heap_setCell_same _ (w.heap.size + 1 + 1) 2 _ _ u e2
    unfold put3
    simpa [Array.setIfInBounds] using e3
  · have := (ho.lt k hk).1
    rw [put3_other _ _ _ _ (by omega)]
theorem Ty.num (h : Ty w kd n sl x v wr) (m : Int) : Ty w kd n sl ⟨x.kind, m, x.rows⟩ v (wr.setCell ⟨w.heap.size + 1 + 1, 1, none⟩ (.int .i64 m)) := by
  obtain ⟨t1, h1⟩ := h.st
  obtain ⟨a, b, c, t2, h2⟩ := h.res
  obtain ⟨t3, h3⟩ := h.bx
  have ho (k : Nat) (hk : k ≠ w.heap.size + 1 + 1) : (wr.setCell ⟨w.heap.size + 1 + 1, 1, none⟩ (.int .i64 m)).heap[k]? = wr.heap[k]? := heap_setCell_other _ ⟨w.heap.size + 1 + 1, 1, none⟩ _ _ hk
  refine ⟨⟨h.low.os, h.low.tape, h.low.output, by simpa using h.low.size, fun k hk => ?_⟩, ⟨t1, ?_⟩, ⟨a, b, c, t2, ?_⟩, ⟨t3, ?_⟩, ownsRow_same h.own fun k hk => ?_⟩
  · rw [ho _ (by omega)]; exact h.low.block k hk
  · rw [ho _ (by omega)]; exact h1
  · rw [ho _ (by omega)]; exact h2
  · have e1 := heap_setCell_same wr (w.heap.size + 1 + 1) 1 _ _ (.int .i64 m) h3
    simpa [Array.setIfInBounds] using e1
  · have := (h.own.lt k hk).1
    rw [ho _ (by omega)]
theorem Ty.done (h : Ty w kd n sl x v wr) (a b c : Value) :
    (put3 wr (w.heap.size + 1) a b c).cell? ⟨w.heap.size + 1, 0, none⟩ = some a ∧ (put3 wr (w.heap.size + 1) a b c).cell? ⟨w.heap.size + 1, 1, none⟩ = some b ∧ (put3 wr (w.heap.size + 1) a b c).cell? ⟨w.heap.size + 1, 2, none⟩ = some c ∧
    Below w.heap.size w (put3 wr (w.heap.size + 1) a b c) ∧ (put3 wr (w.heap.size + 1) a b c).ownsRow w.heap.size 77 2 v x.rows.length (R9 x.rows) ∧ (∃ a0, wr.cell? ⟨w.heap.size + 1, 0, none⟩ = some a0) ∧ (∃ a0, wr.cell? ⟨w.heap.size + 1, 1, none⟩ = some a0) ∧ (∃ a0, wr.cell? ⟨w.heap.size + 1, 2, none⟩ = some a0) ∧ ∀ j, wr.frozen? ⟨w.heap.size + 1, j, none⟩ = false := by
  obtain ⟨a0, b0, c0, t', hr⟩ := h.res
  obtain ⟨p0, p1, p2⟩ := put3_cells hr a b c
  refine ⟨p0, p1, p2, ⟨h.low.os, h.low.tape, h.low.output, by rw [put3_size]; exact h.low.size, fun k hk => ?_⟩, ownsRow_less (ownsRow_same h.own fun k hk => ?_) (by omega), ⟨a0, by rw [block_cell hr]; rfl⟩, ⟨b0, by rw [block_cell hr]; rfl⟩, ⟨c0, by rw [block_cell hr]; rfl⟩, fun j => block_frozen hr j⟩
  · rw [put3_other _ _ _ _ (by omega)]; exact h.low.block k hk
  · have := (h.own.lt k hk).1
    rw [put3_other _ _ _ _ (by omega)]
end
theorem may_none (k : Int) (h1 : 1 ≤ k) (h7 : k ≤ 7) : VS.may ⟨k, 0, []⟩ := by
  refine ⟨?_, by show (-9223372036854775808 : Int) ≤ 0; decide, by show (0 : Int) ≤ 9223372036854775807; decide⟩
  unfold VS.check VS.numOk VS.most
  dsimp only
  rw [if_neg (by omega), if_neg (by split <;> simp), if_neg (by simp)]
  rfl
theorem may_two (n : Int) (h1 : -9223372036854775808 ≤ n) (h2 : n ≤ 9223372036854775807) : VS.may ⟨2, n, []⟩ := ⟨rfl, h1, h2⟩
theorem may_three (n : Int) (h1 : 0 ≤ n) (h2 : n ≤ 9223372036854775807) : VS.may ⟨3, n, []⟩ := by
  refine ⟨?_, by show (-9223372036854775808 : Int) ≤ n; omega, h2⟩
  unfold VS.check VS.numOk VS.most
  simp [h1, first]

set_option maxHeartbeats 12800000 in
theorem tidy_any {w : World} {v : Value} {s : VS} (h : StAt w v s) (hn : -9223372036854775808 ≤ s.n ∧ s.n ≤ 9223372036854775807) (hsz : ∀ i (h : i < s.rows.length), (s.rows[i]'h).1.length ≤ maxLen ∧ (s.rows[i]'h).2.length ≤ maxLen) :
    Calls Tryd.prog 32 #[v] w fun e w' => ∃ v', e = .returned v' ∧ ∃ x : VS, x.may ∧ StOwn w.heap.size 77 w' v' x ∧ Below w.heap.size w w' := by
  obtain ⟨k0, rfl, hr⟩ := h
  obtain ⟨a, c, rfl, hc, hm⟩ := hr.shape
  unfold maxLen at hm
  obtain ⟨kr, n, rows⟩ := s
  dsimp only at *
  obtain ⟨hn1, hn2⟩ := hn
  have HROW := hide hr
  have HSZ := hide hsz
  have hand := pl_and_mask kr 8 255 (by decide) (by decide)
  have e256 : ((2 ^ 8 : Nat) : Int) = 256 := rfl
  rw [e256] at hand
  obtain ⟨r, hr0⟩ : ∃ r : Nat, kr % 256 = (r : Int) := ⟨(kr % 256).toNat, by omega⟩
  rw [hr0] at hand
  obtain ⟨q, hq⟩ : ∃ q, r % 7 = q := ⟨_, rfl⟩
  have hq7 : q < 7 := by rw [← hq]; exact Nat.mod_lt _ (by decide)
  obtain ⟨T, hT⟩ : ∃ T, 1 + q = T := ⟨_, rfl⟩
  have hrm : (r : Int) % 7 = (q : Int) := by rw [← hq]; exact (Int.natCast_emod r 7).symm
  have hrm2 : Int.tmod (r : Int) 7 = (q : Int) := by rw [Int.tmod_eq_emod_of_nonneg (by omega)]; exact hrm
  have hwq : IntKind.i64.wrap (q : Int) = (q : Int) := by rw [IntKind.wrap_i64]; omega
  have hwT : IntKind.i64.wrap (1 + (q : Int)) = (T : Int) := by rw [IntKind.wrap_i64]; omega
  have hT1 : 1 ≤ T := by omega
  have hT7 : T ≤ 7 := by omega
  have HST := hide (Ty.start w kr n (T : Int) 0 (.slice a rows.length c) (.int .i64 0) (.int .i64 0) (.slice none 0 0) 47 38 38)
  clear hr hsz hr0 e256 hq hT
  by_cases k2 : T = 2
  · have e2 : ((T : Int) == 2) = true := by rw [beq_iff_eq]; omega
    have e3 : ((T : Int) == 3) = false := by rw [beq_eq_false_iff_ne]; omega
    have HMAY : Hid (VS.may ⟨(T : Int), n, []⟩) := by show VS.may _; rw [k2]; exact may_two n hn1 hn2
    clear k2 HST HROW HSZ
    go_enter Tryd.func32, Tryd.ntmps32
    go_wp2_with fail
    exact bodyPost_ret (v := .agg #[.int .i64 (T : Int), .int .i64 n, .slice none 0 0]) (by simp [results, Tryd.results32, go_sem]) rfl ⟨_, rfl, ⟨(T : Int), n, []⟩, unhide HMAY, ⟨_, rfl, World.ownsRow_nil _ _ _ _⟩, ((under_box _).alloc (by simp) _).alloc (by simp; omega) _⟩
  by_cases k3 : T = 3
  · have e2 : ((T : Int) == 2) = false := by rw [beq_eq_false_iff_ne]; omega
    have e3 : ((T : Int) == 3) = true := by rw [beq_iff_eq]; omega
    by_cases hneg : n < 0
    · have hw1 : IntKind.i64.wrap (n + 1) = n + 1 := by rw [IntKind.wrap_i64]; omega
      have hw2 : IntKind.i64.wrap (-(n + 1)) = -(n + 1) := by rw [IntKind.wrap_i64]; omega
      have HMAY : Hid (VS.may ⟨(T : Int), -(n + 1), []⟩) := by show VS.may _; rw [k3]; exact may_three _ (by omega) (by omega)
      obtain ⟨nn, hnn⟩ : ∃ nn, -(n + 1) = nn := ⟨_, rfl⟩
      rw [hnn] at hw2 HMAY
      clear k3 HST HROW HSZ
      go_enter Tryd.func32, Tryd.ntmps32
      go_wp2_with fail
      exact bodyPost_ret (v := .agg #[.int .i64 (T : Int), .int .i64 nn, .slice none 0 0]) (by simp [results, Tryd.results32, go_sem]) rfl ⟨_, rfl, ⟨(T : Int), nn, []⟩, unhide HMAY, ⟨_, rfl, World.ownsRow_nil _ _ _ _⟩, ((under_box _).alloc (by simp) _).alloc (by simp; omega) _⟩
    · have HMAY : Hid (VS.may ⟨(T : Int), n, []⟩) := by show VS.may _; rw [k3]; exact may_three _ (by omega) (by omega)
      clear k3 HST HROW HSZ
      go_enter Tryd.func32, Tryd.ntmps32
      go_wp2_with fail
      exact bodyPost_ret (v := .agg #[.int .i64 (T : Int), .int .i64 n, .slice none 0 0]) (by simp [results, Tryd.results32, go_sem]) rfl ⟨_, rfl, ⟨(T : Int), n, []⟩, unhide HMAY, ⟨_, rfl, World.ownsRow_nil _ _ _ _⟩, ((under_box _).alloc (by simp) _).alloc (by simp; omega) _⟩
  have HM0 := hide (may_none (T : Int) (by omega) (by omega))
  have e2 : ((T : Int) == 2) = false := by rw [beq_eq_false_iff_ne]; omega
  have e3 : ((T : Int) == 3) = false := by rw [beq_eq_false_iff_ne]; omega
  obtain ⟨e1b, he1b⟩ : ∃ e1b, ((T : Int) == 1) = e1b := ⟨_, rfl⟩
  have HMS : Hid (∀ M : Int, True) := fun _ => trivial
  cases e1b
  · go_enter Tryd.func32, Tryd.ntmps32
    go_wp2_with fail
    go_loopw [5] (fun i wr => ∃ (k : Nat) (x : VS) (v : Value), k ≤ 20 ∧ i = .int .i64 (k : Int) ∧ x.may ∧ x.kind = (T : Int) ∧ Ty w kr n (.slice a rows.length c) x v wr) (fun i _ => 20 - (intOf i).toNat)
    case atStart => exact ⟨0, _, _, Nat.zero_le _, rfl, unhide HM0, rfl, unhide HST⟩
    case round =>
      obtain ⟨k, x, v, hk, rfl, hmay, hkd, hty⟩ := hrel
      obtain ⟨va, vc, rfl, _⟩ := ownsRow_slice hty.own
      have HTY := hide hty
      obtain ⟨⟨f0, f1⟩, ⟨x0, x1, x2⟩, ff⟩ := hty.facts
      have hlow := hty.low
      have hx8 : x.rows.length ≤ 8 := Nat.le_trans (VS.may_rows hmay).1 (VS.most_le x)
      have HWS := hide hty.size
      clear hty HST HM0
      by_cases q1 : k < rows.length
      case neg =>
        have g1 : ¬ (k : Int) < ((rows.length : Nat) : Int) := by omega
        clear hlow
        obtain ⟨z0, z1, z2, zlow, zown, ⟨y0, hy0⟩, ⟨y1, hy1⟩, ⟨y2, hy2⟩, zf⟩ := (unhide HTY).done (.int .i64 x.kind) (.int .i64 x.n) (.slice va x.rows.length vc)
        unfold put3 at z0 z1 z2 zlow zown
        have HMAY := hide hmay
        clear hmay hkd HROW
        go_wp2_with fail
        exact bodyPost_ret (v := .agg #[.int .i64 x.kind, .int .i64 x.n, .slice va x.rows.length vc]) (by simp [results, Tryd.results32, go_sem, z0, z1, z2]) rfl ⟨_, rfl, x, unhide HMAY, ⟨_, rfl, zown⟩, zlow⟩
      have g1 : (k : Int) < ((rows.length : Nat) : Int) := by omega
      by_cases q2 : x.rows.length < 8
      case neg =>
        have g2 : ¬ ((x.rows.length : Nat) : Int) < 8 := by omega
        clear hlow
        obtain ⟨z0, z1, z2, zlow, zown, ⟨y0, hy0⟩, ⟨y1, hy1⟩, ⟨y2, hy2⟩, zf⟩ := (unhide HTY).done (.int .i64 x.kind) (.int .i64 x.n) (.slice va x.rows.length vc)
        unfold put3 at z0 z1 z2 zlow zown
        have HMAY := hide hmay
        clear hmay hkd HROW
        go_wp2_with fail
        exact bodyPost_ret (v := .agg #[.int .i64 x.kind, .int .i64 x.n, .slice va x.rows.length vc]) (by simp [results, Tryd.results32, go_sem, z0, z1, z2]) rfl ⟨_, rfl, x, unhide HMAY, ⟨_, rfl, zown⟩, zlow⟩
      have g2 : ((x.rows.length : Nat) : Int) < 8 := by omega
      by_cases q3 : k < 20
      case neg =>
        have g3 : ¬ (k : Int) < 20 := by omega
        clear hlow
        obtain ⟨z0, z1, z2, zlow, zown, ⟨y0, hy0⟩, ⟨y1, hy1⟩, ⟨y2, hy2⟩, zf⟩ := (unhide HTY).done (.int .i64 x.kind) (.int .i64 x.n) (.slice va x.rows.length vc)
        unfold put3 at z0 z1 z2 zlow zown
        have HMAY := hide hmay
        clear hmay hkd HROW
        go_wp2_with fail
        exact bodyPost_ret (v := .agg #[.int .i64 x.kind, .int .i64 x.n, .slice va x.rows.length vc]) (by simp [results, Tryd.results32, go_sem, z0, z1, z2]) rfl ⟨_, rfl, x, unhide HMAY, ⟨_, rfl, zown⟩, zlow⟩
      have g3 : (k : Int) < 20 := by omega
      obtain ⟨b, off, rfl, hbl, e1, e2⟩ := (unhide HROW).at k q1
      obtain ⟨u1, u2⟩ := unhide HSZ k q1
      rw [← hlow.cell (p := ⟨b, off + k * 2, none⟩) hbl] at e1
      have e2' : ∀ o, (wr.alloc o).cell? ⟨b, off + k * 2 + 1, none⟩ = some (.string (S (rows[k]'q1).2)) := fun o => by
        rw [(under_box o).cell (p := ⟨b, off + k * 2 + 1, none⟩) (by have := hlow.size; show b < wr.heap.size; omega), hlow.cell (p := ⟨b, off + k * 2 + 1, none⟩) hbl]
        exact e2
      clear e2
      have e2 := e2'
      have hne : wr.heap.size ≠ b := by have := hlow.size; omega
      have HC1 := hide (fun (wy : World) => cut_any (S (rows[k]'q1).1) 24 wy u1)
      have HC2 := hide (fun (wy : World) => cut_any (S (rows[k]'q1).2) 24 wy u2)
      have e24 : ((24 : Nat) : Int) = 24 := rfl
      rw [e24] at HC1 HC2
      generalize (rows[k]'q1).1 = kk at *
      generalize (rows[k]'q1).2 = vv at *
      generalize (S kk).data.toList.take 24 = p at *
      generalize (S vv).data.toList.take 24 = q' at *
      have hi0 : (0 : Int) ≤ (k : Int) := by omega
      have HMAY := hide hmay
      have HKD := hide hkd
      have hfA : ∀ o, (wr.alloc o).cell? ⟨w.heap.size, 2, none⟩ = some (.slice (some ⟨b, off, none⟩) rows.length c) := fun o => ((unhide HTY).later (under_box o)).facts.1.2
      have hxA0 : ∀ o, (wr.alloc o).cell? ⟨w.heap.size + 1 + 1, 0, none⟩ = some (.int .i64 x.kind) := fun o => ((unhide HTY).later (under_box o)).facts.2.1.1
      have hxA1 : ∀ o, (wr.alloc o).cell? ⟨w.heap.size + 1 + 1, 1, none⟩ = some (.int .i64 x.n) := fun o => ((unhide HTY).later (under_box o)).facts.2.1.2.1
      have hxA2 : ∀ o, (wr.alloc o).cell? ⟨w.heap.size + 1 + 1, 2, none⟩ = some (.slice va x.rows.length vc) := fun o => ((unhide HTY).later (under_box o)).facts.2.1.2.2
      clear hmay hkd hlow HROW HSZ e2'
      by_cases h5 : x.kind = 5
      · have e5 : (x.kind == 5) = true := by rw [beq_iff_eq]; exact h5
        obtain ⟨Y, hY⟩ : ∃ Y, x.rwith (p, q') = Y := ⟨_, rfl⟩
        have HYN : Hid (Y.n = x.n) := by show _ = _; rw [← hY]; rfl
        have HYK : Hid (Y.kind = (T : Int)) := by show _ = _; rw [← hY]; exact unhide HKD
        have HWI := hide (fun (o : Obj) => rwith_any ((unhide HTY).later (under_box o)).at (by omega) (p, q'))
        rw [hY] at HWI
        dsimp only at HWI
        clear h5 hY
        go_wp2_with fail
        refine (unhide HC1 _).mono ?_
        rintro e w1 ⟨rfl, hww⟩
        have hww2 := hww.symm
        subst hww2
        go_wp2_with fail
        refine (unhide HC2 _).mono ?_
        rintro e w1' ⟨rfl, hww⟩
        have hww2 := hww.symm
        subst hww2
        go_wp2_with fail
        refine (unhide HWI _).mono ?_
        rintro e w2 ⟨vy, rfl, hoy, hb2⟩
        rw [World.size_alloc] at hoy hb2
        have hs2 : wr.heap.size + 1 ≤ w2.heap.size := by have := hb2.size; rwa [World.size_alloc] at this
        have hl2 : Below wr.heap.size wr w2 := (under_box _).trans (hb2.mono (by omega))
        obtain ⟨ky, rfl, hry⟩ := hoy
        obtain ⟨ya, yc, rfl, _⟩ := ownsRow_slice hry
        have HRY := hide hry
        have HTY2 := hide ((unhide HTY).later hl2)
        have HCH := hide (fun (o : Obj) => rcheck_any (w := w2.alloc o) (v := .agg #[.int .i64 Y.kind, .int .i64 Y.n, .slice ya Y.rows.length yc]) (s := Y) ⟨_, rfl, (Row2.of_own hry).later (under_box o)⟩)
        clear hry hb2 hl2 HWI HTY f0 f1 x0 x1 x2 ff e1 e2
        go_wp2_with fail
        refine (unhide HCH _).mono ?_
        rintro e w3 ⟨rfl, hb3⟩
        rw [World.size_alloc] at hb3
        obtain ⟨b0, b1, b2, hz3, hl3⟩ := box3 hb3
        have HTY3 := hide ((unhide HTY2).later hl3)
        obtain ⟨⟨f0, f1⟩, ⟨x0, x1, x2⟩, ff⟩ := (unhide HTY3).facts
        have HRY3 := hide (ownsRow_less (ownsRow_below (unhide HRY) hl3) (show w.heap.size + 1 + 1 + 1 ≤ wr.heap.size + 1 by have := unhide HWS; omega))
        clear hb3 hl3 HCH HTY2 HRY
        obtain ⟨z, hz⟩ : ∃ z, Y.check = z := ⟨_, rfl⟩
        have HZ := hide hz
        rw [hz]
        clear hz
        by_cases hz0 : z = 0
        · have ez : (z == 0) = true := by rw [hz0]; rfl
          have HN := hide ((unhide HTY3).put (unhide HRY3))
          have HMY : Hid (Y.may) := ⟨by rw [unhide HZ]; exact hz0, by rw [unhide HYN]; exact (unhide HMAY).2⟩
          clear hz0
          go_wp2_with fail
          go_roundw
          case rel => exact ⟨k + 1, _, _, by omega, by go_num, unhide HMY, unhide HYK, unhide HN⟩
          case measure => simp [intOf]; omega
        · have ez : (z == 0) = false := by rw [beq_eq_false_iff_ne]; exact hz0
          clear hz0
          go_wp2_with fail
          go_roundw
          case rel => exact ⟨k + 1, x, _, by omega, by go_num, unhide HMAY, unhide HKD, unhide HTY3⟩
          case measure => simp [intOf]; omega
      · have e5 : (x.kind == 5) = false := by rw [beq_eq_false_iff_ne]; exact h5
        obtain ⟨Y, hY⟩ : ∃ Y, x.rwith (p, []) = Y := ⟨_, rfl⟩
        have HYN : Hid (Y.n = x.n) := by show _ = _; rw [← hY]; rfl
        have HYK : Hid (Y.kind = (T : Int)) := by show _ = _; rw [← hY]; exact unhide HKD
        have HWI := hide (fun (o : Obj) => rwith_any ((unhide HTY).later (under_box o)).at (by omega) (p, []))
        rw [hY] at HWI
        dsimp only at HWI
        rw [show S [] = (⟨#[]⟩ : ByteArray) from rfl] at HWI
        clear h5 hY
        go_wp2_with fail
        refine (unhide HC1 _).mono ?_
        rintro e w1 ⟨rfl, hww⟩
        have hww2 := hww.symm
        subst hww2
        go_wp2_with fail
        refine (unhide HWI _).mono ?_
        rintro e w2 ⟨vy, rfl, hoy, hb2⟩
        rw [World.size_alloc] at hoy hb2
        have hs2 : wr.heap.size + 1 ≤ w2.heap.size := by have := hb2.size; rwa [World.size_alloc] at this
        have hl2 : Below wr.heap.size wr w2 := (under_box _).trans (hb2.mono (by omega))
        obtain ⟨ky, rfl, hry⟩ := hoy
        obtain ⟨ya, yc, rfl, _⟩ := ownsRow_slice hry
        have HRY := hide hry
        have HTY2 := hide ((unhide HTY).later hl2)
        have HCH := hide (fun (o : Obj) => rcheck_any (w := w2.alloc o) (v := .agg #[.int .i64 Y.kind, .int .i64 Y.n, .slice ya Y.rows.length yc]) (s := Y) ⟨_, rfl, (Row2.of_own hry).later (under_box o)⟩)
        clear hry hb2 hl2 HWI HTY f0 f1 x0 x1 x2 ff e1 e2
        go_wp2_with fail
        refine (unhide HCH _).mono ?_
        rintro e w3 ⟨rfl, hb3⟩
        rw [World.size_alloc] at hb3
        obtain ⟨b0, b1, b2, hz3, hl3⟩ := box3 hb3
        have HTY3 := hide ((unhide HTY2).later hl3)
        obtain ⟨⟨f0, f1⟩, ⟨x0, x1, x2⟩, ff⟩ := (unhide HTY3).facts
        have HRY3 := hide (ownsRow_less (ownsRow_below (unhide HRY) hl3) (show w.heap.size + 1 + 1 + 1 ≤ wr.heap.size + 1 by have := unhide HWS; omega))
        clear hb3 hl3 HCH HTY2 HRY
        obtain ⟨z, hz⟩ : ∃ z, Y.check = z := ⟨_, rfl⟩
        have HZ := hide hz
        rw [hz]
        clear hz
        by_cases hz0 : z = 0
        · have ez : (z == 0) = true := by rw [hz0]; rfl
          have HN := hide ((unhide HTY3).put (unhide HRY3))
          have HMY : Hid (Y.may) := ⟨by rw [unhide HZ]; exact hz0, by rw [unhide HYN]; exact (unhide HMAY).2⟩
          clear hz0
          go_wp2_with fail
          go_roundw
          case rel => exact ⟨k + 1, _, _, by omega, by go_num, unhide HMY, unhide HYK, unhide HN⟩
          case measure => simp [intOf]; omega
        · have ez : (z == 0) = false := by rw [beq_eq_false_iff_ne]; exact hz0
          clear hz0
          go_wp2_with fail
          go_roundw
          case rel => exact ⟨k + 1, x, _, by omega, by go_num, unhide HMAY, unhide HKD, unhide HTY3⟩
          case measure => simp [intOf]; omega
  · go_enter Tryd.func32, Tryd.ntmps32
    go_wp2_with fail
    go_loopw [5] (fun i wr => ∃ (k : Nat) (x : VS) (v : Value), k ≤ 20 ∧ i = .int .i64 (k : Int) ∧ x.may ∧ x.kind = (T : Int) ∧ Ty w kr n (.slice a rows.length c) x v wr) (fun i _ => 20 - (intOf i).toNat)
    case atStart => exact ⟨0, _, _, Nat.zero_le _, rfl, unhide HM0, rfl, unhide HST⟩
    case round =>
      obtain ⟨k, x, v, hk, rfl, hmay, hkd, hty⟩ := hrel
      obtain ⟨va, vc, rfl, _⟩ := ownsRow_slice hty.own
      have HTY := hide hty
      obtain ⟨⟨f0, f1⟩, ⟨x0, x1, x2⟩, ff⟩ := hty.facts
      have hlow := hty.low
      have hx8 : x.rows.length ≤ 8 := Nat.le_trans (VS.may_rows hmay).1 (VS.most_le x)
      have HWS := hide hty.size
      clear hty HST HM0
      by_cases q1 : k < rows.length
      case neg =>
        have g1 : ¬ (k : Int) < ((rows.length : Nat) : Int) := by omega
        clear hlow
        obtain ⟨z0, z1, z2, zlow, zown, ⟨y0, hy0⟩, ⟨y1, hy1⟩, ⟨y2, hy2⟩, zf⟩ := (unhide HTY).done (.int .i64 x.kind) (.int .i64 x.n) (.slice va x.rows.length vc)
        unfold put3 at z0 z1 z2 zlow zown
        have HMAY := hide hmay
        clear hmay hkd HROW
        go_wp2_with fail
        exact bodyPost_ret (v := .agg #[.int .i64 x.kind, .int .i64 x.n, .slice va x.rows.length vc]) (by simp [results, Tryd.results32, go_sem, z0, z1, z2]) rfl ⟨_, rfl, x, unhide HMAY, ⟨_, rfl, zown⟩, zlow⟩
      have g1 : (k : Int) < ((rows.length : Nat) : Int) := by omega
      by_cases q2 : x.rows.length < 1
      case neg =>
        have g2 : ¬ ((x.rows.length : Nat) : Int) < 1 := by omega
        clear hlow
        obtain ⟨z0, z1, z2, zlow, zown, ⟨y0, hy0⟩, ⟨y1, hy1⟩, ⟨y2, hy2⟩, zf⟩ := (unhide HTY).done (.int .i64 x.kind) (.int .i64 x.n) (.slice va x.rows.length vc)
        unfold put3 at z0 z1 z2 zlow zown
        have HMAY := hide hmay
        clear hmay hkd HROW
        go_wp2_with fail
        exact bodyPost_ret (v := .agg #[.int .i64 x.kind, .int .i64 x.n, .slice va x.rows.length vc]) (by simp [results, Tryd.results32, go_sem, z0, z1, z2]) rfl ⟨_, rfl, x, unhide HMAY, ⟨_, rfl, zown⟩, zlow⟩
      have g2 : ((x.rows.length : Nat) : Int) < 1 := by omega
      by_cases q3 : k < 20
      case neg =>
        have g3 : ¬ (k : Int) < 20 := by omega
        clear hlow
        obtain ⟨z0, z1, z2, zlow, zown, ⟨y0, hy0⟩, ⟨y1, hy1⟩, ⟨y2, hy2⟩, zf⟩ := (unhide HTY).done (.int .i64 x.kind) (.int .i64 x.n) (.slice va x.rows.length vc)
        unfold put3 at z0 z1 z2 zlow zown
        have HMAY := hide hmay
        clear hmay hkd HROW
        go_wp2_with fail
        exact bodyPost_ret (v := .agg #[.int .i64 x.kind, .int .i64 x.n, .slice va x.rows.length vc]) (by simp [results, Tryd.results32, go_sem, z0, z1, z2]) rfl ⟨_, rfl, x, unhide HMAY, ⟨_, rfl, zown⟩, zlow⟩
      have g3 : (k : Int) < 20 := by omega
      obtain ⟨b, off, rfl, hbl, e1, e2⟩ := (unhide HROW).at k q1
      obtain ⟨u1, u2⟩ := unhide HSZ k q1
      rw [← hlow.cell (p := ⟨b, off + k * 2, none⟩) hbl] at e1
      have e2' : ∀ o, (wr.alloc o).cell? ⟨b, off + k * 2 + 1, none⟩ = some (.string (S (rows[k]'q1).2)) := fun o => by
        rw [(under_box o).cell (p := ⟨b, off + k * 2 + 1, none⟩) (by have := hlow.size; show b < wr.heap.size; omega), hlow.cell (p := ⟨b, off + k * 2 + 1, none⟩) hbl]
        exact e2
      clear e2
      have e2 := e2'
      have hne : wr.heap.size ≠ b := by have := hlow.size; omega
      have HC1 := hide (fun (wy : World) => cut_any (S (rows[k]'q1).1) 24 wy u1)
      have HC2 := hide (fun (wy : World) => cut_any (S (rows[k]'q1).2) 24 wy u2)
      have e24 : ((24 : Nat) : Int) = 24 := rfl
      rw [e24] at HC1 HC2
      generalize (rows[k]'q1).1 = kk at *
      generalize (rows[k]'q1).2 = vv at *
      generalize (S kk).data.toList.take 24 = p at *
      generalize (S vv).data.toList.take 24 = q' at *
      have hi0 : (0 : Int) ≤ (k : Int) := by omega
      have HMAY := hide hmay
      have HKD := hide hkd
      have hfA : ∀ o, (wr.alloc o).cell? ⟨w.heap.size, 2, none⟩ = some (.slice (some ⟨b, off, none⟩) rows.length c) := fun o => ((unhide HTY).later (under_box o)).facts.1.2
      have hxA0 : ∀ o, (wr.alloc o).cell? ⟨w.heap.size + 1 + 1, 0, none⟩ = some (.int .i64 x.kind) := fun o => ((unhide HTY).later (under_box o)).facts.2.1.1
      have hxA1 : ∀ o, (wr.alloc o).cell? ⟨w.heap.size + 1 + 1, 1, none⟩ = some (.int .i64 x.n) := fun o => ((unhide HTY).later (under_box o)).facts.2.1.2.1
      have hxA2 : ∀ o, (wr.alloc o).cell? ⟨w.heap.size + 1 + 1, 2, none⟩ = some (.slice va x.rows.length vc) := fun o => ((unhide HTY).later (under_box o)).facts.2.1.2.2
      clear hmay hkd hlow HROW HSZ e2'
      by_cases h5 : x.kind = 5
      · have e5 : (x.kind == 5) = true := by rw [beq_iff_eq]; exact h5
        obtain ⟨Y, hY⟩ : ∃ Y, x.rwith (p, q') = Y := ⟨_, rfl⟩
        have HYN : Hid (Y.n = x.n) := by show _ = _; rw [← hY]; rfl
        have HYK : Hid (Y.kind = (T : Int)) := by show _ = _; rw [← hY]; exact unhide HKD
        have HWI := hide (fun (o : Obj) => rwith_any ((unhide HTY).later (under_box o)).at (by omega) (p, q'))
        rw [hY] at HWI
        dsimp only at HWI
        clear h5 hY
        go_wp2_with fail
        refine (unhide HC1 _).mono ?_
        rintro e w1 ⟨rfl, hww⟩
        have hww2 := hww.symm
        subst hww2
        go_wp2_with fail
        refine (unhide HC2 _).mono ?_
        rintro e w1' ⟨rfl, hww⟩
        have hww2 := hww.symm
        subst hww2
        go_wp2_with fail
        refine (unhide HWI _).mono ?_
        rintro e w2 ⟨vy, rfl, hoy, hb2⟩
        rw [World.size_alloc] at hoy hb2
        have hs2 : wr.heap.size + 1 ≤ w2.heap.size := by have := hb2.size; rwa [World.size_alloc] at this
        have hl2 : Below wr.heap.size wr w2 := (under_box _).trans (hb2.mono (by omega))
        obtain ⟨ky, rfl, hry⟩ := hoy
        obtain ⟨ya, yc, rfl, _⟩ := ownsRow_slice hry
        have HRY := hide hry
        have HTY2 := hide ((unhide HTY).later hl2)
        have HCH := hide (fun (o : Obj) => rcheck_any (w := w2.alloc o) (v := .agg #[.int .i64 Y.kind, .int .i64 Y.n, .slice ya Y.rows.length yc]) (s := Y) ⟨_, rfl, (Row2.of_own hry).later (under_box o)⟩)
        clear hry hb2 hl2 HWI HTY f0 f1 x0 x1 x2 ff e1 e2
        go_wp2_with fail
        refine (unhide HCH _).mono ?_
        rintro e w3 ⟨rfl, hb3⟩
        rw [World.size_alloc] at hb3
        obtain ⟨b0, b1, b2, hz3, hl3⟩ := box3 hb3
        have HTY3 := hide ((unhide HTY2).later hl3)
        obtain ⟨⟨f0, f1⟩, ⟨x0, x1, x2⟩, ff⟩ := (unhide HTY3).facts
        have HRY3 := hide (ownsRow_less (ownsRow_below (unhide HRY) hl3) (show w.heap.size + 1 + 1 + 1 ≤ wr.heap.size + 1 by have := unhide HWS; omega))
        clear hb3 hl3 HCH HTY2 HRY
        obtain ⟨z, hz⟩ : ∃ z, Y.check = z := ⟨_, rfl⟩
        have HZ := hide hz
        rw [hz]
        clear hz
        by_cases hz0 : z = 0
        · have ez : (z == 0) = true := by rw [hz0]; rfl
          have HN := hide ((unhide HTY3).put (unhide HRY3))
          have HMY : Hid (Y.may) := ⟨by rw [unhide HZ]; exact hz0, by rw [unhide HYN]; exact (unhide HMAY).2⟩
          clear hz0
          go_wp2_with fail
          go_roundw
          case rel => exact ⟨k + 1, _, _, by omega, by go_num, unhide HMY, unhide HYK, unhide HN⟩
          case measure => simp [intOf]; omega
        · have ez : (z == 0) = false := by rw [beq_eq_false_iff_ne]; exact hz0
          clear hz0
          go_wp2_with fail
          go_roundw
          case rel => exact ⟨k + 1, x, _, by omega, by go_num, unhide HMAY, unhide HKD, unhide HTY3⟩
          case measure => simp [intOf]; omega
      · have e5 : (x.kind == 5) = false := by rw [beq_eq_false_iff_ne]; exact h5
        obtain ⟨Y, hY⟩ : ∃ Y, x.rwith (p, []) = Y := ⟨_, rfl⟩
        have HYN : Hid (Y.n = x.n) := by show _ = _; rw [← hY]; rfl
        have HYK : Hid (Y.kind = (T : Int)) := by show _ = _; rw [← hY]; exact unhide HKD
        have HWI := hide (fun (o : Obj) => rwith_any ((unhide HTY).later (under_box o)).at (by omega) (p, []))
        rw [hY] at HWI
        dsimp only at HWI
        rw [show S [] = (⟨#[]⟩ : ByteArray) from rfl] at HWI
        clear h5 hY
        go_wp2_with fail
        refine (unhide HC1 _).mono ?_
        rintro e w1 ⟨rfl, hww⟩
        have hww2 := hww.symm
        subst hww2
        go_wp2_with fail
        refine (unhide HWI _).mono ?_
        rintro e w2 ⟨vy, rfl, hoy, hb2⟩
        rw [World.size_alloc] at hoy hb2
        have hs2 : wr.heap.size + 1 ≤ w2.heap.size := by have := hb2.size; rwa [World.size_alloc] at this
        have hl2 : Below wr.heap.size wr w2 := (under_box _).trans (hb2.mono (by omega))
        obtain ⟨ky, rfl, hry⟩ := hoy
        obtain ⟨ya, yc, rfl, _⟩ := ownsRow_slice hry
        have HRY := hide hry
        have HTY2 := hide ((unhide HTY).later hl2)
        have HCH := hide (fun (o : Obj) => rcheck_any (w := w2.alloc o) (v := .agg #[.int .i64 Y.kind, .int .i64 Y.n, .slice ya Y.rows.length yc]) (s := Y) ⟨_, rfl, (Row2.of_own hry).later (under_box o)⟩)
        clear hry hb2 hl2 HWI HTY f0 f1 x0 x1 x2 ff e1 e2
        go_wp2_with fail
        refine (unhide HCH _).mono ?_
        rintro e w3 ⟨rfl, hb3⟩
        rw [World.size_alloc] at hb3
        obtain ⟨b0, b1, b2, hz3, hl3⟩ := box3 hb3
        have HTY3 := hide ((unhide HTY2).later hl3)
        obtain ⟨⟨f0, f1⟩, ⟨x0, x1, x2⟩, ff⟩ := (unhide HTY3).facts
        have HRY3 := hide (ownsRow_less (ownsRow_below (unhide HRY) hl3) (show w.heap.size + 1 + 1 + 1 ≤ wr.heap.size + 1 by have := unhide HWS; omega))
        clear hb3 hl3 HCH HTY2 HRY
        obtain ⟨z, hz⟩ : ∃ z, Y.check = z := ⟨_, rfl⟩
        have HZ := hide hz
        rw [hz]
        clear hz
        by_cases hz0 : z = 0
        · have ez : (z == 0) = true := by rw [hz0]; rfl
          have HN := hide ((unhide HTY3).put (unhide HRY3))
          have HMY : Hid (Y.may) := ⟨by rw [unhide HZ]; exact hz0, by rw [unhide HYN]; exact (unhide HMAY).2⟩
          clear hz0
          go_wp2_with fail
          go_roundw
          case rel => exact ⟨k + 1, _, _, by omega, by go_num, unhide HMY, unhide HYK, unhide HN⟩
          case measure => simp [intOf]; omega
        · have ez : (z == 0) = false := by rw [beq_eq_false_iff_ne]; exact hz0
          clear hz0
          go_wp2_with fail
          go_roundw
          case rel => exact ⟨k + 1, x, _, by omega, by go_num, unhide HMAY, unhide HKD, unhide HTY3⟩
          case measure => simp [intOf]; omega
end Go.Proofs.YteaiidcconggcaaDoor
