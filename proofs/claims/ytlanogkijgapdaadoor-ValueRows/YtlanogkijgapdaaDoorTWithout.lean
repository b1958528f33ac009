/- The contracts of a state's Without, and of adt's without, written, plus. -/
import Derived.Test.YtlanogkijgapdaaDoorTFind
import Derived.Test.YtlanogkijgapdaaDoorTClone
import Derived.Test.YtlanogkijgapdaaDoorVWith
namespace Go.Proofs.YtlanogkijgapdaaDoor
open Go.RowKit
set_option linter.unusedVariables false
set_option maxRecDepth 100000

/- A box of three cells is written, and all that is behind it stays. -/
theorem give3 {w w1 : World} {N : Nat} {a b c : Value} {t : TypeId} (hl : Below w.heap.size w w1) (hN : w.heap.size ≤ N) (hh : w1.heap[N]? = some (.cells #[a, b, c] t (0, 0))) (x y z : Value) :
    (put3 w1 N x y z).cell? ⟨N, 0, none⟩ = some x ∧ (put3 w1 N x y z).cell? ⟨N, 1, none⟩ = some y ∧ (put3 w1 N x y z).cell? ⟨N, 2, none⟩ = some z ∧ Below w.heap.size w (put3 w1 N x y z) ∧
    (∀ (base k : Nat) (u : Value) (nn : Nat) (xs : List Value) (e : TypeId), N < base → w1.ownsRow base e k u nn xs → (put3 w1 N x y z).ownsRow w.heap.size e k u nn xs) ∧
    w1.cell? ⟨N, 0, none⟩ = some a ∧ w1.cell? ⟨N, 1, none⟩ = some b ∧ w1.cell? ⟨N, 2, none⟩ = some c ∧ ∀ j, w1.frozen? ⟨N, j, none⟩ = false := by
  obtain ⟨p0, p1, p2⟩ := put3_cells hh x y z
  refine ⟨p0, p1, p2, ⟨hl.os, hl.tape, hl.output, by rw [put3_size]; exact hl.size, fun j hj => ?_⟩, fun base k u nn xs e hbs hu => ownsRow_less (ownsRow_same hu fun j hj => ?_) (by omega), by rw [block_cell hh]; rfl, by rw [block_cell hh]; rfl, by rw [block_cell hh]; rfl, fun j => block_frozen hh j⟩
  · rw [put3_other _ _ _ _ (by omega)]; exact hl.block j hj
  · have := (hu.lt j hj).1
    rw [put3_other _ _ _ _ (by omega)]
theorem vlow_one {w wr : World} {B : Nat} (h : Below B w wr) (hB : B ≤ wr.heap.size) (o : Obj) : Below B w ((wr.alloc o).drew) := (h.alloc hB o).drew
theorem B2.drew' {w w1 : World} {A B : Obj} (h : B2 w A B w1) : B2 w A B w1.drew := Below.drew h
theorem B2.on {w w1 w2 : World} {A B : Obj} (h : B2 w A B w1) (hb : Below w1.heap.size w1 w2) : B2 w A B w2 := by
  have hs := Below.size h
  rw [World.size_alloc, World.size_alloc] at hs
  exact Below.trans h (hb.mono hs)

set_option maxHeartbeats 6400000 in
theorem vwithout_any {base : Nat} {w : World} {v : Value} {s : VS} (h : StOwn base 47 w v s) (hs : s.rows.length ≤ 1000) (P : Nat) (hP : P < s.rows.length) :
    Calls Tryd.prog 23 #[v, .int .i64 (P : Int)] w fun e w' => ∃ v', e = .returned v' ∧ StOwn w.heap.size 47 w' v' (s.without P) ∧ Below w.heap.size w w' := by
  have hr := h.at
  obtain ⟨k, rfl, hr⟩ := hr
  obtain ⟨a, c, rfl, hc, hm⟩ := hr.shape
  unfold maxLen at hm
  obtain ⟨kd, n, rows⟩ := s
  unfold VS.without
  dsimp only at *
  obtain ⟨a1, c1, hs1, hr1⟩ := hr.ahead P (by omega)
  obtain ⟨Q, hQ⟩ : ∃ Q, P + 1 = Q := ⟨_, rfl⟩
  rw [List.eraseIdx_eq_take_drop_succ, hQ]
  obtain ⟨a2, c2, hs2, hr2⟩ := hr.behind Q (by omega)
  obtain ⟨Dn, hDn⟩ : ∃ Dn, rows.length - Q = Dn := ⟨_, rfl⟩
  rw [hDn] at hs2 hr2
  have HC := hide (fun (w1 : World) (hb : Below w.heap.size w w1) (q : Nat) hq => vconcat2 (b := q) (l1 := rows.take P) (l2 := rows.drop Q) hq (hr1.later hb) (hr2.later hb) (by simp; omega))
  generalize rows.take P ++ rows.drop Q = L at *
  obtain ⟨A, hA⟩ : ∃ A : Obj, A = .cells #[.int .i64 kd, .int .i64 n, .slice a rows.length c] 24 (0, 0) := ⟨_, rfl⟩
  obtain ⟨B, hB⟩ : ∃ B : Obj, B = .cells #[.int .i64 0, .int .i64 0, .slice none 0 0] 24 (0, 0) := ⟨_, rfl⟩
  have HST := hide (B2.start w A B)
  have e0 : (0 : Int) ≤ (P : Int) := by omega
  have e1 : ¬ (P : Int) < 0 := by omega
  have e2 : ¬ ((rows.length : Nat) : Int) ≤ (P : Int) := by omega
  have e3 : (P : Int) ≤ ((rows.length : Nat) : Int) := by omega
  have hw1 : IntKind.i64.wrap ((P : Int) + 1) = (Q : Int) := by rw [IntKind.wrap_i64]; omega
  have e4 : (Q : Int) ≤ ((rows.length : Nat) : Int) := by omega
  have e5 : (0 : Int) ≤ (Q : Int) := by omega
  clear hr hr1 hr2 h hDn hP hs hQ
  go_enter Tryd.func23, Tryd.ntmps23
  go_upto_region 3 with fail
  obtain ⟨Wr, hWr⟩ : ∃ Wr, ((w.alloc (.cells #[.int .i64 kd, .int .i64 n, .slice a rows.length c] 24)).alloc (.cells #[.int .i64 0, .int .i64 0, .slice none 0 0] 24)) = Wr := ⟨_, rfl⟩
  rw [hWr]
  rw [hA, hB, hWr] at HST
  subst hA hB
  clear hWr
  obtain ⟨⟨p0, p1, p2⟩, ⟨r0, r1, r2⟩, f2, f3⟩ := (unhide HST).facts
  have q2 := fun o => ((unhide HST).on (under_box o)).facts.1.2.2
  have HLR := hide (unhide HST).low
  have HLS := hide (unhide HST).low.size
  go_cut [] (fun wx => ∃ wk ka kc, wx = wk.setCell ⟨w.heap.size, 2, none⟩ (.slice ka L.length kc) ∧ B2 w (.cells #[.int .i64 kd, .int .i64 n, .slice a rows.length c] 24 (0, 0)) (.cells #[.int .i64 0, .int .i64 0, .slice none 0 0] 24 (0, 0)) wk ∧ wk.ownsRow (w.heap.size + 1 + 1) 47 2 (.slice ka L.length kc) L.length (R9 L))
  case first =>
    go_region_with (go_at_call 53; refine (unhide HC _ (vlow_one (unhide HLR) (unhide HLS) _) _ (by exact valloc_new (by simp))).mono ?_; rintro e wk ⟨kv, rfl, hok, hbk⟩; obtain ⟨ka, kc, rfl, _⟩ := ownsRow_slice hok; have HOK := hide (ownsRow_less hok (show w.heap.size + 1 + 1 ≤ _ by have := (unhide HST).blocks.2.2; simp; omega)); have HW3 := hide ((unhide HST).on ((vlow_one (Below.refl _ _) (Nat.le_refl _) _).trans (hbk.mono (by simp)))); obtain ⟨⟨u0, u1, u2⟩, _, g2, g3⟩ := (unhide HW3).facts; clear hok hbk)
    all_goals go_wp2_with fail
    all_goals go_meet
    all_goals exact ⟨wk, ka, kc, rfl, unhide HW3, unhide HOK⟩
  case rest =>
  obtain ⟨wk, ka, kc, rfl, hW3, hok⟩ := hcut
  clear p0 p1 p2 r0 r1 r2 f2 f3 q2
  obtain ⟨⟨u0, u1, u2⟩, ⟨y0, y1, y2⟩, g2, g3⟩ := hW3.facts
  obtain ⟨z0, z1, z2, zlow, zown⟩ := hW3.done 2 (.slice ka L.length kc) (.int .i64 kd) (.int .i64 n) (.slice ka L.length kc)
  have hown := zown _ _ _ _ _ (by omega) hok
  unfold put3 at z0 z1 z2 zlow hown
  clear hW3 zown hok
  go_wp2_with fail
  exact bodyPost_ret (v := .agg #[.int .i64 kd, .int .i64 n, .slice ka L.length kc]) (by simp [results, Tryd.results23, go_sem, z0, z1, z2]) rfl ⟨_, rfl, ⟨_, rfl, hown⟩, zlow⟩
end Go.Proofs.YtlanogkijgapdaaDoor
