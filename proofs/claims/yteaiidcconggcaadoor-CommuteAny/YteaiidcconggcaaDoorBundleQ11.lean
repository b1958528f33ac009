/- Texts that this proof needs, one behind the other: QOwn, QAwake. -/
import Derived.Test.YteaiidcconggcaaDoorQSmall
import Derived.Test.YteaiidcconggcaaDoorBundleT7
import Derived.Test.YteaiidcconggcaaDoorBundleT10
import Derived.Test.YteaiidcconggcaaDoorVLike
import Derived.Test.YteaiidcconggcaaDoorBundleA8
import Derived.Test.YteaiidcconggcaaDoorBundleQ9
/- The contracts of law 14's Own and of the document's Commute. -/
namespace Go.Proofs.YteaiidcconggcaaDoor
open Go.RowKit
set_option linter.unusedVariables false
set_option maxRecDepth 100000

def put7 (w : World) (N : Nat) (a b c d e f g : Value) : World := putL w N 0 [a, b, c, d, e, f, g]
theorem put7_cells {w : World} {N : Nat} {a0 b0 c0 d0 e0 f0 g0 : Value} {t : TypeId} (h : w.heap[N]? = some (.cells #[a0, b0, c0, d0, e0, f0, g0] t (0, 0))) (a b c d e f g : Value) : (put7 w N a b c d e f g).heap[N]? = some (.cells #[a, b, c, d, e, f, g] t (0, 0)) :=
  putL_all (ys := [a0, b0, c0, d0, e0, f0, g0]) rfl h
structure Ow (w : World) (A B : Obj) (w' : World) : Prop where
  low : Below w.heap.size w w'
  a : w'.heap[w.heap.size]? = some A
  b : w'.heap[w.heap.size + 1]? = some B
  far : w.heap.size + 1 + 1 ≤ w'.heap.size
section
variable {w w1 w2 : World} {A B C : Obj}
theorem Ow.start (w : World) (A B C : Obj) : Ow w A B (((w.alloc A).alloc B).alloc C) := by
  have h2 := under_two w A B
  refine ⟨h2.alloc h2.size C, ?_, ?_, by simp⟩
  · rw [Below.heap_alloc _ _ _ (by simp; omega), Below.heap_alloc _ _ _ (by simp)]; exact heap_alloc_new w A
  · rw [Below.heap_alloc _ _ _ (by simp)]
    have := heap_alloc_new (w.alloc A) B
    rwa [World.size_alloc] at this
theorem Ow.below (h : Ow w A B w1) (hb : Below w1.heap.size w1 w2) : Ow w A B w2 := ⟨h.low.trans (hb.mono h.low.size), (hb.block _ (by have := h.far; omega)).trans h.a, (hb.block _ (by have := h.far; omega)).trans h.b, Nat.le_trans h.far hb.size⟩
theorem Ow.drew (h : Ow w A B w1) : Ow w A B w1.drew := h.below ((Below.refl _ _).drew)
theorem Ow.set7 (h : Ow w A B w1) (a b c d e f g : Value) : Ow w A B (put7 w1 (w.heap.size + 1 + 1) a b c d e f g) := by
  obtain ⟨r1, r2, r3⟩ := putL_rest (q := w.heap.size + 1 + 1) [a, b, c, d, e, f, g] w1 0
  have ho : ∀ j, j ≠ w.heap.size + 1 + 1 → (put7 w1 (w.heap.size + 1 + 1) a b c d e f g).heap[j]? = w1.heap[j]? := fun j hj => putL_other hj _ _ _
  have hs : (put7 w1 (w.heap.size + 1 + 1) a b c d e f g).heap.size = w1.heap.size := putL_size _ _ _
  exact ⟨⟨r1.trans h.low.os, r2.trans h.low.tape, r3.trans h.low.output, by rw [hs]; exact h.low.size, fun j hj => by rw [ho j (by omega)]; exact h.low.block j hj⟩, by rw [ho _ (by omega)]; exact h.a, by rw [ho _ (by omega)]; exact h.b, by rw [hs]; exact h.far⟩
theorem Ow.acells {a b c d : Value} {t : TypeId} (hA : A = .cells #[a, b, c, d] t (0, 0)) : (∀ w1, Ow w A B w1 → w1.cell? ⟨w.heap.size, 0, none⟩ = some a) ∧ (∀ w1, Ow w A B w1 → w1.cell? ⟨w.heap.size, 1, none⟩ = some b) ∧ (∀ w1, Ow w A B w1 → w1.cell? ⟨w.heap.size, 2, none⟩ = some c) ∧ (∀ w1, Ow w A B w1 → w1.cell? ⟨w.heap.size, 3, none⟩ = some d) := by
  refine ⟨fun w1 h => ?_, fun w1 h => ?_, fun w1 h => ?_, fun w1 h => ?_⟩ <;> (have h2 := h.a; rw [hA] at h2; rw [block_cell h2]; rfl)
theorem Ow.bcells {a b c : Value} {t : TypeId} (hB : B = .cells #[a, b, c] t (0, 0)) : (∀ w1, Ow w A B w1 → w1.cell? ⟨w.heap.size + 1, 0, none⟩ = some a) ∧ (∀ w1, Ow w A B w1 → w1.cell? ⟨w.heap.size + 1, 1, none⟩ = some b) ∧ (∀ w1, Ow w A B w1 → w1.cell? ⟨w.heap.size + 1, 2, none⟩ = some c) := by
  refine ⟨fun w1 h => ?_, fun w1 h => ?_, fun w1 h => ?_⟩ <;> (have h2 := h.b; rw [hB] at h2; rw [block_cell h2]; rfl)
end
set_option maxHeartbeats 6400000 in
theorem lown_any {w : World} (c : MC) (r : MR) : Calls Tryd.prog 13 #[mcV c, mrV r] w fun e w' => e = .returned (stV (c, r)) ∧ Below w.heap.size w w' := by
  have HO := hide (fun wz : World => mown_any (w := wz) c)
  obtain ⟨op, a, b, n⟩ := c
  obtain ⟨k, t, m⟩ := r
  unfold mcV mrV stV at *
  dsimp only at *
  obtain ⟨A, hA⟩ : ∃ A : Obj, A = .cells #[.int .i64 op, .string (S a), .string (S b), .int .i64 n] 29 (0, 0) := ⟨_, rfl⟩
  obtain ⟨B, hB⟩ : ∃ B : Obj, B = .cells #[.int .i64 k, .string (S t), .int .i64 m] 30 (0, 0) := ⟨_, rfl⟩
  obtain ⟨C, hC⟩ : ∃ C : Obj, C = .cells #[.int .i64 0, .string ⟨#[]⟩, .string ⟨#[]⟩, .int .i64 0, .int .i64 0, .string ⟨#[]⟩, .int .i64 0] 41 (0, 0) := ⟨_, rfl⟩
  have hst : Ow w A B (((w.alloc A).alloc B).alloc C) := Ow.start w A B C
  have hc0 : (((w.alloc A).alloc B).alloc C).heap[w.heap.size + 1 + 1]? = some C := by
    have := heap_alloc_new ((w.alloc A).alloc B) C
    rwa [World.size_alloc, World.size_alloc] at this
  obtain ⟨a0, a1, a2, a3⟩ := Ow.acells (w := w) (A := A) (B := B) hA
  obtain ⟨b0, b1, b2⟩ := Ow.bcells (w := w) (A := A) (B := B) hB
  have hstd := hst.drew
  go_enter Tryd.func13, Tryd.ntmps13
  go_upto_region 1 with fail
  rw [← hA, ← hB, ← hC]
  obtain ⟨W, hW⟩ : ∃ W, ((w.alloc A).alloc B).alloc C = W := ⟨_, rfl⟩
  rw [hW] at hst hc0 hstd ⊢
  clear hW hA hB
  refine wp_region_held_drew (S := fun w' => Ow w A B w') (by kernel_rfl) ?_ (fun hHeld => ?_)
  · exact hstd
  refine wpAnyH_take (i := 0) (oi := { dst := some 5, op := _, type := _, pos := _, after := _, guard := _ }) (v := ?_) rfl (by kernel_rfl) (by kernel_rfl) (by kernel_rfl) (fun _ _ _ h => h) (Or.inl ⟨by kernel_rfl, ?_⟩) (by assumption) ?_
  rotate_left
  · intro w hSw; (try dsimp only at hSw); go_simp; try (with_reducible rfl)
  try simp only [Act.put, List.setIfInBounds_toArray, List.set_cons_zero, List.set_cons_succ]
  refine wpAnyH_take (i := 2) (oi := { dst := some 7, op := _, type := _, pos := _, after := _, guard := _ }) (v := ?_) rfl (by kernel_rfl) (by kernel_rfl) (by kernel_rfl) (fun _ _ _ h => h) (Or.inl ⟨by kernel_rfl, ?_⟩) (by assumption) ?_
  rotate_left
  · intro w hSw; (try dsimp only at hSw); go_simp; try (with_reducible rfl)
  try simp only [Act.put, List.setIfInBounds_toArray, List.set_cons_zero, List.set_cons_succ]
  refine wpAnyH_ready (rs := [1]) (by kernel_rfl) (by simp) ?_
  refine AllReadyH.cons rfl (fun K hK => ?_) AllReadyH.nil
  go_simp
  go_at_call 9
  refine (unhide HO _).mono ?_
  rintro e wm ⟨rfl, hbm⟩
  have hm : Ow w A B wm := hstd.below hbm
  have hcm := (hbm.block (w.heap.size + 1 + 1) (by show _ < W.drew.heap.size; exact block_lt (show W.drew.heap[w.heap.size + 1 + 1]? = some C from hc0))).trans (show W.drew.heap[w.heap.size + 1 + 1]? = some C from hc0)
  rw [hC] at hcm
  obtain ⟨z0, z1, z2, z3, z4, z5, z6⟩ := cells7 hcm
  have zf : ∀ j, wm.frozen? ⟨w.heap.size + 1 + 1, j, none⟩ = false := fun j => block_frozen hcm j
  have hw7 := hm.set7 (.int .i64 op) (.string (S a)) (.string (S b)) (.int .i64 n) (.int .i64 k) (.string (S t)) (.int .i64 m)
  have hz7 := put7_cells hcm (.int .i64 op) (.string (S a)) (.string (S b)) (.int .i64 n) (.int .i64 k) (.string (S t)) (.int .i64 m)
  simp only [put7, putL] at hw7 hz7
  refine hK.out _ _ ?_ (fun hHeld => ?_)
  · exact hm
  clear hK K
  try simp only [Act.put, List.setIfInBounds_toArray, List.set_cons_zero, List.set_cons_succ]
  refine wpAnyH_take (i := 3) (oi := { dst := some 8, op := _, type := _, pos := _, after := _, guard := _ }) (v := ?_) rfl (by kernel_rfl) (by kernel_rfl) (by kernel_rfl) (fun _ _ _ h => h) (Or.inl ⟨by kernel_rfl, ?_⟩) (by assumption) ?_
  rotate_left
  · intro w hSw; (try dsimp only at hSw); go_simp; try (with_reducible rfl)
  try simp only [Act.put, List.setIfInBounds_toArray, List.set_cons_zero, List.set_cons_succ]
  refine wpAnyH_ready (rs := [4]) (by kernel_rfl) (by simp) ?_
  refine AllReadyH.cons rfl (fun K hK => ?_) AllReadyH.nil
  go_simp
  refine hK.out _ _ ?_ (fun hHeld => ?_)
  · exact hw7
  clear hK K
  refine wpAnyH_done (by kernel_rfl) ?_ _
  have HL := hide hw7.low
  obtain ⟨y0, y1, y2, y3, y4, y5, y6⟩ := cells7 hz7
  clear hw7 hz7 hst hstd hc0 hbm hm hcm z0 z1 z2 z3 z4 z5 z6 zf HO
  go_wp2_with fail
  exact bodyPost_ret (v := .agg #[.int .i64 op, .string (S a), .string (S b), .int .i64 n, .int .i64 k, .string (S t), .int .i64 m]) (by simp [results, Tryd.results13, go_sem, y0, y1, y2, y3, y4, y5, y6]) rfl ⟨rfl, unhide HL⟩
end Go.Proofs.YteaiidcconggcaaDoor
/- Law 14's awake. -/
namespace Go.Proofs.YteaiidcconggcaaDoor
open Go.RowKit
set_option linter.unusedVariables false
set_option maxRecDepth 100000

theorem step_any {w : World} (op k : Int) : Calls Tryd.prog 26 #[.int .i64 op, .int .i64 k] w fun e w' => e = .returned (stV (⟨op, [97], [], 0⟩, ⟨k, [], 0⟩)) ∧ Below w.heap.size w w' := by
  unfold stV
  have HB := hide (fun o : Obj => under_box (w := w) o)
  go_enter Tryd.func26, Tryd.ntmps26
  go_wp2_with fail
  exact bodyPost_ret (v := .agg #[.int .i64 op, .string (S [97]), .string (S []), .int .i64 0, .int .i64 k, .string (S []), .int .i64 0]) (by simp [results, Tryd.results26, go_sem]; exact ⟨rfl, rfl⟩) rfl ⟨rfl, unhide HB _⟩
set_option maxHeartbeats 6400000 in
theorem qawake_any {w : World} (hw : MD w) : Calls Tryd.prog 7 #[] w fun e w' => e = .returned (.bool true) ∧ Below w.heap.size w w' := by
  have HST := hide (fun (wz : World) (op k : Int) => step_any (w := wz) op k)
  have HF := hide (fun (wz w' : World) (h1 : Below w.heap.size w wz) (h2 : Below wz.heap.size wz w') => h1.trans (h2.mono h1.size))
  have HC1 : Hid (∀ wz, Below w.heap.size w wz → Calls Tryd.prog 12 #[stV (⟨8, [97], [], 0⟩, ⟨1, [], 0⟩), stV (⟨10, [97], [], 0⟩, ⟨2, [], 0⟩)] wz fun e w' => e = .returned (.bool true) ∧ Below wz.heap.size wz w') := fun wz hb => by
    have := conflict_any (hw.later hb) (⟨8, [97], [], 0⟩, ⟨1, [], 0⟩) (⟨10, [97], [], 0⟩, ⟨2, [], 0⟩) (by decide) (by decide)
    rwa [show conM (⟨8, [97], [], 0⟩, ⟨1, [], 0⟩) (⟨10, [97], [], 0⟩, ⟨2, [], 0⟩) = true by decide +kernel] at this
  have HC2 : Hid (∀ wz, Below w.heap.size w wz → Calls Tryd.prog 12 #[stV (⟨8, [97], [], 0⟩, ⟨2, [], 0⟩), stV (⟨10, [97], [], 0⟩, ⟨1, [], 0⟩)] wz fun e w' => e = .returned (.bool false) ∧ Below wz.heap.size wz w') := fun wz hb => by
    have := conflict_any (hw.later hb) (⟨8, [97], [], 0⟩, ⟨2, [], 0⟩) (⟨10, [97], [], 0⟩, ⟨1, [], 0⟩) (by decide) (by decide)
    rwa [show conM (⟨8, [97], [], 0⟩, ⟨2, [], 0⟩) (⟨10, [97], [], 0⟩, ⟨1, [], 0⟩) = false by decide +kernel] at this
  have HP : Hid (∀ wz : World, Calls Tryd.prog 19 #[stV (⟨10, [97], [], 0⟩, ⟨1, [], 0⟩)] wz fun e w' => e = .returned (.bool true) ∧ Below wz.heap.size wz w') := fun wz => by
    have := possible_any (w := wz) (⟨10, [97], [], 0⟩, ⟨1, [], 0⟩) (by decide)
    rwa [show posM (⟨10, [97], [], 0⟩, ⟨1, [], 0⟩) = true by decide +kernel] at this
  clear hw
  go_enter Tryd.func7, Tryd.ntmps7
  go_wp2_with fail
  refine (unhide HST _ 8 1).mono ?_
  rintro e w1 ⟨rfl, hb1⟩
  have HE1 := hide (unhide HF _ _ (Below.refl _ _) hb1)
  clear hb1
  go_wp2_with fail
  refine (unhide HST _ 10 2).mono ?_
  rintro e w2 ⟨rfl, hb2⟩
  have HE2 := hide (unhide HF _ _ (unhide HE1) hb2)
  clear hb2
  go_wp2_with fail
  refine (unhide HC1 _ (unhide HE2)).mono ?_
  rintro e w3 ⟨rfl, hb3⟩
  have HE3 := hide (unhide HF _ _ (unhide HE2) hb3)
  clear hb3
  go_wp2_with fail
  refine (unhide HST _ 8 2).mono ?_
  rintro e w4 ⟨rfl, hb4⟩
  have HE4 := hide (unhide HF _ _ (unhide HE3) hb4)
  clear hb4
  go_wp2_with fail
  refine (unhide HST _ 10 1).mono ?_
  rintro e w5 ⟨rfl, hb5⟩
  have HE5 := hide (unhide HF _ _ (unhide HE4) hb5)
  clear hb5
  go_wp2_with fail
  refine (unhide HC2 _ (unhide HE5)).mono ?_
  rintro e w6 ⟨rfl, hb6⟩
  have HE6 := hide (unhide HF _ _ (unhide HE5) hb6)
  clear hb6
  go_wp2_with fail
  refine (unhide HST _ 10 1).mono ?_
  rintro e w7 ⟨rfl, hb7⟩
  have HE7 := hide (unhide HF _ _ (unhide HE6) hb7)
  clear hb7
  go_wp2_with fail
  refine (unhide HP _).mono ?_
  rintro e w8 ⟨rfl, hb8⟩
  have HE8 := hide (unhide HF _ _ (unhide HE7) hb8)
  clear hb8
  go_wp2_with fail
  go_ret
  exact ⟨rfl, unhide HE8⟩
end Go.Proofs.YteaiidcconggcaaDoor
