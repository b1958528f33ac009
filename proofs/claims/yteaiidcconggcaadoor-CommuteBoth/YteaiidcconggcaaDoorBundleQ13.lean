/- Texts that this proof needs, one behind the other: QOwn, QStep. -/
import Derived.Test.YteaiidcconggcaaDoorQSmall
import Derived.Test.YteaiidcconggcaaDoorBundleT12
import Derived.Test.YteaiidcconggcaaDoorBundleT10
import Derived.Test.YteaiidcconggcaaDoorBundleT7
import Derived.Test.YteaiidcconggcaaDoorTOf2
import Derived.Test.YteaiidcconggcaaDoorVLike
import Derived.Test.YteaiidcconggcaaDoorBundleA11
import Derived.Test.YteaiidcconggcaaDoorBundleQ5
import Derived.Test.YteaiidcconggcaaDoorMTidy
import Derived.Deep.DeepCutAuto
import Derived.Deep.CutBlock
/- The contracts of law 14's Own and of the document's Commute. -/
namespace Go.Proofs.YteaiidcconggcaaDoor
open Go.RowKit
set_option linter.unusedVariables false
set_option maxRecDepth 100000

def put7 (w : World) (N : Nat) (a b c d e f g : Value) : World := putL w N 0 [a, b, c, d, e, f, g]
theorem put7_cells {w : World} {N : Nat} {a0 b0 c0 d0 e0 f0 g0 : Value} {t : TypeId} (h : w.heap[N]? = some (.cells #[a0, b0, c0, d0, e0, f0, g0] t (0, 0))) (a b c d e f g : Value) : (put7 w N a b c d e f g).heap[N]? = some (.cells #[a, b, c, d, e, f, g] t (0, 0)) :=
  putL_all (ys := [a0, b0, c0, d0, e0, f0, g0]) rfl h
structure Ow (w : World) (A B : Obj) (w' : World) : Prop where
  low : Below w.heap.size w w'
  a : w'.heap[w.heap.size]? = some A
  b : w'.heap[w.heap.size + 1]? = some B
  far : w.heap.size + 1 + 1 ≤ w'.heap.size
section
variable {w w1 w2 : World} {A B C : Obj}
theorem Ow.start (w : World) (A B C : Obj) : Ow w A B (((w.alloc A).alloc B).alloc C) := by
  have h2 := under_two w A B
  refine ⟨h2.alloc h2.size C, ?_, ?_, by simp⟩
  · rw [Below.heap_alloc _ _ _ (by simp; omega), Below.heap_alloc _ _ _ (by simp)]; exact heap_alloc_new w A
  · rw [Below.heap_alloc _ _ _ (by simp)]
    have := heap_alloc_new (w.alloc A) B
    rwa [World.size_alloc] at this
theorem Ow.below (h : Ow w A B w1) (hb : Below w1.heap.size w1 w2) : Ow w A B w2 := ⟨h.low.trans (hb.mono h.low.size), (hb.block _ (by have := h.far; omega)).trans h.a, (hb.block _ (by have := h.far; omega)).trans h.b, Nat.le_trans h.far hb.size⟩
theorem Ow.drew (h : Ow w A B w1) : Ow w A B w1.drew := h.below ((Below.refl _ _).drew)
theorem Ow.set7 (h : Ow w A B w1) (a b c d e f g : Value) : Ow w A B (put7 w1 (w.heap.size + 1 + 1) a b c d e f g) := by
  obtain ⟨r1, r2, r3⟩ := putL_rest (q := w.heap.size + 1 + 1) [a, b, c, d, e, f, g] w1 0
  have ho : ∀ j, j ≠ w.heap.size + 1 + 1 → (put7 w1 (w.heap.size + 1 + 1) a b c d e f g).heap[j]? = w1.heap[j]? := fun j hj => putL_other hj _ _ _
  have hs : (put7 w1 (w.heap.size + 1 + 1) a b c d e f g).heap.size = w1.heap.size := putL_size _ _ _
  exact ⟨⟨r1.trans h.low.os, r2.trans h.low.tape, r3.trans h.low.output, by rw [hs]; exact h.low.size, fun j hj => by rw [ho j (by omega)]; exact h.low.block j hj⟩, by rw [ho _ (by omega)]; exact h.a, by rw [ho _ (by omega)]; exact h.b, by rw [hs]; exact h.far⟩
theorem Ow.acells {a b c d : Value} {t : TypeId} (hA : A = .cells #[a, b, c, d] t (0, 0)) : (∀ w1, Ow w A B w1 → w1.cell? ⟨w.heap.size, 0, none⟩ = some a) ∧ (∀ w1, Ow w A B w1 → w1.cell? ⟨w.heap.size, 1, none⟩ = some b) ∧ (∀ w1, Ow w A B w1 → w1.cell? ⟨w.heap.size, 2, none⟩ = some c) ∧ (∀ w1, Ow w A B w1 → w1.cell? ⟨w.heap.size, 3, none⟩ = some d) := by
  refine ⟨fun w1 h => ?_, fun w1 h => ?_, fun w1 h => ?_, fun w1 h => ?_⟩ <;> (have h2 := h.a; rw [hA] at h2; rw [block_cell h2]; rfl)
theorem Ow.bcells {a b c : Value} {t : TypeId} (hB : B = .cells #[a, b, c] t (0, 0)) : (∀ w1, Ow w A B w1 → w1.cell? ⟨w.heap.size + 1, 0, none⟩ = some a) ∧ (∀ w1, Ow w A B w1 → w1.cell? ⟨w.heap.size + 1, 1, none⟩ = some b) ∧ (∀ w1, Ow w A B w1 → w1.cell? ⟨w.heap.size + 1, 2, none⟩ = some c) := by
  refine ⟨fun w1 h => ?_, fun w1 h => ?_, fun w1 h => ?_⟩ <;> (have h2 := h.b; rw [hB] at h2; rw [block_cell h2]; rfl)
end
set_option maxHeartbeats 6400000 in
theorem lown_any {w : World} (c : MC) (r : MR) : Calls Tryd.prog 13 #[mcV c, mrV r] w fun e w' => e = .returned (stV (c, r)) ∧ Below w.heap.size w w' := by
  have HO := hide (fun wz : World => mown_any (w := wz) c)
  obtain ⟨op, a, b, n⟩ := c
  obtain ⟨k, t, m⟩ := r
  unfold mcV mrV stV at *
  dsimp only at *
  obtain ⟨A, hA⟩ : ∃ A : Obj, A = .cells #[.int .i64 op, .string (S a), .string (S b), .int .i64 n] 29 (0, 0) := ⟨_, rfl⟩
  obtain ⟨B, hB⟩ : ∃ B : Obj, B = .cells #[.int .i64 k, .string (S t), .int .i64 m] 30 (0, 0) := ⟨_, rfl⟩
  obtain ⟨C, hC⟩ : ∃ C : Obj, C = .cells #[.int .i64 0, .string ⟨#[]⟩, .string ⟨#[]⟩, .int .i64 0, .int .i64 0, .string ⟨#[]⟩, .int .i64 0] 41 (0, 0) := ⟨_, rfl⟩
  have hst : Ow w A B (((w.alloc A).alloc B).alloc C) := Ow.start w A B C
  have hc0 : (((w.alloc A).alloc B).alloc C).heap[w.heap.size + 1 + 1]? = some C := by
    have := heap_alloc_new ((w.alloc A).alloc B) C
    rwa [World.size_alloc, World.size_alloc] at this
  obtain ⟨a0, a1, a2, a3⟩ := Ow.acells (w := w) (A := A) (B := B) hA
  obtain ⟨b0, b1, b2⟩ := Ow.bcells (w := w) (A := A) (B := B) hB
  have hstd := hst.drew
  go_enter Tryd.func13, Tryd.ntmps13
  go_upto_region 1 with fail
  rw [← hA, ← hB, ← hC]
  obtain ⟨W, hW⟩ : ∃ W, ((w.alloc A).alloc B).alloc C = W := ⟨_, rfl⟩
  rw [hW] at hst hc0 hstd ⊢
  clear hW hA hB
  refine wp_region_held_drew (S := fun w' => Ow w A B w') (by kernel_rfl) ?_ (fun hHeld => ?_)
  · exact hstd
  refine wpAnyH_take (i := 0) (oi := { dst := some 5, op := _, type := _, pos := _, after := _, guard := _ }) (v := ?_) rfl (by kernel_rfl) (by kernel_rfl) (by kernel_rfl) (fun _ _ _ h => h) (Or.inl ⟨by kernel_rfl, ?_⟩) (by assumption) ?_
  rotate_left
  · intro w hSw; (try dsimp only at hSw); go_simp; try (with_reducible rfl)
  try simp only [Act.put, List.setIfInBounds_toArray, List.set_cons_zero, List.set_cons_succ]
  refine wpAnyH_take (i := 2) (oi := { dst := some 7, op := _, type := _, pos := _, after := _, guard := _ }) (v := ?_) rfl (by kernel_rfl) (by kernel_rfl) (by kernel_rfl) (fun _ _ _ h => h) (Or.inl ⟨by kernel_rfl, ?_⟩) (by assumption) ?_
  rotate_left
  · intro w hSw; (try dsimp only at hSw); go_simp; try (with_reducible rfl)
  try simp only [Act.put, List.setIfInBounds_toArray, List.set_cons_zero, List.set_cons_succ]
  refine wpAnyH_ready (rs := [1]) (by kernel_rfl) (by simp) ?_
  refine AllReadyH.cons rfl (fun K hK => ?_) AllReadyH.nil
  go_simp
  go_at_call 9
  refine (unhide HO _).mono ?_
  rintro e wm ⟨rfl, hbm⟩
  have hm : Ow w A B wm := hstd.below hbm
  have hcm := (hbm.block (w.heap.size + 1 + 1) (by show _ < W.drew.heap.size; exact block_lt (show W.drew.heap[w.heap.size + 1 + 1]? = some C from hc0))).trans (show W.drew.heap[w.heap.size + 1 + 1]? = some C from hc0)
  rw [hC] at hcm
  obtain ⟨z0, z1, z2, z3, z4, z5, z6⟩ := cells7 hcm
  have zf : ∀ j, wm.frozen? ⟨w.heap.size + 1 + 1, j, none⟩ = false := fun j => block_frozen hcm j
  have hw7 := hm.set7 (.int .i64 op) (.string (S a)) (.string (S b)) (.int .i64 n) (.int .i64 k) (.string (S t)) (.int .i64 m)
  have hz7 := put7_cells hcm (.int .i64 op) (.string (S a)) (.string (S b)) (.int .i64 n) (.int .i64 k) (.string (S t)) (.int .i64 m)
  simp only [put7, putL] at hw7 hz7
  refine hK.out _ _ ?_ (fun hHeld => ?_)
  · exact hm
  clear hK K
  try simp only [Act.put, List.setIfInBounds_toArray, List.set_cons_zero, List.set_cons_succ]
  refine wpAnyH_take (i := 3) (oi := { dst := some 8, op := _, type := _, pos := _, after := _, guard := _ }) (v := ?_) rfl (by kernel_rfl) (by kernel_rfl) (by kernel_rfl) (fun _ _ _ h => h) (Or.inl ⟨by kernel_rfl, ?_⟩) (by assumption) ?_
  rotate_left
  · intro w hSw; (try dsimp only at hSw); go_simp; try (with_reducible rfl)
  try simp only [Act.put, List.setIfInBounds_toArray, List.set_cons_zero, List.set_cons_succ]
  refine wpAnyH_ready (rs := [4]) (by kernel_rfl) (by simp) ?_
  refine AllReadyH.cons rfl (fun K hK => ?_) AllReadyH.nil
  go_simp
  refine hK.out _ _ ?_ (fun hHeld => ?_)
  · exact hw7
  clear hK K
  refine wpAnyH_done (by kernel_rfl) ?_ _
  have HL := hide hw7.low
  obtain ⟨y0, y1, y2, y3, y4, y5, y6⟩ := cells7 hz7
  clear hw7 hz7 hst hstd hc0 hbm hm hcm z0 z1 z2 z3 z4 z5 z6 zf HO
  go_wp2_with fail
  exact bodyPost_ret (v := .agg #[.int .i64 op, .string (S a), .string (S b), .int .i64 n, .int .i64 k, .string (S t), .int .i64 m]) (by simp [results, Tryd.results13, go_sem, y0, y1, y2, y3, y4, y5, y6]) rfl ⟨rfl, unhide HL⟩
end Go.Proofs.YteaiidcconggcaaDoor
/- The law's Step: some call that may be, with an answer that is possible. -/
namespace Go.Proofs.YteaiidcconggcaaDoor
open Go.RowKit
set_option linter.unusedVariables false
set_option maxRecDepth 100000

theorem Below.setc {w wx : World} (h : Below w.heap.size w wx) {b : Nat} (hb : w.heap.size ≤ b) (j : Nat) (v : Value) : Below w.heap.size w (wx.setCell ⟨b, j, none⟩ v) := ⟨h.os, h.tape, h.output, by simpa using h.size, fun k hk => (heap_setCell_other wx ⟨b, j, none⟩ k _ (by show k ≠ b; omega)).trans (h.block k hk)⟩
/- The boxes of Step: the call, the answer, and those of its results. -/
structure Tq (w : World) (V : MC) (q : Nat) (R : MR) (wx : World) : Prop where
  call : wx.heap[q]? = some (.cells #[.int .i64 V.op, .string (S V.a), .string (S V.b), .int .i64 V.n] 29 (0, 0))
  ans : wx.heap[q + 1]? = some (.cells #[.int .i64 R.code, .string (S R.text), .int .i64 R.n] 30 (0, 0))
  r0 : wx.heap[w.heap.size + 1 + 1]? = some (.cells #[.int .i64 0, .string ⟨#[]⟩, .string ⟨#[]⟩, .int .i64 0] 29 (0, 0))
  r1 : wx.heap[w.heap.size + 1 + 1 + 1]? = some (.cells #[.int .i64 0, .string ⟨#[]⟩, .int .i64 0] 30 (0, 0))
  low : Below w.heap.size w wx
  far : w.heap.size + 1 + 1 + 1 < q
section
variable {w wx : World} {V : MC} {q : Nat} {R : MR}
theorem Tq.code (h : Tq w V q R wx) (x : Int) : Tq w V q ⟨x, R.text, R.n⟩ (wx.setCell ⟨q + 1, 0, none⟩ (.int .i64 x)) := by
  have hf := h.far
  have ho : ∀ j, j ≠ q + 1 → (wx.setCell ⟨q + 1, 0, none⟩ (.int .i64 x)).heap[j]? = wx.heap[j]? := fun j hj => heap_setCell_other wx ⟨q + 1, 0, none⟩ j _ hj
  refine ⟨(ho _ (by omega)).trans h.call, ?_, (ho _ (by omega)).trans h.r0, (ho _ (by omega)).trans h.r1, ⟨h.low.os, h.low.tape, h.low.output, by simpa using h.low.size, fun j hj => (ho j (by omega)).trans (h.low.block j hj)⟩, hf⟩
  exact heap_setCell_same wx (q + 1) 0 _ _ (.int .i64 x) h.ans
theorem Tq.text (h : Tq w V q R wx) (x : List UInt8) : Tq w V q ⟨R.code, x, R.n⟩ (wx.setCell ⟨q + 1, 1, none⟩ (.string (S x))) := by
  have hf := h.far
  have ho : ∀ j, j ≠ q + 1 → (wx.setCell ⟨q + 1, 1, none⟩ (.string (S x))).heap[j]? = wx.heap[j]? := fun j hj => heap_setCell_other wx ⟨q + 1, 1, none⟩ j _ hj
  refine ⟨(ho _ (by omega)).trans h.call, ?_, (ho _ (by omega)).trans h.r0, (ho _ (by omega)).trans h.r1, ⟨h.low.os, h.low.tape, h.low.output, by simpa using h.low.size, fun j hj => (ho j (by omega)).trans (h.low.block j hj)⟩, hf⟩
  exact heap_setCell_same wx (q + 1) 1 _ _ (.string (S x)) h.ans
theorem Tq.num (h : Tq w V q R wx) (x : Int) : Tq w V q ⟨R.code, R.text, x⟩ (wx.setCell ⟨q + 1, 2, none⟩ (.int .i64 x)) := by
  have hf := h.far
  have ho : ∀ j, j ≠ q + 1 → (wx.setCell ⟨q + 1, 2, none⟩ (.int .i64 x)).heap[j]? = wx.heap[j]? := fun j hj => heap_setCell_other wx ⟨q + 1, 2, none⟩ j _ hj
  refine ⟨(ho _ (by omega)).trans h.call, ?_, (ho _ (by omega)).trans h.r0, (ho _ (by omega)).trans h.r1, ⟨h.low.os, h.low.tape, h.low.output, by simpa using h.low.size, fun j hj => (ho j (by omega)).trans (h.low.block j hj)⟩, hf⟩
  exact heap_setCell_same wx (q + 1) 2 _ _ (.int .i64 x) h.ans
theorem Tq.all (h : Tq w V q R wx) (x : Int) (t : List UInt8) (y : Int) : Tq w V q ⟨x, t, y⟩ (((wx.setCell ⟨q + 1, 0, none⟩ (.int .i64 x)).setCell ⟨q + 1, 1, none⟩ (.string (S t))).setCell ⟨q + 1, 2, none⟩ (.int .i64 y)) := ((h.code x).text t).num y
end
theorem qfour_heap (w : World) (A B C D : Obj) : ((((w.alloc A).alloc B).alloc C).alloc D).heap[w.heap.size]? = some A ∧ ((((w.alloc A).alloc B).alloc C).alloc D).heap[w.heap.size + 1]? = some B ∧ ((((w.alloc A).alloc B).alloc C).alloc D).heap[w.heap.size + 1 + 1]? = some C ∧ ((((w.alloc A).alloc B).alloc C).alloc D).heap[w.heap.size + 1 + 1 + 1]? = some D ∧ Below w.heap.size w ((((w.alloc A).alloc B).alloc C).alloc D) := by
  have h2 := under_two w A B
  have h3 := h2.alloc h2.size C
  have g4 := heap_alloc_new (((w.alloc A).alloc B).alloc C) D
  simp only [World.size_alloc] at g4
  refine ⟨?_, ?_, ?_, g4, h3.alloc h3.size D⟩
  · rw [Below.heap_alloc _ _ _ (by simp only [World.size_alloc]; omega), Below.heap_alloc _ _ _ (by simp only [World.size_alloc]; omega), Below.heap_alloc _ _ _ (by simp)]; exact heap_alloc_new w A
  · rw [Below.heap_alloc _ _ _ (by simp only [World.size_alloc]; omega), Below.heap_alloc _ _ _ (by simp only [World.size_alloc]; omega)]
    have g := heap_alloc_new (w.alloc A) B
    simp only [World.size_alloc] at g
    exact g
  · rw [Below.heap_alloc _ _ _ (by simp)]
    have g := heap_alloc_new ((w.alloc A).alloc B) C
    simp only [World.size_alloc] at g
    exact g
set_option maxHeartbeats 51200000 in
theorem lstep_any {w : World} (op n code m : Int) (s t u : ByteArray) (hop : I64 op) (hn : I64 n) (hcode : I64 code) (hm : I64 m) (hs : s.size ≤ maxLen) (ht : t.size ≤ maxLen) (hu : u.size ≤ maxLen) :
    Calls Tryd.prog 8 #[.agg #[.int .i64 op, .string s, .string t, .int .i64 n], .agg #[.int .i64 code, .string u, .int .i64 m]] w fun e w' => ∃ p : Stp, e = .returned (.tuple #[mcV p.1, mrV p.2]) ∧ Gv p ∧ Below w.heap.size w w' := by
  obtain ⟨l, rfl⟩ : ∃ l, u = S l := ⟨u.data.toList, rfl⟩
  have hl : l.length ≤ maxLen := by simpa [S_size] using hu
  have HTD := hide (fun wz : World => mtidy_any (w := wz) op s t n hop hn hs ht)
  clear hs ht hu
  obtain ⟨c1, hc1⟩ : ∃ c1, code % 2 = c1 := ⟨_, rfl⟩
  have hc2 : c1 = 0 ∨ c1 = 1 := by omega
  have hand : bits .and .i64 code 1 = c1 := by
    have := pl_and_mask code 1 1 (by decide) (by decide)
    rw [← hc1]
    exact this
  have hw1 : IntKind.i64.wrap (1 + c1) = 1 + c1 := by rw [IntKind.wrap_i64]; omega
  clear hc1
  obtain ⟨m50, hm50⟩ : ∃ m50, m % 1125899906842624 = m50 := ⟨_, rfl⟩
  have hand50 : bits .and .i64 m 1125899906842623 = m50 := by
    have := pl_and_mask m 50 1125899906842623 (by decide) (by decide)
    rw [← hm50]
    exact this
  have hm51 : 0 ≤ m50 ∧ m50 ≤ 1125899906842624 := by omega
  clear hm50
  have HM := hide hm
  have HOP := hide hop
  clear hop hn hm hcode
  obtain ⟨W, hW⟩ : ∃ W, (((w.alloc (.cells #[.int .i64 op, .string s, .string t, .int .i64 n] 24)).alloc (.cells #[.int .i64 code, .string (S l), .int .i64 m] 26)).alloc (.cells #[.int .i64 0, .string ⟨#[]⟩, .string ⟨#[]⟩, .int .i64 0] 29)).alloc (.cells #[.int .i64 0, .string ⟨#[]⟩, .int .i64 0] 30) = W := ⟨_, rfl⟩
  have HF : Hid (W.heap[w.heap.size]? = some (.cells #[.int .i64 op, .string s, .string t, .int .i64 n] 24 (0, 0)) ∧ W.heap[w.heap.size + 1]? = some (.cells #[.int .i64 code, .string (S l), .int .i64 m] 26 (0, 0)) ∧ W.heap[w.heap.size + 1 + 1]? = some (.cells #[.int .i64 0, .string ⟨#[]⟩, .string ⟨#[]⟩, .int .i64 0] 29 (0, 0)) ∧ W.heap[w.heap.size + 1 + 1 + 1]? = some (.cells #[.int .i64 0, .string ⟨#[]⟩, .int .i64 0] 30 (0, 0)) ∧ Below w.heap.size w W) := by
    show _ ∧ _
    rw [← hW]
    exact qfour_heap w _ _ _ _
  have hWs : W.heap.size = w.heap.size + 4 := by rw [← hW]; simp
  have HWS := hide hWs
  clear hWs
  go_enter Tryd.func8, Tryd.ntmps8
  go_upto_region 1 with fail
  try rw [hW]
  clear hW
  obtain ⟨x0, x1, x2, x3, _⟩ := cell4 (unhide HF).1
  go_wp2_with fail
  refine (unhide HTD _).mono ?_
  rintro e w5 ⟨V, rfl, hV, hb5⟩
  unfold mcV
  have HV := hide hV
  obtain ⟨W6, hW6⟩ : ∃ W6, w5.alloc (.cells #[.int .i64 V.op, .string (S V.a), .string (S V.b), .int .i64 V.n] 29) = W6 := ⟨_, rfl⟩
  obtain ⟨W7, hW7⟩ : ∃ W7, W6.alloc (.cells #[.int .i64 (1 + c1), .string ⟨#[]⟩, .int .i64 0] 30) = W7 := ⟨_, rfl⟩
  have HW7 := hide hW7
  have HW6 := hide hW6
  have hb6 : Below W.heap.size W W6 := by rw [← hW6]; exact hb5.trans ((under_box _).mono hb5.size)
  have hb7 : Below W6.heap.size W6 W7 := by rw [← hW7]; exact under_box _
  have hs6 : W6.heap.size = w5.heap.size + 1 := by rw [← hW6]; simp
  have HTQ : Hid (Tq w V w5.heap.size ⟨1 + c1, [], 0⟩ W7) := by
    obtain ⟨f1, f2, f3, f4, f5⟩ := unhide HF
    have hb := hb6.trans (hb7.mono hb6.size)
    refine ⟨(hb7.block _ (by omega)).trans (by rw [← hW6]; exact heap_alloc_new w5 _), ?_, (hb.block _ (block_lt f3)).trans f3, (hb.block _ (block_lt f4)).trans f4, f5.trans (hb.mono f5.size), ?_⟩
    · rw [← hW7, ← hs6]; exact heap_alloc_new W6 _
    · have h1 := unhide HWS; have h2 := hb5.size; omega
  have hb67 := hb6.trans (hb7.mono hb6.size)
  obtain ⟨y0, y1, y2, _⟩ := cell3 ((hb6.block _ (block_lt (unhide HF).2.1)).trans (unhide HF).2.1)
  have HRW := hide ((hb67.block _ (block_lt (unhide HF).2.1)).trans (unhide HF).2.1)
  have HNE : Hid (w5.heap.size + 1 ≠ w.heap.size + 1) := by show _ ≠ _; have h1 := unhide HWS; have h2 := hb5.size; omega
  clear hb5 hb6 hb7 hb67 HTD HF x0 x1 x2 x3
  clear hW7
  go_upto_region 2 with fail
  try rw [hW6]
  clear hW6
  go_upto_region 3 with fail
  try rw [unhide HW7]
  obtain ⟨d0, d1, d2, d3, _⟩ := cell4 (unhide HTQ).call
  obtain ⟨y0, y1, y2, _⟩ := cell3 (unhide HRW)
  clear y0 y1 y2
  go_upto_block 0 with fail
  clear d0 d1 d2 d3
  go_cut [9, 16] (fun _ _ wx => ∃ R : MR, Gv (V, R) ∧ Tq w V w5.heap.size R wx)
  case first =>
    obtain ⟨d0, d1, d2, d3, df⟩ := cell4 (unhide HTQ).call
    obtain ⟨a0, a1, a2, af⟩ := cell3 (unhide HTQ).ans
    obtain ⟨y0, y1, y2, _⟩ := cell3 (unhide HRW)
    have hne1 := unhide HNE
    have hne2 : w.heap.size + 1 ≠ w5.heap.size + 1 := fun e => hne1 e.symm
    have hne3 : w5.heap.size ≠ w5.heap.size + 1 := by omega
    have hne4 : w5.heap.size + 1 ≠ w5.heap.size := by omega
    rcases op_cases (MC.may_op (unhide HV)) with ho | ho | ho | ho | ho | ho | ho | ho | ho | ho | ho | ho | ho | ho | ho | ho | ho
    · rcases hc2 with rfl | rfl
      · have e1 : (1 : Int) + 0 = 1 := rfl
        by_cases hll : l.length ≤ 24
        · have j1 : ¬ (((S l).size : Nat) : Int) > 24 := by rw [S_size]; omega
          go_wp2_with fail
          go_meet
          exact ⟨⟨1, l, 0⟩, ⟨unhide HV, by unfold posM; dsimp only; simp [ho], hll, fun e => by (try dsimp only at e); omega, (by show I64 0; unfold I64; omega)⟩, (unhide HTQ).all 1 l 0⟩
        · have j1 : (((S l).size : Nat) : Int) > 24 := by rw [S_size]; omega
          have ht4 : (S l).extract 0 24 = S (l.take 24) := S_take l 24
          have j2 : (24 : Int) ≤ (((S l).size : Nat) : Int) := by rw [S_size]; omega
          have j3 : 24 ≤ (S l).size := by rw [S_size]; omega
          go_wp2_with fail
          go_meet
          exact ⟨⟨1, l.take 24, 0⟩, ⟨unhide HV, by unfold posM; dsimp only; simp [ho], by rw [List.length_take]; exact Nat.min_le_left .., fun e => by (try dsimp only at e); omega, (by show I64 0; unfold I64; omega)⟩, ((unhide HTQ).all 1 l 0).text (l.take 24)⟩
      · have e1 : (1 : Int) + 1 = 2 := rfl
        by_cases hll : l.length ≤ 24
        · have j1 : ¬ (((S l).size : Nat) : Int) > 24 := by rw [S_size]; omega
          go_wp2_with fail
          go_meet
          exact ⟨⟨1, l, 0⟩, ⟨unhide HV, by unfold posM; dsimp only; simp [ho], hll, fun e => by (try dsimp only at e); omega, (by show I64 0; unfold I64; omega)⟩, (unhide HTQ).all 1 l 0⟩
        · have j1 : (((S l).size : Nat) : Int) > 24 := by rw [S_size]; omega
          have ht4 : (S l).extract 0 24 = S (l.take 24) := S_take l 24
          have j2 : (24 : Int) ≤ (((S l).size : Nat) : Int) := by rw [S_size]; omega
          have j3 : 24 ≤ (S l).size := by rw [S_size]; omega
          go_wp2_with fail
          go_meet
          exact ⟨⟨1, l.take 24, 0⟩, ⟨unhide HV, by unfold posM; dsimp only; simp [ho], by rw [List.length_take]; exact Nat.min_le_left .., fun e => by (try dsimp only at e); omega, (by show I64 0; unfold I64; omega)⟩, ((unhide HTQ).all 1 l 0).text (l.take 24)⟩
    · go_wp2_with fail
      go_meet
      exact ⟨⟨1, [], 0⟩, ⟨unhide HV, by unfold posM; dsimp only; simp [ho], by simp, fun e => by (try dsimp only at e); omega, (by show I64 0; unfold I64; omega)⟩, (unhide HTQ).code 1⟩
    · go_wp2_with fail
      go_meet
      exact ⟨⟨1, [], 0⟩, ⟨unhide HV, by unfold posM; dsimp only; simp [ho], by simp, fun e => by (try dsimp only at e); omega, (by show I64 0; unfold I64; omega)⟩, (unhide HTQ).code 1⟩
    · go_wp2_with fail
      go_meet
      exact ⟨⟨1, [], m⟩, ⟨unhide HV, by unfold posM; dsimp only; simp [ho], by simp, fun e => by (try dsimp only at e); omega, unhide HM⟩, (unhide HTQ).all 1 [] m⟩
    · go_wp2_with fail
      go_meet
      exact ⟨⟨1, [], 0⟩, ⟨unhide HV, by unfold posM; dsimp only; simp [ho], by simp, fun e => by (try dsimp only at e); omega, (by show I64 0; unfold I64; omega)⟩, (unhide HTQ).code 1⟩
    · go_wp2_with fail
      go_meet
      rcases hc2 with rfl | rfl
      · exact ⟨⟨1 + 0, [], 0⟩, ⟨unhide HV, by unfold posM; dsimp only; simp [ho], by simp, fun e => by (try dsimp only at e); omega, (by show I64 0; unfold I64; omega)⟩, unhide HTQ⟩
      · exact ⟨⟨1 + 1, [], 0⟩, ⟨unhide HV, by unfold posM; dsimp only; simp [ho], by simp, fun e => by (try dsimp only at e); omega, (by show I64 0; unfold I64; omega)⟩, unhide HTQ⟩
    · go_wp2_with fail
      go_meet
      exact ⟨⟨1, [], m50⟩, ⟨unhide HV, by unfold posM; dsimp only; simp [ho, hm51.1], by simp, fun _ => hm51.2, (by show I64 m50; unfold I64; omega)⟩, ((unhide HTQ).all 1 [] m).num m50⟩
    · go_wp2_with fail
      go_meet
      rcases hc2 with rfl | rfl
      · exact ⟨⟨1 + 0, [], 0⟩, ⟨unhide HV, by unfold posM; dsimp only; simp [ho], by simp, fun e => by (try dsimp only at e); omega, (by show I64 0; unfold I64; omega)⟩, unhide HTQ⟩
      · exact ⟨⟨1 + 1, [], 0⟩, ⟨unhide HV, by unfold posM; dsimp only; simp [ho], by simp, fun e => by (try dsimp only at e); omega, (by show I64 0; unfold I64; omega)⟩, unhide HTQ⟩
    · go_wp2_with fail
      go_meet
      rcases hc2 with rfl | rfl
      · exact ⟨⟨1 + 0, [], 0⟩, ⟨unhide HV, by unfold posM; dsimp only; simp [ho], by simp, fun e => by (try dsimp only at e); omega, (by show I64 0; unfold I64; omega)⟩, unhide HTQ⟩
      · exact ⟨⟨1 + 1, [], 0⟩, ⟨unhide HV, by unfold posM; dsimp only; simp [ho], by simp, fun e => by (try dsimp only at e); omega, (by show I64 0; unfold I64; omega)⟩, unhide HTQ⟩
    · go_wp2_with fail
      go_meet
      rcases hc2 with rfl | rfl
      · exact ⟨⟨1 + 0, [], 0⟩, ⟨unhide HV, by unfold posM; dsimp only; simp [ho], by simp, fun e => by (try dsimp only at e); omega, (by show I64 0; unfold I64; omega)⟩, unhide HTQ⟩
      · exact ⟨⟨1 + 1, [], 0⟩, ⟨unhide HV, by unfold posM; dsimp only; simp [ho], by simp, fun e => by (try dsimp only at e); omega, (by show I64 0; unfold I64; omega)⟩, unhide HTQ⟩
    · go_wp2_with fail
      go_meet
      rcases hc2 with rfl | rfl
      · exact ⟨⟨1 + 0, [], 0⟩, ⟨unhide HV, by unfold posM; dsimp only; simp [ho], by simp, fun e => by (try dsimp only at e); omega, (by show I64 0; unfold I64; omega)⟩, unhide HTQ⟩
      · exact ⟨⟨1 + 1, [], 0⟩, ⟨unhide HV, by unfold posM; dsimp only; simp [ho], by simp, fun e => by (try dsimp only at e); omega, (by show I64 0; unfold I64; omega)⟩, unhide HTQ⟩
    · go_wp2_with fail
      go_meet
      rcases hc2 with rfl | rfl
      · exact ⟨⟨1 + 0, [], 0⟩, ⟨unhide HV, by unfold posM; dsimp only; simp [ho], by simp, fun e => by (try dsimp only at e); omega, (by show I64 0; unfold I64; omega)⟩, unhide HTQ⟩
      · exact ⟨⟨1 + 1, [], 0⟩, ⟨unhide HV, by unfold posM; dsimp only; simp [ho], by simp, fun e => by (try dsimp only at e); omega, (by show I64 0; unfold I64; omega)⟩, unhide HTQ⟩
    · rcases hc2 with rfl | rfl
      · have e1 : (1 : Int) + 0 = 1 := rfl
        by_cases hll : l.length ≤ 24
        · have j1 : ¬ (((S l).size : Nat) : Int) > 24 := by rw [S_size]; omega
          go_wp2_with fail
          go_meet
          exact ⟨⟨1, l, 0⟩, ⟨unhide HV, by unfold posM; dsimp only; simp [ho], hll, fun e => by (try dsimp only at e); omega, (by show I64 0; unfold I64; omega)⟩, (unhide HTQ).all 1 l 0⟩
        · have j1 : (((S l).size : Nat) : Int) > 24 := by rw [S_size]; omega
          have ht4 : (S l).extract 0 24 = S (l.take 24) := S_take l 24
          have j2 : (24 : Int) ≤ (((S l).size : Nat) : Int) := by rw [S_size]; omega
          have j3 : 24 ≤ (S l).size := by rw [S_size]; omega
          go_wp2_with fail
          go_meet
          exact ⟨⟨1, l.take 24, 0⟩, ⟨unhide HV, by unfold posM; dsimp only; simp [ho], by rw [List.length_take]; exact Nat.min_le_left .., fun e => by (try dsimp only at e); omega, (by show I64 0; unfold I64; omega)⟩, ((unhide HTQ).all 1 l 0).text (l.take 24)⟩
      · have e1 : (1 : Int) + 1 = 2 := rfl
        go_wp2_with fail
        go_meet
        exact ⟨⟨1 + 1, [], 0⟩, ⟨unhide HV, by unfold posM; dsimp only; simp [ho], by simp, fun e => by (try dsimp only at e); omega, (by show I64 0; unfold I64; omega)⟩, unhide HTQ⟩
    · go_wp2_with fail
      go_meet
      exact ⟨⟨1, [], 0⟩, ⟨unhide HV, by unfold posM; dsimp only; simp [ho], by simp, fun e => by (try dsimp only at e); omega, (by show I64 0; unfold I64; omega)⟩, (unhide HTQ).code 1⟩
    · rcases hc2 with rfl | rfl
      · have e1 : (1 : Int) + 0 = 1 := rfl
        by_cases hll : l.length ≤ 24
        · have j1 : ¬ (((S l).size : Nat) : Int) > 24 := by rw [S_size]; omega
          go_wp2_with fail
          go_meet
          exact ⟨⟨1, l, 0⟩, ⟨unhide HV, by unfold posM; dsimp only; simp [ho], hll, fun e => by (try dsimp only at e); omega, (by show I64 0; unfold I64; omega)⟩, (unhide HTQ).all 1 l 0⟩
        · have j1 : (((S l).size : Nat) : Int) > 24 := by rw [S_size]; omega
          have ht4 : (S l).extract 0 24 = S (l.take 24) := S_take l 24
          have j2 : (24 : Int) ≤ (((S l).size : Nat) : Int) := by rw [S_size]; omega
          have j3 : 24 ≤ (S l).size := by rw [S_size]; omega
          go_wp2_with fail
          go_meet
          exact ⟨⟨1, l.take 24, 0⟩, ⟨unhide HV, by unfold posM; dsimp only; simp [ho], by rw [List.length_take]; exact Nat.min_le_left .., fun e => by (try dsimp only at e); omega, (by show I64 0; unfold I64; omega)⟩, ((unhide HTQ).all 1 l 0).text (l.take 24)⟩
      · have e1 : (1 : Int) + 1 = 2 := rfl
        go_wp2_with fail
        go_meet
        exact ⟨⟨1 + 1, [], 0⟩, ⟨unhide HV, by unfold posM; dsimp only; simp [ho], by simp, fun e => by (try dsimp only at e); omega, (by show I64 0; unfold I64; omega)⟩, unhide HTQ⟩
    · go_wp2_with fail
      go_meet
      exact ⟨⟨1, [], 0⟩, ⟨unhide HV, by unfold posM; dsimp only; simp [ho], by simp, fun e => by (try dsimp only at e); omega, (by show I64 0; unfold I64; omega)⟩, (unhide HTQ).code 1⟩
    · rcases hc2 with rfl | rfl
      · have e1 : (1 : Int) + 0 = 1 := rfl
        by_cases hll : l.length ≤ 24
        · have j1 : ¬ (((S l).size : Nat) : Int) > 24 := by rw [S_size]; omega
          go_wp2_with fail
          go_meet
          exact ⟨⟨1, l, 0⟩, ⟨unhide HV, by unfold posM; dsimp only; simp [ho], hll, fun e => by (try dsimp only at e); omega, (by show I64 0; unfold I64; omega)⟩, (unhide HTQ).all 1 l 0⟩
        · have j1 : (((S l).size : Nat) : Int) > 24 := by rw [S_size]; omega
          have ht4 : (S l).extract 0 24 = S (l.take 24) := S_take l 24
          have j2 : (24 : Int) ≤ (((S l).size : Nat) : Int) := by rw [S_size]; omega
          have j3 : 24 ≤ (S l).size := by rw [S_size]; omega
          go_wp2_with fail
          go_meet
          exact ⟨⟨1, l.take 24, 0⟩, ⟨unhide HV, by unfold posM; dsimp only; simp [ho], by rw [List.length_take]; exact Nat.min_le_left .., fun e => by (try dsimp only at e); omega, (by show I64 0; unfold I64; omega)⟩, ((unhide HTQ).all 1 l 0).text (l.take 24)⟩
      · have e1 : (1 : Int) + 1 = 2 := rfl
        go_wp2_with fail
        go_meet
        exact ⟨⟨1 + 1, [], 0⟩, ⟨unhide HV, by unfold posM; dsimp only; simp [ho], by simp, fun e => by (try dsimp only at e); omega, (by show I64 0; unfold I64; omega)⟩, unhide HTQ⟩
  case rest =>
  obtain ⟨R, hgv, htq⟩ := hcut
  rename World => wc
  have HGV := hide hgv
  have HLO := hide htq.low
  obtain ⟨d0, d1, d2, d3, df⟩ := cell4 htq.call
  obtain ⟨a0, a1, a2, af⟩ := cell3 htq.ans
  obtain ⟨r0, r1, r2, r3, rf⟩ := cell4 htq.r0
  obtain ⟨s0, s1, s2, sf⟩ := cell3 htq.r1
  have hfar := htq.far
  clear y0 y1 y2 hgv htq HTQ
  go_upto_region 23 with fail
  have d0z : wc.drew.cell? ⟨w5.heap.size, 0, none⟩ = some (.int .i64 V.op) := d0
  have d1z : wc.drew.cell? ⟨w5.heap.size, 1, none⟩ = some (.string (S V.a)) := d1
  have d2z : wc.drew.cell? ⟨w5.heap.size, 2, none⟩ = some (.string (S V.b)) := d2
  have d3z : wc.drew.cell? ⟨w5.heap.size, 3, none⟩ = some (.int .i64 V.n) := d3
  have a0z : wc.drew.cell? ⟨w5.heap.size + 1, 0, none⟩ = some (.int .i64 R.code) := a0
  have a1z : wc.drew.cell? ⟨w5.heap.size + 1, 1, none⟩ = some (.string (S R.text)) := a1
  have a2z : wc.drew.cell? ⟨w5.heap.size + 1, 2, none⟩ = some (.int .i64 R.n) := a2
  have r0z : wc.drew.cell? ⟨w.heap.size + 1 + 1, 0, none⟩ = some (.int .i64 0) := r0
  have r1z : wc.drew.cell? ⟨w.heap.size + 1 + 1, 1, none⟩ = some (.string ⟨#[]⟩) := r1
  have r2z : wc.drew.cell? ⟨w.heap.size + 1 + 1, 2, none⟩ = some (.string ⟨#[]⟩) := r2
  have r3z : wc.drew.cell? ⟨w.heap.size + 1 + 1, 3, none⟩ = some (.int .i64 0) := r3
  have rfz : ∀ j, wc.drew.frozen? ⟨w.heap.size + 1 + 1, j, none⟩ = false := rf
  have s0z : wc.drew.cell? ⟨w.heap.size + 1 + 1 + 1, 0, none⟩ = some (.int .i64 0) := s0
  have s1z : wc.drew.cell? ⟨w.heap.size + 1 + 1 + 1, 1, none⟩ = some (.string ⟨#[]⟩) := s1
  have s2z : wc.drew.cell? ⟨w.heap.size + 1 + 1 + 1, 2, none⟩ = some (.int .i64 0) := s2
  have sfz : ∀ j, wc.drew.frozen? ⟨w.heap.size + 1 + 1 + 1, j, none⟩ = false := sf
  have n1 : w5.heap.size ≠ w.heap.size + 1 + 1 := by omega
  have n2 : w5.heap.size ≠ w.heap.size + 1 + 1 + 1 := by omega
  have n3 : w5.heap.size + 1 ≠ w.heap.size + 1 + 1 := by omega
  have n4 : w5.heap.size + 1 ≠ w.heap.size + 1 + 1 + 1 := by omega
  have n5 : w.heap.size + 1 + 1 ≠ w.heap.size + 1 + 1 + 1 := by omega
  have n6 : w.heap.size + 1 + 1 + 1 ≠ w.heap.size + 1 + 1 := by omega
  have n7 : w.heap.size + 1 + 1 ≠ w5.heap.size := by omega
  have n8 : w.heap.size + 1 + 1 + 1 ≠ w5.heap.size := by omega
  have n9 : w.heap.size + 1 + 1 ≠ w5.heap.size + 1 := by omega
  have n10 : w.heap.size + 1 + 1 + 1 ≠ w5.heap.size + 1 := by omega
  go_region_with (fail)
  all_goals go_wp2_with fail
  all_goals try simp only [Exit.inBlock, Exit.then]
  all_goals
    refine bodyPost_ret (v := .tuple #[mcV V, mrV R]) ?_ rfl ⟨(V, R), rfl, unhide HGV, ?_⟩
    · unfold mcV mrV
      simp [results, Tryd.results8, go_sem, r0, r1, r2, r3, s0, s1, s2]
    · have hld := unhide HLO
      repeat (first | with_reducible exact hld | with_reducible refine Below.setc ?_ (by omega) _ _ | with_reducible refine Below.drew ?_)
end Go.Proofs.YteaiidcconggcaaDoor
