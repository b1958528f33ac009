/- A call read of the front of bytes, an answer: the document's. -/
import Derived.Test.YtfehpjmjchdkgaaDoorMRefCheck
import Derived.Test.YtfehpjmjchdkgaaDoorMRes
import Derived.Test.YtfehpjmjchdkgaaDoorMRead
import Derived.Deep.DeepCutAuto
import Derived.Deep.CutBlock
namespace Go.Proofs.YtfehpjmjchdkgaaDoor
open Go.RowKit
set_option linter.unusedVariables false
set_option maxRecDepth 100000

theorem drew3 {w A : World} {B k k' : Nat} {o o' : Option Obj} (h : Below B w A ∧ A.heap[k]? = o ∧ A.heap[k']? = o') : Below B w A.drew ∧ A.drew.heap[k]? = o ∧ A.drew.heap[k']? = o' := ⟨h.1.drew, h.2.1, h.2.2⟩
/- Two blocks hold this. -/
structure Rs (N Y : Nat) (A B : Obj) (w : World) : Prop where
  a : w.heap[N]? = some A
  b : w.heap[Y]? = some B
theorem Rs.set {N Y : Nat} {A B : Obj} {w : World} (h : Rs N Y A B w) {q o : Nat} {v : Value} (h1 : q ≠ N) (h2 : q ≠ Y) : Rs N Y A B (w.setCell ⟨q, o, none⟩ v) :=
  ⟨(heap_setCell_other _ ⟨q, o, none⟩ _ _ (Ne.symm h1)).trans h.a, (heap_setCell_other _ ⟨q, o, none⟩ _ _ (Ne.symm h2)).trans h.b⟩
theorem Rs.drew {N Y : Nat} {A B : Obj} {w : World} (h : Rs N Y A B w) : Rs N Y A B w.drew := ⟨h.a, h.b⟩
theorem Rs.start {N Y : Nat} {A B : Obj} {w : World} (h1 : w.heap[N]? = some A) (h2 : w.heap[Y]? = some B) : Rs N Y A B w.drew := ⟨h1, h2⟩
structure Rr (w : World) (R2 R3 : Obj) (st : Codec.St) (wr : World) : Prop where
  low : Below w.heap.size w wr
  sz : w.heap.size + 3 ≤ wr.heap.size
  i : wr.heap[w.heap.size]? = some (.cells #[.string (S st.1), .int .i64 st.2] 53 (0, 0))
  r2 : wr.heap[w.heap.size + 1]? = some R2
  r3 : wr.heap[w.heap.size + 1 + 1]? = some R3
section
variable {w wr w' : World} {R2 R3 : Obj} {st st' : Codec.St}
theorem Rr.start (w : World) (s : Codec.St) (R2 R3 : Obj) : Rr w R2 R3 s (((w.alloc (.cells #[.string (S s.1), .int .i64 s.2] 53)).alloc R2).alloc R3) := by
  refine ⟨((under_box _).alloc (by simp) _).alloc (by simp; omega) _, by simp, ?_, ?_, ?_⟩
  · rw [Below.heap_alloc _ _ _ (by simp; omega), Below.heap_alloc _ _ _ (by simp)]; exact heap_alloc_new w _
  · rw [Below.heap_alloc _ _ _ (by simp)]
    have := heap_alloc_new (w.alloc (.cells #[.string (S s.1), .int .i64 s.2] 53)) R2
    rwa [World.size_alloc] at this
  · have := heap_alloc_new ((w.alloc (.cells #[.string (S s.1), .int .i64 s.2] 53)).alloc R2) R3
    rwa [World.size_alloc, World.size_alloc] at this
theorem Rr.later (h : Rr w R2 R3 st wr) (hb : Below wr.heap.size wr w') : Rr w R2 R3 st w' := by
  have := h.sz
  exact ⟨h.low.trans (hb.mono (by omega)), by have := hb.size; omega, (hb.block _ (by omega)).trans h.i, (hb.block _ (by omega)).trans h.r2, (hb.block _ (by omega)).trans h.r3⟩
theorem Rr.drew (h : Rr w R2 R3 st wr) : Rr w R2 R3 st wr.drew := ⟨⟨h.low.os, h.low.tape, h.low.output, h.low.size, h.low.block⟩, h.sz, h.i, h.r2, h.r3⟩
theorem Rr.put (h : Rr w R2 R3 st wr) (st' : Codec.St) : Rr w R2 R3 st' (put2 wr w.heap.size (.string (S st'.1)) (.int .i64 st'.2)) := by
  have := h.sz
  exact ⟨⟨h.low.os, h.low.tape, h.low.output, by rw [put2_size]; exact h.low.size, fun k hk => (put2_other wr _ _ (by omega)).trans (h.low.block k hk)⟩, by rw [put2_size]; exact h.sz, put2_heap h.i _ _, (put2_other wr _ _ (by omega)).trans h.r2, (put2_other wr _ _ (by omega)).trans h.r3⟩
theorem Rr.both (h : Rr w R2 R3 st wr) (ho : ∀ k, k < w.heap.size → w'.heap[k]? = wr.heap[k]?) (hs : w'.heap.size = wr.heap.size) (h1 : w'.os = wr.os) (h2 : w'.tape = wr.tape) (h3 : w'.output = wr.output) : Below w.heap.size w w' :=
  ⟨h1.trans h.low.os, h2.trans h.low.tape, h3.trans h.low.output, by rw [hs]; exact h.low.size, fun k hk => (ho k hk).trans (h.low.block k hk)⟩
theorem put2_same (w : World) (q : Nat) (a b : Value) : (put2 w q a b).os = w.os ∧ (put2 w q a b).tape = w.tape ∧ (put2 w q a b).output = w.output := ⟨rfl, rfl, rfl⟩
theorem put3_same (w : World) (q : Nat) (a b c : Value) : (put3 w q a b c).os = w.os ∧ (put3 w q a b c).tape = w.tape ∧ (put3 w q a b c).output = w.output := ⟨rfl, rfl, rfl⟩
theorem put4_same (w : World) (q : Nat) (a b c d : Value) : (put4 w q a b c d).os = w.os ∧ (put4 w q a b c d).tape = w.tape ∧ (put4 w q a b c d).output = w.output := ⟨rfl, rfl, rfl⟩
theorem Rr.two4 (h : Rr w R2 R3 st wr) {a b c d e f : Value} {t t' : TypeId} (h2 : wr.heap[w.heap.size + 1]? = some (.cells #[a, b] t (0, 0))) (h3 : wr.heap[w.heap.size + 1 + 1]? = some (.cells #[c, d, e, f] t' (0, 0))) (x y p q r s : Value) :
    (Below w.heap.size w (put4 (put2 wr (w.heap.size + 1) x y) (w.heap.size + 1 + 1) p q r s) ∧ (put4 (put2 wr (w.heap.size + 1) x y) (w.heap.size + 1 + 1) p q r s).heap[w.heap.size + 1]? = some (.cells #[x, y] t (0, 0)) ∧ (put4 (put2 wr (w.heap.size + 1) x y) (w.heap.size + 1 + 1) p q r s).heap[w.heap.size + 1 + 1]? = some (.cells #[p, q, r, s] t' (0, 0))) ∧
    (Below w.heap.size w (put2 (put4 wr (w.heap.size + 1 + 1) p q r s) (w.heap.size + 1) x y) ∧ (put2 (put4 wr (w.heap.size + 1 + 1) p q r s) (w.heap.size + 1) x y).heap[w.heap.size + 1]? = some (.cells #[x, y] t (0, 0)) ∧ (put2 (put4 wr (w.heap.size + 1 + 1) p q r s) (w.heap.size + 1) x y).heap[w.heap.size + 1 + 1]? = some (.cells #[p, q, r, s] t' (0, 0))) := by
  have hA2 : (put2 wr (w.heap.size + 1) x y).heap[w.heap.size + 1]? = some (.cells #[x, y] t (0, 0)) := put2_heap h2 x y
  have hA3 : (put2 wr (w.heap.size + 1) x y).heap[w.heap.size + 1 + 1]? = some (.cells #[c, d, e, f] t' (0, 0)) := (put2_other wr x y (by omega)).trans h3
  have hB3 : (put4 wr (w.heap.size + 1 + 1) p q r s).heap[w.heap.size + 1 + 1]? = some (.cells #[p, q, r, s] t' (0, 0)) := put4_heap h3 p q r s
  have hB2 : (put4 wr (w.heap.size + 1 + 1) p q r s).heap[w.heap.size + 1]? = some (.cells #[a, b] t (0, 0)) := (put4_other wr p q r s (by omega)).trans h2
  have oA : ∀ k, k < w.heap.size → (put2 wr (w.heap.size + 1) x y).heap[k]? = wr.heap[k]? := fun k hk => put2_other wr x y (by omega)
  have oB : ∀ k, k < w.heap.size → (put4 wr (w.heap.size + 1 + 1) p q r s).heap[k]? = wr.heap[k]? := fun k hk => put4_other wr p q r s (by omega)
  have sA := put2_size wr (N := w.heap.size + 1) x y
  have sB := put4_size wr (N := w.heap.size + 1 + 1) p q r s
  obtain ⟨a1, a2, a3⟩ := put2_same wr (w.heap.size + 1) x y
  obtain ⟨b1, b2, b3⟩ := put4_same wr (w.heap.size + 1 + 1) p q r s
  generalize put2 wr (w.heap.size + 1) x y = wa at *
  generalize put4 wr (w.heap.size + 1 + 1) p q r s = wb at *
  obtain ⟨p1, p2, p3⟩ := put4_same wa (w.heap.size + 1 + 1) p q r s
  obtain ⟨q1, q2, q3⟩ := put2_same wb (w.heap.size + 1) x y
  exact ⟨⟨h.both (fun k hk => (put4_other wa p q r s (by omega)).trans (oA k hk)) ((put4_size wa p q r s).trans sA) (p1.trans a1) (p2.trans a2) (p3.trans a3), (put4_other wa p q r s (by omega)).trans hA2, put4_heap hA3 p q r s⟩, ⟨h.both (fun k hk => (put2_other wb x y (by omega)).trans (oB k hk)) ((put2_size wb x y).trans sB) (q1.trans b1) (q2.trans b2) (q3.trans b3), put2_heap hB2 x y, (put2_other wb x y (by omega)).trans hB3⟩⟩
theorem Rr.two3 (h : Rr w R2 R3 st wr) {a b c d e : Value} {t t' : TypeId} (h2 : wr.heap[w.heap.size + 1]? = some (.cells #[a, b] t (0, 0))) (h3 : wr.heap[w.heap.size + 1 + 1]? = some (.cells #[c, d, e] t' (0, 0))) (x y p q r : Value) :
    (Below w.heap.size w (put3 (put2 wr (w.heap.size + 1) x y) (w.heap.size + 1 + 1) p q r) ∧ (put3 (put2 wr (w.heap.size + 1) x y) (w.heap.size + 1 + 1) p q r).heap[w.heap.size + 1]? = some (.cells #[x, y] t (0, 0)) ∧ (put3 (put2 wr (w.heap.size + 1) x y) (w.heap.size + 1 + 1) p q r).heap[w.heap.size + 1 + 1]? = some (.cells #[p, q, r] t' (0, 0))) ∧
    (Below w.heap.size w (put2 (put3 wr (w.heap.size + 1 + 1) p q r) (w.heap.size + 1) x y) ∧ (put2 (put3 wr (w.heap.size + 1 + 1) p q r) (w.heap.size + 1) x y).heap[w.heap.size + 1]? = some (.cells #[x, y] t (0, 0)) ∧ (put2 (put3 wr (w.heap.size + 1 + 1) p q r) (w.heap.size + 1) x y).heap[w.heap.size + 1 + 1]? = some (.cells #[p, q, r] t' (0, 0))) := by
  have hA2 : (put2 wr (w.heap.size + 1) x y).heap[w.heap.size + 1]? = some (.cells #[x, y] t (0, 0)) := put2_heap h2 x y
  have hA3 : (put2 wr (w.heap.size + 1) x y).heap[w.heap.size + 1 + 1]? = some (.cells #[c, d, e] t' (0, 0)) := (put2_other wr x y (by omega)).trans h3
  have hB3 : (put3 wr (w.heap.size + 1 + 1) p q r).heap[w.heap.size + 1 + 1]? = some (.cells #[p, q, r] t' (0, 0)) := put3_heap h3 p q r
  have hB2 : (put3 wr (w.heap.size + 1 + 1) p q r).heap[w.heap.size + 1]? = some (.cells #[a, b] t (0, 0)) := (put3_other wr p q r (by omega)).trans h2
  have oA : ∀ k, k < w.heap.size → (put2 wr (w.heap.size + 1) x y).heap[k]? = wr.heap[k]? := fun k hk => put2_other wr x y (by omega)
  have oB : ∀ k, k < w.heap.size → (put3 wr (w.heap.size + 1 + 1) p q r).heap[k]? = wr.heap[k]? := fun k hk => put3_other wr p q r (by omega)
  have sA := put2_size wr (N := w.heap.size + 1) x y
  have sB := put3_size wr (N := w.heap.size + 1 + 1) p q r
  obtain ⟨a1, a2, a3⟩ := put2_same wr (w.heap.size + 1) x y
  obtain ⟨b1, b2, b3⟩ := put3_same wr (w.heap.size + 1 + 1) p q r
  generalize put2 wr (w.heap.size + 1) x y = wa at *
  generalize put3 wr (w.heap.size + 1 + 1) p q r = wb at *
  obtain ⟨p1, p2, p3⟩ := put3_same wa (w.heap.size + 1 + 1) p q r
  obtain ⟨q1, q2, q3⟩ := put2_same wb (w.heap.size + 1) x y
  exact ⟨⟨h.both (fun k hk => (put3_other wa p q r (by omega)).trans (oA k hk)) ((put3_size wa p q r).trans sA) (p1.trans a1) (p2.trans a2) (p3.trans a3), (put3_other wa p q r (by omega)).trans hA2, put3_heap hA3 p q r⟩, ⟨h.both (fun k hk => (put2_other wb x y (by omega)).trans (oB k hk)) ((put2_size wb x y).trans sB) (q1.trans b1) (q2.trans b2) (q3.trans b3), put2_heap hB2 x y, (put2_other wb x y (by omega)).trans hB3⟩⟩
end

set_option maxHeartbeats 12800000 in
theorem rreadr12_any {w : World} {s : Codec.St} (hi : Inv s) (hl : s.1.length ≤ 1099511627776) :
    Calls Tryd.prog 27 #[InV s] w fun e w' => e = .returned (.tuple #[InV (rrS s), mrV (rrR s)]) ∧ Below w.heap.size w w' := by
  have hiv := rr_inv hi
  have hln := rr_len s
  have HR0 := hide (fun (w1 : World) => rtakeN_any s 2 w1 hi hl (by decide) (by decide))
  have HR1 := hide (fun (w1 : World) => rtakeS_any (rrO s).2 24 w1 hiv.1 (by omega) (by decide) (by decide))
  have HR2 := hide (fun (w1 : World) => rtakeI_any (rrT s).2 w1 hiv.2.1 (by omega))
  have HCK := hide (fun (w1 : World) => rrcheck_any (w := w1) (rrV s) (rrV_len s))
  have HFA := hide (fun (w1 : World) => rfail_any ((rrI s).2) (rrV s).check w1)
  unfold InV at HR0 HR1 HR2 HFA ⊢
  have e0 : Codec.takeN 2 s = rrO s := by rw [rrO]
  have e1 : Codec.takeS 24 (rrO s).2 = rrT s := by rw [rrT]
  have e2 : Codec.takeI (rrT s).2 = rrI s := by rw [rrI]
  have eS : Codec.fail (rrV s).check ((rrI s).2) = rrS s := by rw [rrS]
  have HS0 : Hid (((rrI s).2).2 ≠ 0 → rrS s = (rrI s).2) := fun h => by rw [rrS]; unfold Codec.fail; rw [if_neg (fun x => h x.1)]
  have ev : mrV (rrV s) = .agg #[.int .i64 (((rrO s).1 : Nat) : Int), .string (S (rrT s).1), .int .i64 (rrI s).1] := by simp only [mrV, rrV]
  simp only [e0] at HR0
  simp only [e1] at HR1
  simp only [e2] at HR2
  simp only [eS] at HFA
  rw [ev] at HCK
  have HCC : Hid (rrR s = if (rrS s).2 ≠ 0 then ⟨0, [], 0⟩ else rrV s) := by show _ = _; rw [rrR]
  have HVV := hide ev
  clear ev eS hiv hln hi hl e0 e1 e2
  generalize (rrV s).check = ck at *
  generalize rrV s = V at *
  generalize rrR s = C at *
  generalize rrS s = SS at *
  generalize (rrO s).1 = v0 at *
  generalize (rrO s).2 = s0 at *
  generalize (rrT s).1 = v1 at *
  generalize (rrT s).2 = s1 at *
  generalize (rrI s).1 = v2 at *
  generalize (rrI s).2 = s2 at *
  obtain ⟨R2, hR2⟩ : ∃ R : Obj, R = .cells #[.string ⟨#[]⟩, .int .i64 0] 53 (0, 0) := ⟨_, rfl⟩
  obtain ⟨R3, hR3⟩ : ∃ R : Obj, R = .cells #[.int .i64 0, .string ⟨#[]⟩, .int .i64 0] 48 (0, 0) := ⟨_, rfl⟩
  have HM := hide (Rr.start w s R2 R3)
  go_enter Tryd.func27, Tryd.ntmps27
  go_wp2_with fail
  rw [← hR2, ← hR3]
  refine (unhide HR0 _).mono ?_
  rintro e y0 ⟨rfl, hb0⟩
  have HL0 := hide ((unhide HM).later hb0)
  clear HM hb0 HR0
  have hm0 := (unhide HL0).i
  obtain ⟨i0, i1⟩ := heap_cells2 hm0
  have hf := fun j => block_frozen hm0 j
  have HM := hide ((unhide HL0).put s0)
  clear hm0 HL0
  obtain ⟨Y0, hY0⟩ : ∃ Y, put2 y0 w.heap.size (.string (S s0.1)) (.int .i64 s0.2) = Y := ⟨_, rfl⟩
  rw [hY0] at HM
  unfold put2 at hY0
  have HY0 := hide hY0
  clear hY0
  go_upto_region 2 with fail
  rw [unhide HY0]
  clear HY0 i0 i1 hf
  have hm0 := (unhide HM).i
  obtain ⟨i0, i1⟩ := heap_cells2 hm0
  clear hm0
  go_wp2_with fail
  clear i0 i1
  refine (unhide HR1 _).mono ?_
  rintro e y1 ⟨rfl, hb1⟩
  have HL1 := hide ((unhide HM).later hb1)
  clear HM hb1 HR1
  have hm0 := (unhide HL1).i
  obtain ⟨i0, i1⟩ := heap_cells2 hm0
  have hf := fun j => block_frozen hm0 j
  have HM := hide ((unhide HL1).put s1)
  clear hm0 HL1
  obtain ⟨Y1, hY1⟩ : ∃ Y, put2 y1 w.heap.size (.string (S s1.1)) (.int .i64 s1.2) = Y := ⟨_, rfl⟩
  rw [hY1] at HM
  unfold put2 at hY1
  have HY1 := hide hY1
  clear hY1
  go_upto_region 3 with fail
  rw [unhide HY1]
  clear HY1 i0 i1 hf
  have hm0 := (unhide HM).i
  obtain ⟨i0, i1⟩ := heap_cells2 hm0
  clear hm0
  go_wp2_with fail
  clear i0 i1
  refine (unhide HR2 _).mono ?_
  rintro e y2 ⟨rfl, hb2⟩
  have HL2 := hide ((unhide HM).later hb2)
  clear HM hb2 HR2
  have hm0 := (unhide HL2).i
  obtain ⟨i0, i1⟩ := heap_cells2 hm0
  have hf := fun j => block_frozen hm0 j
  have HM := hide ((unhide HL2).put s2)
  clear hm0 HL2
  obtain ⟨Y2, hY2⟩ : ∃ Y, put2 y2 w.heap.size (.string (S s2.1)) (.int .i64 s2.2) = Y := ⟨_, rfl⟩
  rw [hY2] at HM
  unfold put2 at hY2
  have HY2 := hide hY2
  clear hY2
  go_upto_region 4 with fail
  rw [unhide HY2]
  clear HY2 i0 i1 hf
  have hm0 := (unhide HM).i
  obtain ⟨i0, i1⟩ := heap_cells2 hm0
  clear hm0
  obtain ⟨X, hX⟩ : ∃ X : Obj, X = .cells #[.int .i64 ((v0 : Nat) : Int), .string (S v1), .int .i64 v2] 48 (0, 0) := ⟨_, rfl⟩
  obtain ⟨Z, hZ⟩ : ∃ Z, Y2.alloc X = Z := ⟨_, rfl⟩
  have HMZ := hide ((unhide HM).later (w' := Z) (by rw [← hZ]; exact under_box X))
  have HXZ : Hid (Z.heap[Y2.heap.size]? = some X) := by rw [← hZ]; exact heap_alloc_new Y2 X
  have HZS : Hid (w.heap.size + 3 ≤ Y2.heap.size) := (unhide HM).sz
  have iA0 := fun (o : Obj) => (heap_cells2 ((unhide HM).later (under_box o)).i).1
  have iA1 := fun (o : Obj) => (heap_cells2 ((unhide HM).later (under_box o)).i).2
  have HZ := hide hZ
  have HX := hide hX
  have HR2 := hide hR2
  have HR3 := hide hR3
  clear hZ hX HM hR2 hR3
  by_cases h0 : s2.2 = 0
  · have e0 : (s2.2 == 0) = true := by rw [h0]; rfl
    have HK := hide (fun (wk : World) (hb : Below Z.drew.heap.size Z.drew wk) => (unhide HMZ).later (w' := wk) ⟨hb.os, hb.tape, hb.output, hb.size, hb.block⟩)
    have HKX := hide (fun (wk : World) (hb : Below Z.drew.heap.size Z.drew wk) => (hb.block _ (block_lt (w := Z) (unhide HXZ))).trans (unhide HXZ))
    clear h0 HS0
    go_upto_region 6 with fail
    rw [← unhide HX, unhide HZ]
    clear HZ i0 i1 iA0 iA1
    have hm0 := (unhide HMZ).i
    obtain ⟨i0, i1⟩ := heap_cells2 hm0
    have hxz := unhide HXZ
    rw [unhide HX] at hxz
    obtain ⟨x0, x1, x2⟩ := heap_cells3 hxz
    clear hm0 hxz
    go_cut [] (fun wx => Rr w R2 R3 SS wx ∧ wx.heap[Y2.heap.size]? = some X)
    case first =>
      go_region_with (first
        | (go_at_call 20; refine (unhide HCK _).mono ?_; rintro e wk ⟨rfl, hbk⟩; have HRK := hide (unhide HK wk hbk); have hk0 := (unhide HRK).i; obtain ⟨k0, k1⟩ := heap_cells2 hk0; have HXK := hide (unhide HKX wk hbk); clear hk0 hbk)
        | (go_at_call 48; refine (unhide HFA _).mono ?_; rintro e wf ⟨rfl, hbf⟩; have HRF := hide ((unhide HRK).later hbf); have hk0 := (unhide HRF).i; obtain ⟨g0, g1⟩ := heap_cells2 hk0; have gf := fun j => block_frozen hk0 j; have HXF := hide ((hbf.block _ (block_lt (unhide HXK))).trans (unhide HXK)); have HP2 := hide ((unhide HRF).put SS); have HPX := hide ((put2_other wf (.string (S SS.1)) (.int .i64 SS.2) (show Y2.heap.size ≠ w.heap.size by have := unhide HZS; omega)).trans (unhide HXF)); clear hk0 hbf)
        | fail)
      all_goals (unfold put2 at HP2 HPX; go_wp2_with fail)
      all_goals go_meet
      all_goals exact ⟨unhide HP2, unhide HPX⟩
    case rest =>
    obtain ⟨hr, hxw⟩ := hcut
    have HRR := hide hr
    have HXW := hide hxw
    clear i0 i1 x0 x1 x2 HK HKX HFA HCK HMZ HXZ hr hxw
    have hm0 := (unhide HRR).i
    obtain ⟨i0, i1⟩ := heap_cells2 hm0
    have hx := unhide HXW
    rw [unhide HX] at hx
    obtain ⟨x0, x1, x2⟩ := heap_cells3 hx
    have hm2 := (unhide HRR).r2
    have hm3 := (unhide HRR).r3
    rw [unhide HR2] at hm2
    rw [unhide HR3] at hm3
    obtain ⟨c20, c21⟩ := heap_cells2 hm2
    obtain ⟨c30, c31, c32⟩ := heap_cells3 hm3
    have f2 := fun j => block_frozen hm2 j
    have f3 := fun j => block_frozen hm3 j
    have HM2 := hide hm2
    have HM3 := hide hm3
    clear hm0 hm2 hm3 hx
    by_cases he : SS.2 = 0
    · have e1 : (SS.2 != 0) = false := by rw [he]; rfl
      have HC : Hid (C = V) := by show _ = _; rw [unhide HCC, if_neg (by simpa using he)]
      have HO := hide ((unhide HRR).two3 (unhide HM2) (unhide HM3) (.string (S SS.1)) (.int .i64 SS.2) (.int .i64 ((v0 : Nat) : Int)) (.string (S v1)) (.int .i64 v2))
      unfold put2 put3 at HO
      have hst := Rs.start (unhide HRR).i (unhide HXW)
      have hs0 := Rs.mk (unhide HRR).i (unhide HXW)
      have p0 : ∀ w1, Rs w.heap.size Y2.heap.size (.cells #[.string (S SS.1), .int .i64 SS.2] 53 (0, 0)) X w1 → w1.cell? ⟨w.heap.size, 0, none⟩ = some (.string (S SS.1)) := fun w1 h => (heap_cells2 h.a).1
      have p1 : ∀ w1, Rs w.heap.size Y2.heap.size (.cells #[.string (S SS.1), .int .i64 SS.2] 53 (0, 0)) X w1 → w1.cell? ⟨w.heap.size, 1, none⟩ = some (.int .i64 SS.2) := fun w1 h => (heap_cells2 h.a).2
      have q0 : ∀ w1, Rs w.heap.size Y2.heap.size (.cells #[.string (S SS.1), .int .i64 SS.2] 53 (0, 0)) X w1 → w1.cell? ⟨Y2.heap.size, 0, none⟩ = some (.int .i64 ((v0 : Nat) : Int)) := fun w1 h => (heap_cells3 (by have := h.b; rw [unhide HX] at this; exact this)).1
      have q1 : ∀ w1, Rs w.heap.size Y2.heap.size (.cells #[.string (S SS.1), .int .i64 SS.2] 53 (0, 0)) X w1 → w1.cell? ⟨Y2.heap.size, 1, none⟩ = some (.string (S v1)) := fun w1 h => (heap_cells3 (by have := h.b; rw [unhide HX] at this; exact this)).2.1
      have q2 : ∀ w1, Rs w.heap.size Y2.heap.size (.cells #[.string (S SS.1), .int .i64 SS.2] 53 (0, 0)) X w1 → w1.cell? ⟨Y2.heap.size, 2, none⟩ = some (.int .i64 v2) := fun w1 h => (heap_cells3 (by have := h.b; rw [unhide HX] at this; exact this)).2.2
      have n1 : w.heap.size + 1 ≠ w.heap.size := by omega
      have n2 : w.heap.size + 1 + 1 ≠ w.heap.size := by omega
      have n3 : w.heap.size + 1 ≠ Y2.heap.size := by have := unhide HZS; omega
      have n4 : w.heap.size + 1 + 1 ≠ Y2.heap.size := by have := unhide HZS; omega
      clear he HCC HM2 HM3
      go_upto_region 9 with fail
      clear i0 i1 x0 x1 x2
      go_cut [] (fun wx => Below w.heap.size w wx ∧ wx.heap[w.heap.size + 1]? = some (.cells #[.string (S SS.1), .int .i64 SS.2] 53 (0, 0)) ∧ wx.heap[w.heap.size + 1 + 1]? = some (.cells #[.int .i64 ((v0 : Nat) : Int), .string (S v1), .int .i64 v2] 48 (0, 0)))
      case first =>
        go_region_held3 (fun w' => Rs w.heap.size Y2.heap.size (.cells #[.string (S SS.1), .int .i64 SS.2] 53 (0, 0)) X w') (with_reducible (first | exact hst | (refine Rs.drew ?_; (repeat (refine Rs.set ?_ (by assumption) (by assumption))); assumption) | ((repeat (refine Rs.set ?_ (by assumption) (by assumption))); assumption))) (fail)
        all_goals go_wp2_with fail
        all_goals go_meet
        all_goals (with_reducible (first | exact drew3 (unhide HO).1 | exact drew3 (unhide HO).2))
      case rest =>
      obtain ⟨hl, hz2, hz3⟩ := hcut
      obtain ⟨z0, z1⟩ := heap_cells2 hz2
      obtain ⟨y0, y1, y2⟩ := heap_cells3 hz3
      have HL := hide hl
      clear hl hz2 hz3 HO hst hs0 p0 p1 q0 q1 q2 n1 n2 n3 n4 c20 c21 c30 c31 c32 f2 f3
      go_wp2_with fail
      exact bodyPost_ret (v := .tuple #[.agg #[.string (S SS.1), .int .i64 SS.2], .agg #[.int .i64 ((v0 : Nat) : Int), .string (S v1), .int .i64 v2]]) (by simp [results, Tryd.results27, go_sem, z0, z1, y0, y1, y2]) rfl ⟨by rw [unhide HC, unhide HVV], unhide HL⟩
    · have e1 : (SS.2 != 0) = true := by rw [bne_iff_ne]; exact he
      have HC : Hid (C = ⟨0, [], 0⟩) := by show _ = _; rw [unhide HCC, if_pos he]
      obtain ⟨hl, hz2, hz3⟩ := ((unhide HRR).two3 (unhide HM2) (unhide HM3) (.string (S SS.1)) (.int .i64 SS.2) (.int .i64 0) (.string ⟨#[]⟩) (.int .i64 0)).1
      obtain ⟨z0, z1⟩ := heap_cells2 hz2
      obtain ⟨y0, y1, y2⟩ := heap_cells3 hz3
      have HL := hide hl
      clear he HCC HM2 HM3 hl hz2 hz3
      unfold put2 put3 at z0 z1 y0 y1 y2 HL
      go_wp2_with fail
      exact bodyPost_ret (v := .tuple #[.agg #[.string (S SS.1), .int .i64 SS.2], .agg #[.int .i64 0, .string ⟨#[]⟩, .int .i64 0]]) (by simp [results, Tryd.results27, go_sem, z0, z1, y0, y1, y2]) rfl ⟨by rw [unhide HC]; rfl, unhide HL⟩
  · have e0 : (s2.2 == 0) = false := by rw [beq_eq_false_iff_ne]; exact h0
    have e1 : (s2.2 != 0) = true := by rw [bne_iff_ne]; exact h0
    have hSS := unhide HS0 h0
    have he : s2.2 ≠ 0 := h0
    rw [hSS] at HCC
    have HSS := hide hSS
    clear hSS h0 HS0 HFA HCK
    go_upto_region 7 with fail
    rw [← unhide HX, unhide HZ]
    clear HZ i0 i1 iA0 iA1
    have HRR := hide (unhide HMZ)
    have HXW := hide (unhide HXZ)
    clear HMZ HXZ
    have hm0 := (unhide HRR).i
    obtain ⟨i0, i1⟩ := heap_cells2 hm0
    have hx := unhide HXW
    rw [unhide HX] at hx
    obtain ⟨x0, x1, x2⟩ := heap_cells3 hx
    have hm2 := (unhide HRR).r2
    have hm3 := (unhide HRR).r3
    rw [unhide HR2] at hm2
    rw [unhide HR3] at hm3
    obtain ⟨c20, c21⟩ := heap_cells2 hm2
    obtain ⟨c30, c31, c32⟩ := heap_cells3 hm3
    have f2 := fun j => block_frozen hm2 j
    have f3 := fun j => block_frozen hm3 j
    have HM2 := hide hm2
    have HM3 := hide hm3
    clear hm0 hm2 hm3 hx
    have HC : Hid (C = ⟨0, [], 0⟩) := by show _ = _; rw [unhide HCC, if_pos he]
    obtain ⟨hl, hz2, hz3⟩ := ((unhide HRR).two3 (unhide HM2) (unhide HM3) (.string (S s2.1)) (.int .i64 s2.2) (.int .i64 0) (.string ⟨#[]⟩) (.int .i64 0)).1
    obtain ⟨z0, z1⟩ := heap_cells2 hz2
    obtain ⟨y0, y1, y2⟩ := heap_cells3 hz3
    have HL := hide hl
    clear he HCC HM2 HM3 hl hz2 hz3
    unfold put2 put3 at z0 z1 y0 y1 y2 HL
    go_wp2_with fail
    exact bodyPost_ret (v := .tuple #[.agg #[.string (S s2.1), .int .i64 s2.2], .agg #[.int .i64 0, .string ⟨#[]⟩, .int .i64 0]]) (by simp [results, Tryd.results27, go_sem, z0, z1, y0, y1, y2]) rfl ⟨by rw [unhide HSS, unhide HC]; rfl, unhide HL⟩

set_option maxHeartbeats 12800000 in
theorem rread12_any {w : World} {s : Codec.St} (hi : Inv s) (hl : s.1.length ≤ 1099511627776) :
    Calls Tryd.prog 24 #[InV s] w fun e w' => e = .returned (.tuple #[InV (rcS s), mcV (rcC s)]) ∧ Below w.heap.size w w' := by
  have hiv := rc_inv hi
  have hln := rc_len s
  have HR0 := hide (fun (w1 : World) => rtakeN_any s 17 w1 hi hl (by decide) (by decide))
  have HR1 := hide (fun (w1 : World) => rtakeS_any (rcO s).2 24 w1 hiv.1 (by omega) (by decide) (by decide))
  have HR2 := hide (fun (w1 : World) => rtakeS_any (rcA s).2 24 w1 hiv.2.1 (by omega) (by decide) (by decide))
  have HR3 := hide (fun (w1 : World) => rtakeI_any (rcB s).2 w1 hiv.2.2.1 (by omega))
  have HCK := hide (fun (w1 : World) => rcheck12_any (w := w1) (rcV s) (rcV_len s).1 (rcV_len s).2)
  have HFA := hide (fun (w1 : World) => rfail_any ((rcI s).2) (rcV s).check w1)
  unfold InV at HR0 HR1 HR2 HR3 HFA ⊢
  have e0 : Codec.takeN 17 s = rcO s := by rw [rcO]
  have e1 : Codec.takeS 24 (rcO s).2 = rcA s := by rw [rcA]
  have e2 : Codec.takeS 24 (rcA s).2 = rcB s := by rw [rcB]
  have e3 : Codec.takeI (rcB s).2 = rcI s := by rw [rcI]
  have eS : Codec.fail (rcV s).check ((rcI s).2) = rcS s := by rw [rcS]
  have HS0 : Hid (((rcI s).2).2 ≠ 0 → rcS s = (rcI s).2) := fun h => by rw [rcS]; unfold Codec.fail; rw [if_neg (fun x => h x.1)]
  have ev : mcV (rcV s) = .agg #[.int .i64 (((rcO s).1 : Nat) : Int), .string (S (rcA s).1), .string (S (rcB s).1), .int .i64 (rcI s).1] := by simp only [mcV, rcV]
  simp only [e0] at HR0
  simp only [e1] at HR1
  simp only [e2] at HR2
  simp only [e3] at HR3
  simp only [eS] at HFA
  rw [ev] at HCK
  have HCC : Hid (rcC s = if (rcS s).2 ≠ 0 then ⟨0, [], [], 0⟩ else rcV s) := by show _ = _; rw [rcC]
  have HVV := hide ev
  clear ev eS hiv hln hi hl e0 e1 e2 e3
  generalize (rcV s).check = ck at *
  generalize rcV s = V at *
  generalize rcC s = C at *
  generalize rcS s = SS at *
  generalize (rcO s).1 = v0 at *
  generalize (rcO s).2 = s0 at *
  generalize (rcA s).1 = v1 at *
  generalize (rcA s).2 = s1 at *
  generalize (rcB s).1 = v2 at *
  generalize (rcB s).2 = s2 at *
  generalize (rcI s).1 = v3 at *
  generalize (rcI s).2 = s3 at *
  obtain ⟨R2, hR2⟩ : ∃ R : Obj, R = .cells #[.string ⟨#[]⟩, .int .i64 0] 53 (0, 0) := ⟨_, rfl⟩
  obtain ⟨R3, hR3⟩ : ∃ R : Obj, R = .cells #[.int .i64 0, .string ⟨#[]⟩, .string ⟨#[]⟩, .int .i64 0] 28 (0, 0) := ⟨_, rfl⟩
  have HM := hide (Rr.start w s R2 R3)
  go_enter Tryd.func24, Tryd.ntmps24
  go_wp2_with fail
  rw [← hR2, ← hR3]
  refine (unhide HR0 _).mono ?_
  rintro e y0 ⟨rfl, hb0⟩
  have HL0 := hide ((unhide HM).later hb0)
  clear HM hb0 HR0
  have hm0 := (unhide HL0).i
  obtain ⟨i0, i1⟩ := heap_cells2 hm0
  have hf := fun j => block_frozen hm0 j
  have HM := hide ((unhide HL0).put s0)
  clear hm0 HL0
  obtain ⟨Y0, hY0⟩ : ∃ Y, put2 y0 w.heap.size (.string (S s0.1)) (.int .i64 s0.2) = Y := ⟨_, rfl⟩
  rw [hY0] at HM
  unfold put2 at hY0
  have HY0 := hide hY0
  clear hY0
  go_upto_region 2 with fail
  rw [unhide HY0]
  clear HY0 i0 i1 hf
  have hm0 := (unhide HM).i
  obtain ⟨i0, i1⟩ := heap_cells2 hm0
  clear hm0
  go_wp2_with fail
  clear i0 i1
  refine (unhide HR1 _).mono ?_
  rintro e y1 ⟨rfl, hb1⟩
  have HL1 := hide ((unhide HM).later hb1)
  clear HM hb1 HR1
  have hm0 := (unhide HL1).i
  obtain ⟨i0, i1⟩ := heap_cells2 hm0
  have hf := fun j => block_frozen hm0 j
  have HM := hide ((unhide HL1).put s1)
  clear hm0 HL1
  obtain ⟨Y1, hY1⟩ : ∃ Y, put2 y1 w.heap.size (.string (S s1.1)) (.int .i64 s1.2) = Y := ⟨_, rfl⟩
  rw [hY1] at HM
  unfold put2 at hY1
  have HY1 := hide hY1
  clear hY1
  go_upto_region 3 with fail
  rw [unhide HY1]
  clear HY1 i0 i1 hf
  have hm0 := (unhide HM).i
  obtain ⟨i0, i1⟩ := heap_cells2 hm0
  clear hm0
  go_wp2_with fail
  clear i0 i1
  refine (unhide HR2 _).mono ?_
  rintro e y2 ⟨rfl, hb2⟩
  have HL2 := hide ((unhide HM).later hb2)
  clear HM hb2 HR2
  have hm0 := (unhide HL2).i
  obtain ⟨i0, i1⟩ := heap_cells2 hm0
  have hf := fun j => block_frozen hm0 j
  have HM := hide ((unhide HL2).put s2)
  clear hm0 HL2
  obtain ⟨Y2, hY2⟩ : ∃ Y, put2 y2 w.heap.size (.string (S s2.1)) (.int .i64 s2.2) = Y := ⟨_, rfl⟩
  rw [hY2] at HM
  unfold put2 at hY2
  have HY2 := hide hY2
  clear hY2
  go_upto_region 4 with fail
  rw [unhide HY2]
  clear HY2 i0 i1 hf
  have hm0 := (unhide HM).i
  obtain ⟨i0, i1⟩ := heap_cells2 hm0
  clear hm0
  go_wp2_with fail
  clear i0 i1
  refine (unhide HR3 _).mono ?_
  rintro e y3 ⟨rfl, hb3⟩
  have HL3 := hide ((unhide HM).later hb3)
  clear HM hb3 HR3
  have hm0 := (unhide HL3).i
  obtain ⟨i0, i1⟩ := heap_cells2 hm0
  have hf := fun j => block_frozen hm0 j
  have HM := hide ((unhide HL3).put s3)
  clear hm0 HL3
  obtain ⟨Y3, hY3⟩ : ∃ Y, put2 y3 w.heap.size (.string (S s3.1)) (.int .i64 s3.2) = Y := ⟨_, rfl⟩
  rw [hY3] at HM
  unfold put2 at hY3
  have HY3 := hide hY3
  clear hY3
  go_upto_region 5 with fail
  rw [unhide HY3]
  clear HY3 i0 i1 hf
  have hm0 := (unhide HM).i
  obtain ⟨i0, i1⟩ := heap_cells2 hm0
  clear hm0
  obtain ⟨X, hX⟩ : ∃ X : Obj, X = .cells #[.int .i64 ((v0 : Nat) : Int), .string (S v1), .string (S v2), .int .i64 v3] 28 (0, 0) := ⟨_, rfl⟩
  obtain ⟨Z, hZ⟩ : ∃ Z, Y3.alloc X = Z := ⟨_, rfl⟩
  have HMZ := hide ((unhide HM).later (w' := Z) (by rw [← hZ]; exact under_box X))
  have HXZ : Hid (Z.heap[Y3.heap.size]? = some X) := by rw [← hZ]; exact heap_alloc_new Y3 X
  have HZS : Hid (w.heap.size + 3 ≤ Y3.heap.size) := (unhide HM).sz
  have iA0 := fun (o : Obj) => (heap_cells2 ((unhide HM).later (under_box o)).i).1
  have iA1 := fun (o : Obj) => (heap_cells2 ((unhide HM).later (under_box o)).i).2
  have HZ := hide hZ
  have HX := hide hX
  have HR2 := hide hR2
  have HR3 := hide hR3
  clear hZ hX HM hR2 hR3
  by_cases h0 : s3.2 = 0
  · have e0 : (s3.2 == 0) = true := by rw [h0]; rfl
    have HK := hide (fun (wk : World) (hb : Below Z.drew.heap.size Z.drew wk) => (unhide HMZ).later (w' := wk) ⟨hb.os, hb.tape, hb.output, hb.size, hb.block⟩)
    have HKX := hide (fun (wk : World) (hb : Below Z.drew.heap.size Z.drew wk) => (hb.block _ (block_lt (w := Z) (unhide HXZ))).trans (unhide HXZ))
    clear h0 HS0
    go_upto_region 7 with fail
    rw [← unhide HX, unhide HZ]
    clear HZ i0 i1 iA0 iA1
    have hm0 := (unhide HMZ).i
    obtain ⟨i0, i1⟩ := heap_cells2 hm0
    have hxz := unhide HXZ
    rw [unhide HX] at hxz
    obtain ⟨x0, x1, x2, x3⟩ := heap_cells4 hxz
    clear hm0 hxz
    go_cut [] (fun wx => Rr w R2 R3 SS wx ∧ wx.heap[Y3.heap.size]? = some X)
    case first =>
      go_region_with (first
        | (go_at_call 11; refine (unhide HCK _).mono ?_; rintro e wk ⟨rfl, hbk⟩; have HRK := hide (unhide HK wk hbk); have hk0 := (unhide HRK).i; obtain ⟨k0, k1⟩ := heap_cells2 hk0; have HXK := hide (unhide HKX wk hbk); clear hk0 hbk)
        | (go_at_call 48; refine (unhide HFA _).mono ?_; rintro e wf ⟨rfl, hbf⟩; have HRF := hide ((unhide HRK).later hbf); have hk0 := (unhide HRF).i; obtain ⟨g0, g1⟩ := heap_cells2 hk0; have gf := fun j => block_frozen hk0 j; have HXF := hide ((hbf.block _ (block_lt (unhide HXK))).trans (unhide HXK)); have HP2 := hide ((unhide HRF).put SS); have HPX := hide ((put2_other wf (.string (S SS.1)) (.int .i64 SS.2) (show Y3.heap.size ≠ w.heap.size by have := unhide HZS; omega)).trans (unhide HXF)); clear hk0 hbf)
        | fail)
      all_goals (unfold put2 at HP2 HPX; go_wp2_with fail)
      all_goals go_meet
      all_goals exact ⟨unhide HP2, unhide HPX⟩
    case rest =>
    obtain ⟨hr, hxw⟩ := hcut
    have HRR := hide hr
    have HXW := hide hxw
    clear i0 i1 x0 x1 x2 x3 HK HKX HFA HCK HMZ HXZ hr hxw
    have hm0 := (unhide HRR).i
    obtain ⟨i0, i1⟩ := heap_cells2 hm0
    have hx := unhide HXW
    rw [unhide HX] at hx
    obtain ⟨x0, x1, x2, x3⟩ := heap_cells4 hx
    have hm2 := (unhide HRR).r2
    have hm3 := (unhide HRR).r3
    rw [unhide HR2] at hm2
    rw [unhide HR3] at hm3
    obtain ⟨c20, c21⟩ := heap_cells2 hm2
    obtain ⟨c30, c31, c32, c33⟩ := heap_cells4 hm3
    have f2 := fun j => block_frozen hm2 j
    have f3 := fun j => block_frozen hm3 j
    have HM2 := hide hm2
    have HM3 := hide hm3
    clear hm0 hm2 hm3 hx
    by_cases he : SS.2 = 0
    · have e1 : (SS.2 != 0) = false := by rw [he]; rfl
      have HC : Hid (C = V) := by show _ = _; rw [unhide HCC, if_neg (by simpa using he)]
      have HO := hide ((unhide HRR).two4 (unhide HM2) (unhide HM3) (.string (S SS.1)) (.int .i64 SS.2) (.int .i64 ((v0 : Nat) : Int)) (.string (S v1)) (.string (S v2)) (.int .i64 v3))
      unfold put2 put4 at HO
      have hst := Rs.start (unhide HRR).i (unhide HXW)
      have hs0 := Rs.mk (unhide HRR).i (unhide HXW)
      have p0 : ∀ w1, Rs w.heap.size Y3.heap.size (.cells #[.string (S SS.1), .int .i64 SS.2] 53 (0, 0)) X w1 → w1.cell? ⟨w.heap.size, 0, none⟩ = some (.string (S SS.1)) := fun w1 h => (heap_cells2 h.a).1
      have p1 : ∀ w1, Rs w.heap.size Y3.heap.size (.cells #[.string (S SS.1), .int .i64 SS.2] 53 (0, 0)) X w1 → w1.cell? ⟨w.heap.size, 1, none⟩ = some (.int .i64 SS.2) := fun w1 h => (heap_cells2 h.a).2
      have q0 : ∀ w1, Rs w.heap.size Y3.heap.size (.cells #[.string (S SS.1), .int .i64 SS.2] 53 (0, 0)) X w1 → w1.cell? ⟨Y3.heap.size, 0, none⟩ = some (.int .i64 ((v0 : Nat) : Int)) := fun w1 h => (heap_cells4 (by have := h.b; rw [unhide HX] at this; exact this)).1
      have q1 : ∀ w1, Rs w.heap.size Y3.heap.size (.cells #[.string (S SS.1), .int .i64 SS.2] 53 (0, 0)) X w1 → w1.cell? ⟨Y3.heap.size, 1, none⟩ = some (.string (S v1)) := fun w1 h => (heap_cells4 (by have := h.b; rw [unhide HX] at this; exact this)).2.1
      have q2 : ∀ w1, Rs w.heap.size Y3.heap.size (.cells #[.string (S SS.1), .int .i64 SS.2] 53 (0, 0)) X w1 → w1.cell? ⟨Y3.heap.size, 2, none⟩ = some (.string (S v2)) := fun w1 h => (heap_cells4 (by have := h.b; rw [unhide HX] at this; exact this)).2.2.1
      have q3 : ∀ w1, Rs w.heap.size Y3.heap.size (.cells #[.string (S SS.1), .int .i64 SS.2] 53 (0, 0)) X w1 → w1.cell? ⟨Y3.heap.size, 3, none⟩ = some (.int .i64 v3) := fun w1 h => (heap_cells4 (by have := h.b; rw [unhide HX] at this; exact this)).2.2.2
      have n1 : w.heap.size + 1 ≠ w.heap.size := by omega
      have n2 : w.heap.size + 1 + 1 ≠ w.heap.size := by omega
      have n3 : w.heap.size + 1 ≠ Y3.heap.size := by have := unhide HZS; omega
      have n4 : w.heap.size + 1 + 1 ≠ Y3.heap.size := by have := unhide HZS; omega
      clear he HCC HM2 HM3
      go_upto_region 10 with fail
      clear i0 i1 x0 x1 x2 x3
      go_cut [] (fun wx => Below w.heap.size w wx ∧ wx.heap[w.heap.size + 1]? = some (.cells #[.string (S SS.1), .int .i64 SS.2] 53 (0, 0)) ∧ wx.heap[w.heap.size + 1 + 1]? = some (.cells #[.int .i64 ((v0 : Nat) : Int), .string (S v1), .string (S v2), .int .i64 v3] 28 (0, 0)))
      case first =>
        go_region_held3 (fun w' => Rs w.heap.size Y3.heap.size (.cells #[.string (S SS.1), .int .i64 SS.2] 53 (0, 0)) X w') (with_reducible (first | exact hst | (refine Rs.drew ?_; (repeat (refine Rs.set ?_ (by assumption) (by assumption))); assumption) | ((repeat (refine Rs.set ?_ (by assumption) (by assumption))); assumption))) (fail)
        all_goals go_wp2_with fail
        all_goals go_meet
        all_goals (with_reducible (first | exact drew3 (unhide HO).1 | exact drew3 (unhide HO).2))
      case rest =>
      obtain ⟨hl, hz2, hz3⟩ := hcut
      obtain ⟨z0, z1⟩ := heap_cells2 hz2
      obtain ⟨y0, y1, y2, y3⟩ := heap_cells4 hz3
      have HL := hide hl
      clear hl hz2 hz3 HO hst hs0 p0 p1 q0 q1 q2 q3 n1 n2 n3 n4 c20 c21 c30 c31 c32 c33 f2 f3
      go_wp2_with fail
      exact bodyPost_ret (v := .tuple #[.agg #[.string (S SS.1), .int .i64 SS.2], .agg #[.int .i64 ((v0 : Nat) : Int), .string (S v1), .string (S v2), .int .i64 v3]]) (by simp [results, Tryd.results24, go_sem, z0, z1, y0, y1, y2, y3]) rfl ⟨by rw [unhide HC, unhide HVV], unhide HL⟩
    · have e1 : (SS.2 != 0) = true := by rw [bne_iff_ne]; exact he
      have HC : Hid (C = ⟨0, [], [], 0⟩) := by show _ = _; rw [unhide HCC, if_pos he]
      obtain ⟨hl, hz2, hz3⟩ := ((unhide HRR).two4 (unhide HM2) (unhide HM3) (.string (S SS.1)) (.int .i64 SS.2) (.int .i64 0) (.string ⟨#[]⟩) (.string ⟨#[]⟩) (.int .i64 0)).1
      obtain ⟨z0, z1⟩ := heap_cells2 hz2
      obtain ⟨y0, y1, y2, y3⟩ := heap_cells4 hz3
      have HL := hide hl
      clear he HCC HM2 HM3 hl hz2 hz3
      unfold put2 put4 at z0 z1 y0 y1 y2 y3 HL
      go_wp2_with fail
      exact bodyPost_ret (v := .tuple #[.agg #[.string (S SS.1), .int .i64 SS.2], .agg #[.int .i64 0, .string ⟨#[]⟩, .string ⟨#[]⟩, .int .i64 0]]) (by simp [results, Tryd.results24, go_sem, z0, z1, y0, y1, y2, y3]) rfl ⟨by rw [unhide HC]; rfl, unhide HL⟩
  · have e0 : (s3.2 == 0) = false := by rw [beq_eq_false_iff_ne]; exact h0
    have e1 : (s3.2 != 0) = true := by rw [bne_iff_ne]; exact h0
    have hSS := unhide HS0 h0
    have he : s3.2 ≠ 0 := h0
    rw [hSS] at HCC
    have HSS := hide hSS
    clear hSS h0 HS0 HFA HCK
    go_upto_region 8 with fail
    rw [← unhide HX, unhide HZ]
    clear HZ i0 i1 iA0 iA1
    have HRR := hide (unhide HMZ)
    have HXW := hide (unhide HXZ)
    clear HMZ HXZ
    have hm0 := (unhide HRR).i
    obtain ⟨i0, i1⟩ := heap_cells2 hm0
    have hx := unhide HXW
    rw [unhide HX] at hx
    obtain ⟨x0, x1, x2, x3⟩ := heap_cells4 hx
    have hm2 := (unhide HRR).r2
    have hm3 := (unhide HRR).r3
    rw [unhide HR2] at hm2
    rw [unhide HR3] at hm3
    obtain ⟨c20, c21⟩ := heap_cells2 hm2
    obtain ⟨c30, c31, c32, c33⟩ := heap_cells4 hm3
    have f2 := fun j => block_frozen hm2 j
    have f3 := fun j => block_frozen hm3 j
    have HM2 := hide hm2
    have HM3 := hide hm3
    clear hm0 hm2 hm3 hx
    have HC : Hid (C = ⟨0, [], [], 0⟩) := by show _ = _; rw [unhide HCC, if_pos he]
    obtain ⟨hl, hz2, hz3⟩ := ((unhide HRR).two4 (unhide HM2) (unhide HM3) (.string (S s3.1)) (.int .i64 s3.2) (.int .i64 0) (.string ⟨#[]⟩) (.string ⟨#[]⟩) (.int .i64 0)).1
    obtain ⟨z0, z1⟩ := heap_cells2 hz2
    obtain ⟨y0, y1, y2, y3⟩ := heap_cells4 hz3
    have HL := hide hl
    clear he HCC HM2 HM3 hl hz2 hz3
    unfold put2 put4 at z0 z1 y0 y1 y2 y3 HL
    go_wp2_with fail
    exact bodyPost_ret (v := .tuple #[.agg #[.string (S s3.1), .int .i64 s3.2], .agg #[.int .i64 0, .string ⟨#[]⟩, .string ⟨#[]⟩, .int .i64 0]]) (by simp [results, Tryd.results24, go_sem, z0, z1, y0, y1, y2, y3]) rfl ⟨by rw [unhide HSS, unhide HC]; rfl, unhide HL⟩

end Go.Proofs.YtfehpjmjchdkgaaDoor
