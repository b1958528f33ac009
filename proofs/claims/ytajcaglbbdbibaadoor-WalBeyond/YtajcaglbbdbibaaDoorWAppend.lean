/- The contract of Append. -/
import Derived.Test.YtajcaglbbdbibaaDoorWSector
import Derived.Test.YtajcaglbbdbibaaDoorWOpen
namespace Go.Proofs.YtajcaglbbdbibaaDoor
open Go.RowKit
set_option linter.unusedVariables false
set_option maxRecDepth 100000

/- The sectors of a text from its piece j on, written one behind the other. -/
def Dev.puts (fr ln : Nat) (s : List UInt8) (x : Nat) : Nat → Nat → Dev → Dev × Int
  | 0, _, d => (d, 0)
  | n + 1, j, d => if d.writeE ((place fr ln (x + j) : Nat) : Int) (Codec.secText (Codec.sec s x j)) ≠ 0 then (d.write ((place fr ln (x + j) : Nat) : Int) (Codec.secText (Codec.sec s x j)), d.writeE ((place fr ln (x + j) : Nat) : Int) (Codec.secText (Codec.sec s x j)))
    else Dev.puts fr ln s x n (j + 1) (d.write ((place fr ln (x + j) : Nat) : Int) (Codec.secText (Codec.sec s x j)))

theorem write_grows (d : Dev) (i : Int) (s : List UInt8) : (d.write i s).left ≤ d.left ∧ (d.write i s).calls ≤ d.calls + 1 ∧ (d.write i s).W.length ≤ d.W.length + 1 := by
  unfold Dev.write
  by_cases h1 : d.no i ∨ 64 < s.length
  · rw [if_pos h1]; exact ⟨Nat.le_refl _, by omega, by omega⟩
  · rw [if_neg h1]
    unfold Dev.begin
    by_cases h2 : d.out
    · rw [if_pos h2, if_pos h2]; exact ⟨Nat.le_refl _, Nat.le_succ _, Nat.le_succ _⟩
    · rw [if_neg h2, if_neg h2]
      refine ⟨?_, Nat.le_refl _, by simp⟩
      show (if d.armed then d.left - 1 else d.left) ≤ d.left
      split <;> omega

structure LStep (b lb : Nat) (w w' : World) : Prop where
  os : w'.os = w.os
  tape : w'.tape = w.tape
  output : w'.output = w.output
  size : w.heap.size ≤ w'.heap.size
  keep : ∀ k, k < w.heap.size → k ≠ lb → DFor w b k → w'.heap[k]? = w.heap[k]? ∧ DFor w' b k
theorem LStep.refl (b lb : Nat) (w : World) : LStep b lb w w := ⟨rfl, rfl, rfl, Nat.le_refl _, fun _ _ _ h => ⟨rfl, h⟩⟩
theorem LStep.trans {b lb : Nat} {u v w : World} (h : LStep b lb u v) (k : LStep b lb v w) : LStep b lb u w :=
  ⟨k.os.trans h.os, k.tape.trans h.tape, k.output.trans h.output, Nat.le_trans h.size k.size, fun i hi hn hf => by
    obtain ⟨e1, f1⟩ := h.keep i hi hn hf
    obtain ⟨e2, f2⟩ := k.keep i (by have := h.size; omega) hn f1
    exact ⟨e2.trans e1, f2⟩⟩
theorem LStep.of {b lb : Nat} {u v : World} (h : DStep b u v) : LStep b lb u v := ⟨h.os, h.tape, h.output, h.size, fun k hk _ hf => h.keep k hk hf⟩

section
variable {base : Nat} {w w' : World} {b lb : Nat} {d : Dev} {fr ln head next : Int}
theorem LogAt.later (h : LogAt base w b lb d fr ln head next) (hb : Below w.heap.size w w') : LogAt base w' b lb d fr ln head next ∧ LStep b lb w w' := by
  obtain ⟨h1, h2⟩ := h.dev.later hb
  exact ⟨⟨h1, h.lo, (hb.block lb (block_lt h.log)).trans h.log, (h2.keep lb (block_lt h.log) h.far).2⟩, LStep.of h2⟩
theorem LogAt.step (h : LogAt base w b lb d fr ln head next) {d' : Dev} (hd : DevAt base w' b d') (hs : DStep b w w') : LogAt base w' b lb d' fr ln head next :=
  ⟨hd, h.lo, (hs.keep lb (block_lt h.log) h.far).1.trans h.log, (hs.keep lb (block_lt h.log) h.far).2⟩
theorem LStep.below (h : LStep b lb w w') (hl : LogAt base w b lb d fr ln head next) (hB : base ≤ w.heap.size) : Below base w w' :=
  ⟨h.os, h.tape, h.output, h.size, fun k hk => (h.keep k (by omega) (by have := hl.lo; omega) (DFor.of_lt hl.dev hk)).1⟩
theorem dev_setOther (h : DevAt base w b d) {N : Nat} (hf : DFor w b N) (k : Nat) (v : Value) : DevAt base (w.setCell ⟨N, k, none⟩ v) b d ∧ DFor (w.setCell ⟨N, k, none⟩ v) b N ∧ ∀ j, DFor w b j → DFor (w.setCell ⟨N, k, none⟩ v) b j := by
  obtain ⟨sv, lv, h⟩ := h
  have ho : ∀ j, j ≠ N → (w.setCell ⟨N, k, none⟩ v).heap[j]? = w.heap[j]? := fun j hj => heap_setCell_other w ⟨N, k, none⟩ j v hj
  have hb := ho b (Ne.symm hf.ne)
  refine ⟨⟨sv, lv, h.same hb (fun j hj => ho j ?_) (fun j hj => ho j ?_)⟩, hf.same hb, fun j hj => hj.same hb⟩
  · rintro rfl; exact hf.sec sv h.c0 hj
  · rintro rfl; exact hf.loo lv h.c1 hj
theorem LogAt.setNext (h : LogAt base w b lb d fr ln head next) (q : Int) : LogAt base (w.setCell ⟨lb, 4, none⟩ (.int .i64 q)) b lb d fr ln head q ∧ LStep b lb w (w.setCell ⟨lb, 4, none⟩ (.int .i64 q)) := by
  obtain ⟨h1, h2, h3⟩ := dev_setOther h.dev h.far 4 (.int .i64 q)
  exact ⟨⟨h1, h.lo, wl_next h.log q, h2⟩, rfl, rfl, rfl, by simp [World.setCell], fun k hk hn hf => ⟨heap_setCell_other w ⟨lb, 4, none⟩ k _ hn, h3 k hf⟩⟩
theorem LogAt.setHead (h : LogAt base w b lb d fr ln head next) (q : Int) : LogAt base (w.setCell ⟨lb, 3, none⟩ (.int .i64 q)) b lb d fr ln q next ∧ LStep b lb w (w.setCell ⟨lb, 3, none⟩ (.int .i64 q)) := by
  obtain ⟨h1, h2, h3⟩ := dev_setOther h.dev h.far 3 (.int .i64 q)
  exact ⟨⟨h1, h.lo, wl_head h.log q, h2⟩, rfl, rfl, rfl, by simp [World.setCell], fun k hk hn hf => ⟨heap_setCell_other w ⟨lb, 3, none⟩ k _ hn, h3 k hf⟩⟩
end

def R0 : Value := .agg #[.int .i64 0, .int .i64 0, .string ⟨#[]⟩]
set_option maxHeartbeats 1600000 in
theorem append_full {base : Nat} {w : World} {b lb : Nat} {d : Dev} {fr ln head x : Nat} (h : LogAt base w b lb d fr ln head x) (s : List UInt8) (hs : s.length ≤ 1099511627776) (h1 : head ≤ x) (h2 : x ≤ 4398046511104) (h3 : ln ≤ 65536) (hfull : ln < x - head + Codec.cost s.length) :
    Calls Tryd.prog 11 #[.pointer (some ⟨lb, 0, none⟩), .string (S s)] w fun e w' => e = .returned (.tuple #[R0, .int .i64 13]) ∧ Below w.heap.size w w' := by
  have HC := hide (fun wy => wcost_any s.length wy hs)
  have hbig : Codec.cost s.length ≤ s.length + 1 := Codec.cost_le _ _ (by omega) (by omega)
  have hsz : (S s).size = s.length := rfl
  obtain ⟨w0, hw0⟩ : ∃ w0, w.alloc (.cells #[.int .i64 0, .int .i64 0, .string ⟨#[]⟩] 37) = w0 := ⟨_, rfl⟩
  have hb0 : Below w.heap.size w w0 := by rw [← hw0]; exact (Below.refl _ _).alloc (Nat.le_refl _) _
  have hz0 : w0.heap[w.heap.size]? = some (.cells #[.int .i64 0, .int .i64 0, .string ⟨#[]⟩] 37 (0, 0)) := by rw [← hw0]; exact heap_alloc_new w _
  have HFR := hide (free_any (h.later hb0).1.log (by omega) (by omega) (by omega) (by omega) (by omega))
  generalize Codec.cost s.length = c at *
  generalize s.length = n at *
  have hgt : (ln : Int) - ((x : Int) - (head : Int)) < (c : Int) := by omega
  generalize (ln : Int) - ((x : Int) - (head : Int)) = f at *
  have HB0 := hide hb0
  have HZ0 := hide hz0
  clear hfull h hb0 hz0
  go_enter Tryd.func11, Tryd.ntmps11
  go_wp2_with fail
  refine (unhide HC _).mono ?_
  rintro e w1 ⟨rfl, rfl⟩
  go_wp2_with fail
  refine (unhide HFR).mono ?_
  rintro e w2 ⟨rfl, nq, rfl⟩
  obtain ⟨M, hM⟩ : ∃ M, w.heap.size = M := ⟨_, rfl⟩
  have hz : (w1.drewN nq).heap[M]? = some (.cells #[.int .i64 0, .int .i64 0, .string ⟨#[]⟩] 37 (0, 0)) := by rw [← hM]; exact unhide HZ0
  have c0 := bcell hz 0
  have c1 := bcell hz 1
  have c2 := bcell hz 2
  have f0 := bfroz hz 0
  have f1 := bfroz hz 1
  have f2 := bfroz hz 2
  simp only [List.getElem?_toArray, List.getElem?_cons_zero, List.getElem?_cons_succ] at c0 c1 c2
  have HBX : Hid (Below M w (w1.drewN nq)) := by rw [← hM]; exact w_below_drewN (unhide HB0) nq
  have HZ := hide hz
  generalize w1.drewN nq = w2 at *
  clear HC HFR HB0 HZ0 hw0 hz
  go_wp2_with fail
  have h9 := set3 (unhide HZ) (.int .i64 0) (.int .i64 0) (.string ⟨#[]⟩)
  have d0 := bcell h9 0
  have d1 := bcell h9 1
  have d2 := bcell h9 2
  simp only [List.getElem?_toArray, List.getElem?_cons_zero, List.getElem?_cons_succ] at d0 d1 d2
  have hb9 := ((((unhide HBX).setCell (p := ⟨M, 0, none⟩) (Nat.le_refl _) (.int .i64 0)).setCell (p := ⟨M, 1, none⟩) (Nat.le_refl _) (.int .i64 0)).setCell (p := ⟨M, 2, none⟩) (Nat.le_refl _) (.string ⟨#[]⟩))
  exact bodyPost_ret (v := .tuple #[R0, .int .i64 13]) (by simp [results, Tryd.results11, go_sem, d0, d1, d2, R0]) rfl ⟨rfl, by rw [hM]; exact hb9⟩
end Go.Proofs.YtajcaglbbdbibaaDoor
