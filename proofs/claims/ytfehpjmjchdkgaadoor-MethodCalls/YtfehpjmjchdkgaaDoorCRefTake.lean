/- The contracts of the reference's take, TakeU, TakeI, TakeN, TakeS, Fail, End: the same plain functions, as long as nothing is left beside an error. -/
import Derived.Test.YtfehpjmjchdkgaaDoorCIn2
import Derived.Test.YtfehpjmjchdkgaaDoorCOneMath
namespace Go.Proofs.YtfehpjmjchdkgaaDoor
open Go.RowKit
set_option linter.unusedVariables false
set_option maxRecDepth 100000

theorem belowCells {W w1 : World} (hb : Below W.heap.size W w1) : (∀ b o, b < W.heap.size → w1.cell? ⟨b, o, none⟩ = W.cell? ⟨b, o, none⟩) ∧ (∀ b o, b < W.heap.size → w1.frozen? ⟨b, o, none⟩ = W.frozen? ⟨b, o, none⟩) :=
  ⟨fun b o h => hb.cell (p := ⟨b, o, none⟩) h, fun b o h => hb.frozen (p := ⟨b, o, none⟩) h⟩

/- Two boxes of two cells, and a call behind them that leaves them as they are. -/
structure Two (w w1 : World) (a0 a1 b0 b1 : Value) : Prop where
  c0 : w1.cell? ⟨w.heap.size, 0, none⟩ = some a0
  c1 : w1.cell? ⟨w.heap.size, 1, none⟩ = some a1
  d0 : w1.cell? ⟨w.heap.size + 1, 0, none⟩ = some b0
  d1 : w1.cell? ⟨w.heap.size + 1, 1, none⟩ = some b1
  f0 : w1.frozen? ⟨w.heap.size, 0, none⟩ = false
  f1 : w1.frozen? ⟨w.heap.size, 1, none⟩ = false
  g0 : w1.frozen? ⟨w.heap.size + 1, 0, none⟩ = false
  g1 : w1.frozen? ⟨w.heap.size + 1, 1, none⟩ = false
  size : w.heap.size + 2 ≤ w1.heap.size
  below : Below w.heap.size w w1
theorem two_boxes {w w1 : World} {a0 a1 b0 b1 : Value} {t u : TypeId} (hb : Below ((w.alloc (Obj.cells #[a0, a1] t)).alloc (Obj.cells #[b0, b1] u)).heap.size ((w.alloc (Obj.cells #[a0, a1] t)).alloc (Obj.cells #[b0, b1] u)) w1) : Two w w1 a0 a1 b0 b1 := by
  refine ⟨?_, ?_, ?_, ?_, ?_, ?_, ?_, ?_, ?_, ?_⟩
  · rw [hb.cell (p := ⟨w.heap.size, 0, none⟩) (by simp; omega)]; simp
  · rw [hb.cell (p := ⟨w.heap.size, 1, none⟩) (by simp; omega)]; simp
  · rw [hb.cell (p := ⟨w.heap.size + 1, 0, none⟩) (by simp)]; simp
  · rw [hb.cell (p := ⟨w.heap.size + 1, 1, none⟩) (by simp)]; simp
  · rw [hb.frozen (p := ⟨w.heap.size, 0, none⟩) (by simp; omega)]; simp
  · rw [hb.frozen (p := ⟨w.heap.size, 1, none⟩) (by simp; omega)]; simp
  · rw [hb.frozen (p := ⟨w.heap.size + 1, 0, none⟩) (by simp)]; simp
  · rw [hb.frozen (p := ⟨w.heap.size + 1, 1, none⟩) (by simp)]; simp
  · have := hb.size; simp at this; omega
  · exact (((Below.refl _ _).alloc (Nat.le_refl _) _).alloc (by simp) _).trans (hb.mono (by simp; omega))
theorem Two.later {w w1 w2 : World} {a0 a1 b0 b1 : Value} (h : Two w w1 a0 a1 b0 b1) (hb : Below w1.heap.size w1 w2) : Two w w2 a0 a1 b0 b1 := by
  have hs := h.size
  refine ⟨?_, ?_, ?_, ?_, ?_, ?_, ?_, ?_, ?_, ?_⟩
  · rw [hb.cell (p := ⟨w.heap.size, 0, none⟩) (by simp; omega)]; exact h.c0
  · rw [hb.cell (p := ⟨w.heap.size, 1, none⟩) (by simp; omega)]; exact h.c1
  · rw [hb.cell (p := ⟨w.heap.size + 1, 0, none⟩) (by simp; omega)]; exact h.d0
  · rw [hb.cell (p := ⟨w.heap.size + 1, 1, none⟩) (by simp; omega)]; exact h.d1
  · rw [hb.frozen (p := ⟨w.heap.size, 0, none⟩) (by simp; omega)]; exact h.f0
  · rw [hb.frozen (p := ⟨w.heap.size, 1, none⟩) (by simp; omega)]; exact h.f1
  · rw [hb.frozen (p := ⟨w.heap.size + 1, 0, none⟩) (by simp; omega)]; exact h.g0
  · rw [hb.frozen (p := ⟨w.heap.size + 1, 1, none⟩) (by simp; omega)]; exact h.g1
  · have := hb.size; omega
  · exact h.below.trans (hb.mono (by omega))
theorem Two.put {w w1 : World} {a0 a1 b0 b1 : Value} (h : Two w w1 a0 a1 b0 b1) (x y : Value) : Two w ((w1.setCell ⟨w.heap.size, 0, none⟩ x).setCell ⟨w.heap.size, 1, none⟩ y) x y b0 b1 := by
  have hs := h.size
  have c0 := h.c0
  have c1 := h.c1
  have d0 := h.d0
  have d1 := h.d1
  have f0 := h.f0
  have f1 := h.f1
  have g0 := h.g0
  have g1 := h.g1
  refine ⟨?_, ?_, ?_, ?_, ?_, ?_, ?_, ?_, ?_, ?_⟩
  · simp [World.cell?_setCell_same _ _ _ c0, World.cell?_setCell_other]
  · have k1 : (w1.setCell ⟨w.heap.size, 0, none⟩ x).cell? ⟨w.heap.size, 1, none⟩ = some a1 := by rw [World.cell?_setCell_other _ _ _ _ (by simp)]; exact c1
    rw [World.cell?_setCell_same _ _ _ k1]
  · rw [World.cell?_setCell_other _ _ _ _ (by simp), World.cell?_setCell_other _ _ _ _ (by simp)]; exact d0
  · rw [World.cell?_setCell_other _ _ _ _ (by simp), World.cell?_setCell_other _ _ _ _ (by simp)]; exact d1
  · rw [World.frozen?_setCell, World.frozen?_setCell]; exact f0
  · rw [World.frozen?_setCell, World.frozen?_setCell]; exact f1
  · rw [World.frozen?_setCell, World.frozen?_setCell]; exact g0
  · rw [World.frozen?_setCell, World.frozen?_setCell]; exact g1
  · simpa using hs
  · exact (h.below.setCell (p := ⟨w.heap.size, 0, none⟩) (Nat.le_refl _) _).setCell (p := ⟨w.heap.size, 1, none⟩) (Nat.le_refl _) _

theorem Two.out {w w1 : World} {a0 a1 b0 b1 : Value} (h : Two w w1 a0 a1 b0 b1) (x y : Value) : Two w ((w1.setCell ⟨w.heap.size + 1, 0, none⟩ x).setCell ⟨w.heap.size + 1, 1, none⟩ y) a0 a1 x y := by
  have hs := h.size
  have c0 := h.c0
  have c1 := h.c1
  have d0 := h.d0
  have d1 := h.d1
  have f0 := h.f0
  have f1 := h.f1
  have g0 := h.g0
  have g1 := h.g1
  refine ⟨?_, ?_, ?_, ?_, ?_, ?_, ?_, ?_, ?_, ?_⟩
  · rw [World.cell?_setCell_other _ _ _ _ (by simp), World.cell?_setCell_other _ _ _ _ (by simp)]; exact c0
  · rw [World.cell?_setCell_other _ _ _ _ (by simp), World.cell?_setCell_other _ _ _ _ (by simp)]; exact c1
  · simp [World.cell?_setCell_same _ _ _ d0, World.cell?_setCell_other]
  · have k1 : (w1.setCell ⟨w.heap.size + 1, 0, none⟩ x).cell? ⟨w.heap.size + 1, 1, none⟩ = some b1 := by rw [World.cell?_setCell_other _ _ _ _ (by simp)]; exact d1
    rw [World.cell?_setCell_same _ _ _ k1]
  · rw [World.frozen?_setCell, World.frozen?_setCell]; exact f0
  · rw [World.frozen?_setCell, World.frozen?_setCell]; exact f1
  · rw [World.frozen?_setCell, World.frozen?_setCell]; exact g0
  · rw [World.frozen?_setCell, World.frozen?_setCell]; exact g1
  · simpa using hs
  · exact (h.below.setCell (p := ⟨w.heap.size + 1, 0, none⟩) (Nat.le_succ _) _).setCell (p := ⟨w.heap.size + 1, 1, none⟩) (Nat.le_succ _) _
theorem Two.drew {w w1 : World} {a0 a1 b0 b1 : Value} (h : Two w w1 a0 a1 b0 b1) : Two w w1.drew a0 a1 b0 b1 := ⟨h.c0, h.c1, h.d0, h.d1, h.f0, h.f1, h.g0, h.g1, h.size, h.below.drew⟩

/- Beside an error nothing is left. -/
def Inv (s : Codec.St) : Prop := s.2 ≠ 0 → s.1 = []
def InV (s : Codec.St) : Value := .agg #[.string (S s.1), .int .i64 s.2]

set_option maxHeartbeats 400000 in
theorem rfail_any (s : Codec.St) (c : Int) (w : World) :
    Calls Tryd.prog 48 #[InV s, .int .i64 c] w fun e w' => e = .returned (InV (Codec.fail c s)) ∧ Below w.heap.size w w' := by
  obtain ⟨l, er⟩ := s
  unfold InV
  by_cases h1 : er = 0
  · by_cases h2 : c = 0
    · subst h1 h2
      have e : Codec.fail 0 (l, 0) = (l, 0) := by simp [Codec.fail]
      rw [e]
      clear e
      go_enter Tryd.func48, Tryd.ntmps48
      go_wp2
      exact bodyPost_ret (v := .agg #[.string (S l), .int .i64 0]) (by simp [results, Tryd.results48, go_sem]) rfl ⟨rfl, ((Below.refl _ _).alloc (Nat.le_refl _) _).alloc (by simp) _⟩
    · subst h1
      have e : Codec.fail c (l, 0) = ([], c) := by simp [Codec.fail, h2]
      rw [e]
      have h3 : (c != 0) = true := by rw [bne_iff_ne]; exact h2
      clear e h2
      go_enter Tryd.func48, Tryd.ntmps48
      go_wp2
      exact bodyPost_ret (v := .agg #[.string ⟨#[]⟩, .int .i64 c]) (by simp [results, Tryd.results48, go_sem]) rfl ⟨rfl, ((Below.refl _ _).alloc (Nat.le_refl _) _).alloc (by simp) _⟩
  · have e : Codec.fail c (l, er) = (l, er) := by simp [Codec.fail, h1]
    rw [e]
    have h3 : (er == 0) = false := by rw [beq_eq_false_iff_ne]; exact h1
    clear e h1
    go_enter Tryd.func48, Tryd.ntmps48
    go_wp2
    exact bodyPost_ret (v := .agg #[.string (S l), .int .i64 er]) (by simp [results, Tryd.results48, go_sem]) rfl ⟨rfl, ((Below.refl _ _).alloc (Nat.le_refl _) _).alloc (by simp) _⟩

set_option maxHeartbeats 400000 in
theorem rtake_any (s : Codec.St) (n : Nat) (w : World) (hi : Inv s) (hl : s.1.length ≤ 1099511627776) :
    Calls Tryd.prog 57 #[InV s, .int .i64 n] w fun e w' => e = .returned (.tuple #[InV (Codec.take n s).2, .string (S (Codec.take n s).1)]) ∧ Below w.heap.size w w' := by
  obtain ⟨l, er⟩ := s
  unfold InV
  have hsz : (S l).size = l.length := S_size l
  simp only at hl
  by_cases h1 : er = 0
  · subst h1
    by_cases hn : n ≤ l.length
    · have e : Codec.take n (l, 0) = (l.take n, (l.drop n, 0)) := by simp [Codec.take, hn]
      rw [e]
      clear e
      have ht := S_take l n
      have hd := S_drop l n
      rw [hsz] at hd
      go_enter Tryd.func57, Tryd.ntmps57
      go_wp2_with fail
      go_region
      go_wp2
      exact bodyPost_ret (v := .tuple #[.agg #[.string (S (l.drop n)), .int .i64 0], .string (S (l.take n))]) (by simp [results, Tryd.results57, go_sem]) rfl ⟨rfl, (((Below.refl _ _).alloc (Nat.le_refl _) _).alloc (by simp) _).drew⟩
    · have e : Codec.take n (l, 0) = ([], ([], 1)) := by simp [Codec.take, hn, Codec.fail]
      rw [e]
      clear e
      go_enter Tryd.func57, Tryd.ntmps57
      go_wp2
      exact bodyPost_ret (v := .tuple #[.agg #[.string ⟨#[]⟩, .int .i64 1], .string ⟨#[]⟩]) (by simp [results, Tryd.results57, go_sem]) rfl ⟨rfl, ((Below.refl _ _).alloc (Nat.le_refl _) _).alloc (by simp) _⟩
  · have hl0 : l = [] := hi h1
    subst hl0
    have e : Codec.take n ([], er) = ([], ([], er)) := by
      by_cases hn : n = 0
      · simp [Codec.take, hn]
      · simp [Codec.take, hn, Codec.fail, h1]
    rw [e]
    have h3 : (er != 0) = true := by rw [bne_iff_ne]; exact h1
    clear e h1 hi
    go_enter Tryd.func57, Tryd.ntmps57
    go_wp2
    exact bodyPost_ret (v := .tuple #[.agg #[.string (S []), .int .i64 er], .string ⟨#[]⟩]) (by simp [results, Tryd.results57, go_sem]) rfl ⟨rfl, ((Below.refl _ _).alloc (Nat.le_refl _) _).alloc (by simp) _⟩

/- The ways of a number's taking. -/
theorem takeU_err (er : Int) (h : er ≠ 0) : Codec.takeU ([], er) = (0, ([], er)) ∧ Codec.take 1 ([], er) = ([], ([], er)) := by
  have t1 : Codec.take 1 ([], er) = ([], ([], er)) := by simp [Codec.take, Codec.fail, h]
  have s1 : Codec.size ([], er) = (0, ([], er)) := by unfold Codec.size; rw [t1]
  have d1 : Codec.digits ([], er) = ([], ([], er)) := by unfold Codec.digits; rw [s1]; simp [Codec.take]
  exact ⟨by unfold Codec.takeU; rw [d1], t1⟩
theorem takeU_none : Codec.takeU ([], 0) = (0, ([], 1)) ∧ Codec.take 1 ([], 0) = ([], ([], 1)) := by decide
theorem takeU_first (k : UInt8) (r : List UInt8) : Codec.take 1 (k :: r, 0) = ([k], (r, 0)) := by simp [Codec.take]
theorem takeU_big (k : UInt8) (r : List UInt8) (hk : 8 < k.toNat) : Codec.takeU (k :: r, 0) = (0, ([], 2)) := by
  have s1 : Codec.size (k :: r, 0) = (0, ([], 2)) := by unfold Codec.size; rw [takeU_first]; dsimp only; rw [if_pos hk, Codec.fail_err 2 r (by decide)]
  have d1 : Codec.digits (k :: r, 0) = ([], ([], 2)) := by unfold Codec.digits; rw [s1]; rfl
  unfold Codec.takeU; rw [d1]
theorem digits_first (k : UInt8) (r : List UInt8) (hk : ¬ 8 < k.toNat) : Codec.digits (k :: r, 0) = Codec.take k.toNat (r, 0) := by
  have s1 : Codec.size (k :: r, 0) = (k.toNat, (r, 0)) := by unfold Codec.size; rw [takeU_first]; dsimp only; rw [if_neg hk]
  unfold Codec.digits; rw [s1]
theorem takeU_nil (k : UInt8) (r : List UInt8) (st : Codec.St) (hk : ¬ 8 < k.toNat) (h : Codec.take k.toNat (r, 0) = ([], st)) : Codec.takeU (k :: r, 0) = (0, st) := by
  have d1 := digits_first k r hk
  rw [h] at d1
  unfold Codec.takeU
  rw [d1]
theorem takeU_cons (k : UInt8) (r : List UInt8) (c : UInt8) (q : List UInt8) (st : Codec.St) (hk : ¬ 8 < k.toNat) (h : Codec.take k.toNat (r, 0) = (c :: q, st)) :
    Codec.takeU (k :: r, 0) = if c.toNat = 0 then (0, Codec.fail 2 st) else (Codec.val (c :: q), st) := by
  have d1 := digits_first k r hk
  rw [h] at d1
  unfold Codec.takeU
  rw [d1]

end Go.Proofs.YtfehpjmjchdkgaaDoor
