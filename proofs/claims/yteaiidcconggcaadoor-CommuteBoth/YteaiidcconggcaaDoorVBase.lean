/- A state in memory: its type, its number, its rows of two texts; what holds of rows of two texts, wherever they lie. -/
import Derived.Test.YteaiidcconggcaaDoorBundleC1
import Derived.Test.YteaiidcconggcaaDoorDBase
import Derived.Test.YteaiidcconggcaaDoorBundleC2
import Derived.Laws.OwnMore
import Derived.Laws.CopyOwn
import Derived.Deep.RegionHeld3
namespace Go.Proofs.YteaiidcconggcaaDoor
open Go.RowKit
set_option linter.unusedVariables false
set_option maxRecDepth 100000

def R9 : List (List UInt8 × List UInt8) → List Value
  | [] => []
  | x :: r => .string (S x.1) :: .string (S x.2) :: R9 r
theorem R9_append (a b : List (List UInt8 × List UInt8)) : R9 (a ++ b) = R9 a ++ R9 b := by
  induction a with
  | nil => rfl
  | cons x r ih => simp [R9, ih]
theorem R9_length (a : List (List UInt8 × List UInt8)) : (R9 a).length = a.length * 2 := by
  induction a with
  | nil => rfl
  | cons x r ih => simp [R9, ih]; omega
theorem R9_get : ∀ (a : List (List UInt8 × List UInt8)) (k : Nat) (h : k < a.length), (R9 a)[k * 2]? = some (.string (S (a[k]'h).1)) ∧ (R9 a)[k * 2 + 1]? = some (.string (S (a[k]'h).2))
  | x :: r, 0, h => by simp [R9]
  | x :: r, k + 1, h => by
    have := R9_get r k (by simpa using h)
    have e : (k + 1) * 2 = k * 2 + 1 + 1 := by omega
    rw [e]
    simpa [R9] using this
theorem R9_one (l : List (List UInt8 × List UInt8)) : ∀ u ∈ R9 l, u.oneCell' = true := by
  induction l with
  | nil => intro u hu; cases hu
  | cons x r ih =>
    intro u hu
    simp only [R9, List.mem_cons] at hu
    rcases hu with rfl | rfl | hu
    · rfl
    · rfl
    · exact ih u hu

theorem under_box {w : World} (o : Obj) : Below w.heap.size w (w.alloc o) := (Below.refl _ _).alloc (Nat.le_refl _) _
theorem under_two (w : World) (o o' : Obj) : Below w.heap.size w ((w.alloc o).alloc o') := ((Below.refl _ _).alloc (Nat.le_refl _) _).alloc (by simp) _

/- A slice of rows of two texts. -/
def Row2 (w : World) (v : Value) (l : List (List UInt8 × List UInt8)) : Prop :=
  ∃ a c, v = .slice a l.length c ∧ l.length ≤ c ∧ c ≤ maxLen ∧ (a = none → c = 0) ∧ ∀ i u, (R9 l)[i]? = some u → ∃ b off, a = some ⟨b, off, none⟩ ∧ b < w.heap.size ∧ w.cell? ⟨b, off + i, none⟩ = some u

theorem Row2.later {w w' : World} {v : Value} {l : List (List UInt8 × List UInt8)} (h : Row2 w v l) (hb : Below w.heap.size w w') : Row2 w' v l := by
  obtain ⟨a, c, e, h1, h2, h0, h3⟩ := h
  refine ⟨a, c, e, h1, h2, h0, fun i u hu => ?_⟩
  obtain ⟨b, off, ea, hlt, hc⟩ := h3 i u hu
  exact ⟨b, off, ea, by have := hb.size; omega, by rw [hb.cell (p := ⟨b, off + i, none⟩) hlt]; exact hc⟩
theorem Row2.nil (w : World) : Row2 w (.slice none 0 0) [] := ⟨none, 0, rfl, Nat.le_refl _, by simp [maxLen], fun _ => rfl, fun i u h => by simp [R9] at h⟩
theorem Row2.of_own {w : World} {base : Nat} {e : TypeId} {v : Value} {l : List (List UInt8 × List UInt8)} (h : w.ownsRow base e 2 v l.length (R9 l)) : Row2 w v l := by
  rcases h.2 with ⟨rfl, h0⟩ | ⟨g, cap, cur, rfl, hb, hh, hn, hm, hs, ht⟩
  · have : l = [] := List.eq_nil_of_length_eq_zero h0
    subst this
    exact Row2.nil w
  · refine ⟨_, cap, rfl, hn, hm, fun e => (by cases e), fun i u hu => ⟨g, 0, rfl, block_lt hh, ?_⟩⟩
    rw [Nat.zero_add]
    exact ownsRow_cell h rfl i u hu
theorem Row2.at {w : World} {a : Option Addr} {n c : Nat} {l : List (List UInt8 × List UInt8)} (h : Row2 w (.slice a n c) l) (i : Nat) (hi : i < l.length) :
    ∃ b off, a = some ⟨b, off, none⟩ ∧ b < w.heap.size ∧ w.cell? ⟨b, off + i * 2, none⟩ = some (.string (S (l[i]'hi).1)) ∧ w.cell? ⟨b, off + i * 2 + 1, none⟩ = some (.string (S (l[i]'hi).2)) := by
  obtain ⟨a', c', e, h1, h2, h0, h3⟩ := h
  injection e with e1 e2 e3
  subst e1 e2 e3
  obtain ⟨g0, g1⟩ := R9_get l i hi
  obtain ⟨b, off, ea, hlt, hc⟩ := h3 _ _ g0
  obtain ⟨b', off', ea', _, hc'⟩ := h3 _ _ g1
  rw [ea] at ea'
  cases ea'
  exact ⟨b, off, ea, hlt, hc, by rw [Nat.add_assoc]; exact hc'⟩
/- The same, with one block for all. -/
theorem Row2.place {w : World} {a : Option Addr} {n c : Nat} {l : List (List UInt8 × List UInt8)} (h : Row2 w (.slice a n c) l) (hl : 0 < l.length) :
    ∃ b off, a = some ⟨b, off, none⟩ ∧ b < w.heap.size ∧ ∀ i (hi : i < l.length), w.cell? ⟨b, off + i * 2, none⟩ = some (.string (S (l[i]'hi).1)) ∧ w.cell? ⟨b, off + i * 2 + 1, none⟩ = some (.string (S (l[i]'hi).2)) := by
  obtain ⟨b, off, e, hlt, _⟩ := h.at 0 hl
  refine ⟨b, off, e, hlt, fun i hi => ?_⟩
  obtain ⟨b', off', e', _, hc⟩ := h.at i hi
  rw [e] at e'
  cases e'
  exact hc
theorem Row2.shape {w : World} {v : Value} {l : List (List UInt8 × List UInt8)} (h : Row2 w v l) : ∃ a c, v = .slice a l.length c ∧ l.length ≤ c ∧ c ≤ maxLen := by
  obtain ⟨a, c, e, h1, h2, _, _⟩ := h
  exact ⟨a, c, e, h1, h2⟩
theorem Row2.src {w : World} {v : Value} {l : List (List UInt8 × List UInt8)} {t e : TypeId} (ht : Tryd.prog.underlying t = some (.slice e)) (h : Row2 w v l) : ∃ a c, v = .slice a l.length c ∧ Src Tryd.prog 2 t (.slice a l.length c) l.length (R9 l) w := by
  obtain ⟨a, c, rfl, hl, hm, h0, h3⟩ := h
  refine ⟨a, c, rfl, ?_⟩
  rcases a with _ | x
  · have hc := h0 rfl
    have : l = [] := List.eq_nil_of_length_eq_zero (by omega)
    subst this
    exact Src.ofNil _ ht c
  · refine Src.ofSlice _ ht x l.length c (R9 l) (R9_length l) (fun j u hu => ?_) (R9_one l)
    obtain ⟨b, off, e, _, hc⟩ := h3 j u hu
    cases e
    rw [plain_add]
    exact hc
/- A part of rows. -/
theorem R9_part (l : List (List UInt8 × List UInt8)) (i j : Nat) (k : Nat) (u : Value) (h : (R9 ((l.take j).drop i))[k]? = some u) : (R9 l)[i * 2 + k]? = some u := by
  have e1 : ∀ (l : List (List UInt8 × List UInt8)) (n : Nat), R9 (l.drop n) = (R9 l).drop (n * 2) := by
    intro l n
    induction n generalizing l with
    | zero => simp
    | succ n ih =>
      cases l with
      | nil => simp [R9]
      | cons x r =>
        have e : (n + 1) * 2 = n * 2 + 1 + 1 := by omega
        rw [List.drop_succ_cons, ih r, e]
        simp [R9]
  have e2 : ∀ (l : List (List UInt8 × List UInt8)) (n : Nat), R9 (l.take n) = (R9 l).take (n * 2) := by
    intro l n
    induction n generalizing l with
    | zero => simp [R9]
    | succ n ih =>
      cases l with
      | nil => simp [R9]
      | cons x r =>
        have e : (n + 1) * 2 = n * 2 + 1 + 1 := by omega
        rw [List.take_succ_cons, e]
        simp [R9, ih r]
  rw [e1, e2, List.getElem?_drop, List.getElem?_take] at h
  split at h
  · exact h
  · cases h
theorem Row2.part {w : World} {a : Option Addr} {n c : Nat} {l : List (List UInt8 × List UInt8)} (h : Row2 w (.slice a n c) l) (i j : Nat) (hij : i ≤ j) (hj : j ≤ l.length) (a' : Option Addr) (ha : i < j → ∃ b off, a = some ⟨b, off, none⟩ ∧ a' = some ⟨b, off + i * 2, none⟩) (hn : a' = none → c - i = 0) : Row2 w (.slice a' (j - i) (c - i)) ((l.take j).drop i) := by
  obtain ⟨a0, c0, e, h1, h2, h0, h3⟩ := h
  injection e with e1 e2 e3
  subst e1 e2 e3
  have hl : ((l.take j).drop i).length = j - i := by simp; omega
  refine ⟨a', c - i, by rw [hl], by rw [hl]; omega, by omega, hn, fun k u hu => ?_⟩
  obtain ⟨b, off, ea, hlt, hc⟩ := h3 _ u (R9_part l i j k u hu)
  have hk : k < ((l.take j).drop i).length * 2 := by
    rcases Nat.lt_or_ge k (((l.take j).drop i).length * 2) with h | h
    · exact h
    · rw [List.getElem?_eq_none (by rw [R9_length]; exact h)] at hu; cases hu
  obtain ⟨b', off', ea', rfl⟩ := ha (by omega)
  rw [ea] at ea'
  cases ea'
  exact ⟨b, off + i * 2, rfl, hlt, by rw [Nat.add_assoc]; exact hc⟩

/- A state: its type, its number, its rows. -/
structure VS where
  kind : Int
  n : Int
  rows : List (List UInt8 × List UInt8)

def StAt (w : World) (v : Value) (s : VS) : Prop := ∃ k, v = .agg #[.int .i64 s.kind, .int .i64 s.n, k] ∧ Row2 w k s.rows
def StOwn (base : Nat) (t : TypeId) (w : World) (v : Value) (s : VS) : Prop := ∃ k, v = .agg #[.int .i64 s.kind, .int .i64 s.n, k] ∧ w.ownsRow base t 2 k s.rows.length (R9 s.rows)
theorem StAt.later {w w' : World} {v : Value} {s : VS} (h : StAt w v s) (hb : Below w.heap.size w w') : StAt w' v s := by
  obtain ⟨k, e, h1⟩ := h
  exact ⟨k, e, h1.later hb⟩
theorem StOwn.at {base : Nat} {t : TypeId} {w : World} {v : Value} {s : VS} (h : StOwn base t w v s) : StAt w v s := by
  obtain ⟨k, e, h1⟩ := h
  exact ⟨k, e, Row2.of_own h1⟩
theorem StOwn.later {base : Nat} {t : TypeId} {w w' : World} {v : Value} {s : VS} (h : StOwn base t w v s) (hb : Below w.heap.size w w') : StOwn base t w' v s := by
  obtain ⟨k, e, h1⟩ := h
  exact ⟨k, e, ownsRow_below h1 hb⟩
theorem StOwn.less {base base' : Nat} {t : TypeId} {w : World} {v : Value} {s : VS} (h : StOwn base t w v s) (hb : base' ≤ base) : StOwn base' t w v s := by
  obtain ⟨k, e, h1⟩ := h
  exact ⟨k, e, ownsRow_less h1 hb⟩
/- A box of three cells, behind whatever left it alone. -/
theorem box3 {w w1 : World} {a b c : Value} {t : TypeId} (hb : Below (w.heap.size + 1) (w.alloc (.cells #[a, b, c] t)) w1) :
    w1.cell? ⟨w.heap.size, 0, none⟩ = some a ∧ w1.cell? ⟨w.heap.size, 1, none⟩ = some b ∧ w1.cell? ⟨w.heap.size, 2, none⟩ = some c ∧ w.heap.size + 1 ≤ w1.heap.size ∧ Below w.heap.size w w1 := by
  have hs := hb.size
  rw [World.size_alloc] at hs
  refine ⟨?_, ?_, ?_, hs, (under_box _).trans (hb.mono (by omega))⟩ <;> rw [hb.cell (by show w.heap.size < _; omega)] <;> simp

/- Behind a new box: all but it is as it was, and it too. -/
def Bx (w0 : World) (o : Obj) (w1 : World) : Prop := Below (w0.heap.size + 1) (w0.alloc o) w1
section
variable {w0 w w' : World} {o : Obj}
theorem Bx.start (w0 : World) (o : Obj) : Bx w0 o (w0.alloc o) := Below.refl _ _
theorem Bx.size (h : Bx w0 o w) : w0.heap.size + 1 ≤ w.heap.size := by
  have := Below.size h
  rwa [World.size_alloc] at this
theorem Bx.below (h : Bx w0 o w) (hb : Below w.heap.size w w') : Bx w0 o w' := Below.trans h (hb.mono h.size)
theorem Bx.drew (h : Bx w0 o w) : Bx w0 o w.drew := Below.drew h
theorem Bx.alloc (h : Bx w0 o w) (o' : Obj) : Bx w0 o (w.alloc o') := h.below (under_box o')
theorem Bx.low (h : Bx w0 o w) : Below w0.heap.size w0 w := (under_box o).trans (Below.mono h (by omega))
theorem Bx.heap (h : Bx w0 o w) : w.heap[w0.heap.size]? = some o := (Below.block h w0.heap.size (by omega)).trans (heap_alloc_new w0 o)
theorem Bx.cells3 {a b c : Value} {t : TypeId} (ho : o = .cells #[a, b, c] t (0, 0)) : (∀ w1, Bx w0 o w1 → w1.cell? ⟨w0.heap.size, 0, none⟩ = some a) ∧ (∀ w1, Bx w0 o w1 → w1.cell? ⟨w0.heap.size, 1, none⟩ = some b) ∧ (∀ w1, Bx w0 o w1 → w1.cell? ⟨w0.heap.size, 2, none⟩ = some c) := by
  subst ho
  refine ⟨fun w1 h => ?_, fun w1 h => ?_, fun w1 h => ?_⟩ <;> rw [block_cell h.heap] <;> rfl
end
def put3 (w : World) (N : Nat) (a b c : Value) : World := ((w.setCell ⟨N, 0, none⟩ a).setCell ⟨N, 1, none⟩ b).setCell ⟨N, 2, none⟩ c
theorem put3_other (w : World) {N : Nat} (a b c : Value) {k : Nat} (hk : k ≠ N) : (put3 w N a b c).heap[k]? = w.heap[k]? := by
  unfold put3
  rw [heap_setCell_other _ ⟨N, 2, none⟩ k _ hk, heap_setCell_other _ ⟨N, 1, none⟩ k _ hk, heap_setCell_other _ ⟨N, 0, none⟩ k _ hk]
theorem put3_size (w : World) {N : Nat} (a b c : Value) : (put3 w N a b c).heap.size = w.heap.size := by simp [put3]
theorem put3_cells {w : World} {N : Nat} {a0 b0 c0 : Value} {t : TypeId} (h : w.heap[N]? = some (.cells #[a0, b0, c0] t (0, 0))) (a b c : Value) :
    (put3 w N a b c).cell? ⟨N, 0, none⟩ = some a ∧ (put3 w N a b c).cell? ⟨N, 1, none⟩ = some b ∧ (put3 w N a b c).cell? ⟨N, 2, none⟩ = some c := by
  have h1 := heap_setCell_same w N 0 _ _ a h
  have h2 := heap_setCell_same _ N 1 _ _ b h1
  have h3 := heap_setCell_same _ N 2 _ _ c h2
  have h4 : (put3 w N a b c).heap[N]? = some (.cells #[a, b, c] t (0, 0)) := by
    unfold put3
    simpa [Array.setIfInBounds] using h3
  refine ⟨?_, ?_, ?_⟩ <;> rw [block_cell h4] <;> rfl
end Go.Proofs.YteaiidcconggcaaDoor
