/- The contract of Scan: what it finds, as rows of records. -/
import Derived.Test.YtajcaglbbdbibaaDoorWCalls
namespace Go.Proofs.YtajcaglbbdbibaaDoor
open Go.RowKit
set_option linter.unusedVariables false
set_option maxRecDepth 100000

def rcs : List Codec.Rec → List Value
  | [] => []
  | r :: l => .int .i64 (r.first : Int) :: .int .i64 (r.last : Int) :: .string (S r.text) :: rcs l
theorem rcs_append (a b : List Codec.Rec) : rcs (a ++ b) = rcs a ++ rcs b := by
  induction a with
  | nil => rfl
  | cons x r ih => simp [rcs, ih]
theorem info_rec : (Tryd.prog.info? 37).map (fun i => (i.zero, i.size, i.bytes)) = some (some (.agg #[.int .i64 0, .int .i64 0, .string ⟨#[]⟩]), 3, 32) := by kernel_rfl
theorem under_recs : Tryd.prog.underlying 45 = some (.slice 37) := by kernel_rfl

/- What stands at a stamp's place. -/
def view (d : Dev) (fr ln a : Nat) : Option Codec.Sec := if (Codec.parse (d.cur (place fr ln a))).2 = 0 then some (Codec.parse (d.cur (place fr ln a))).1 else none

/- The state of a scan in memory. -/
structure SR (w wr : World) (A B : Nat) (fr ln : Int) (v : Value) (rs : List Codec.Rec) (t : List UInt8) : Prop where
  low : Below w.heap.size w wr
  area : wr.heap[A]? = some (.cells #[.int .i64 fr, .int .i64 ln] 25 (0, 0))
  bld : Lib.IsBuilderF 75 5 w.heap.size B (Lib.byteCells t) wr
  row : wr.ownsRow w.heap.size 37 3 v rs.length (rcs rs)

theorem isBuilderF_keep {T e : TypeId} {B b : Nat} {bs : List Value} {w w' : World} (h : Lib.IsBuilderF T e B b bs w) (hk : w'.heap[b]? = w.heap[b]?) (hr : ∀ (k : Nat) (c : Array Value) (fz : Nat × Nat), w.heap[k]? = some (Obj.cells c e fz) → w'.heap[k]? = w.heap[k]?) : Lib.IsBuilderF T e B b bs w' := by
  have one : ∀ p, Lib.BuilderAtF T e B b p bs w → Lib.BuilderAtF T e B b p bs w' := by
    rintro p ⟨hB, v, hb, hown, hne⟩
    refine ⟨hB, v, by rw [hk]; exact hb, ⟨hown.1, ?_⟩, hne⟩
    rcases hown.2 with h0 | ⟨g, cap, cur, fz, hv, hg, hh, r⟩
    · exact Or.inl h0
    · exact Or.inr ⟨g, cap, cur, fz, hv, hg, by rw [hr g cur fz hh]; exact hh, r⟩
  rcases h with h | h
  · exact Or.inl (one _ h)
  · exact Or.inr (one _ h)
theorem isBuilderF_lt {T e : TypeId} {B b : Nat} {bs : List Value} {w : World} (h : Lib.IsBuilderF T e B b bs w) : b < w.heap.size := by
  rcases h with h | h <;> exact h.lt
theorem isBuilderF_blk {T e : TypeId} {B b : Nat} {bs : List Value} {w : World} (h : Lib.IsBuilderF T e B b bs w) : ∃ p v, w.heap[b]? = some (.cells #[p, v] T (0, 0)) ∧ B ≤ b := by
  rcases h with ⟨hB, v, hb, _⟩ | ⟨hB, v, hb, _⟩
  · exact ⟨_, v, hb, hB⟩
  · exact ⟨_, v, hb, hB⟩

section
variable {w wr w' : World} {A B : Nat} {fr ln : Int} {v : Value} {rs : List Codec.Rec} {t : List UInt8}
theorem SR.later (h : SR w wr A B fr ln v rs t) (hb : Below wr.heap.size wr w') : SR w w' A B fr ln v rs t :=
  ⟨h.low.trans (hb.mono h.low.size), (hb.block A (block_lt h.area)).trans h.area, isBuilderF_keep h.bld (hb.block B (isBuilderF_lt h.bld)) (fun k c fz hk => hb.block k (block_lt hk)), ownsRow_later h.row hb⟩
theorem SR.kept (h : SR w wr A B fr ln v rs t) (t' : List UInt8) (hb : Lib.IsBuilderF 75 5 w.heap.size B (Lib.byteCells t') w') (hl : Below w.heap.size wr w') (ho : Lib.OthersKept 5 (some B) wr w') : SR w w' A B fr ln v rs t' := by
  obtain ⟨p, q, hB, _⟩ := isBuilderF_blk h.bld
  refine ⟨h.low.trans hl, ho A _ h.area ?_ ?_, hb, ownsRow_same h.row fun k hk => ?_⟩
  · intro e
    cases e
    rw [h.area] at hB
    simp at hB
  · intro c fz e
    cases e
  · obtain ⟨cur, hc, _⟩ := ownsRow_blk h.row hk
    rw [hc]
    refine ho k _ hc ?_ ?_
    · intro e
      cases e
      rw [hc] at hB
      simp at hB
    · intro c fz e
      cases e
theorem SR.written (h : SR w wr A B fr ln v rs t) (s : List UInt8) (hb : Lib.BuilderAtF 75 5 w.heap.size B (.pointer (some ⟨B, 0, none⟩)) (Lib.byteCells t ++ Lib.strCells (S s)) w') (hl : Below w.heap.size wr w') (ho : Lib.OthersKept 5 (some B) wr w') : SR w w' A B fr ln v rs (t ++ s) := by
  refine h.kept (t ++ s) (Or.inr ?_) hl ho
  have : Lib.byteCells (t ++ s) = Lib.byteCells t ++ Lib.strCells (S s) := by simp [Lib.byteCells, Lib.strCells, S]
  rw [this]
  exact hb
theorem SR.reset (h : SR w wr A B fr ln v rs t) : SR w ((wr.setCell ⟨B, 0, none⟩ (.pointer none)).setCell ⟨B, 1, none⟩ (.slice none 0 0)) A B fr ln v rs [] := by
  obtain ⟨p, q, hB, hlo⟩ := isBuilderF_blk h.bld
  have ho : ∀ j, j ≠ B → ((wr.setCell ⟨B, 0, none⟩ (.pointer none)).setCell ⟨B, 1, none⟩ (.slice none 0 0)).heap[j]? = wr.heap[j]? := fun j hj => by
    rw [heap_setCell_other _ ⟨B, 1, none⟩ j _ hj, heap_setCell_other _ ⟨B, 0, none⟩ j _ hj]
  have hs : ((wr.setCell ⟨B, 0, none⟩ (.pointer none)).setCell ⟨B, 1, none⟩ (.slice none 0 0)).heap[B]? = some (.cells #[.pointer none, .slice none 0 0] 75 (0, 0)) := by
    have h1 := heap_setCell_same wr B 0 _ _ (.pointer none) hB
    exact heap_setCell_same _ B 1 _ _ (.slice none 0 0) h1
  refine ⟨(h.low.setCell (p := ⟨B, 0, none⟩) hlo _).setCell (p := ⟨B, 1, none⟩) hlo _, ?_, Or.inl ⟨hlo, .slice none 0 0, hs, World.ownsRowF_nil _ _ _ _, fun e => by cases e⟩, ownsRow_same h.row fun k hk => ho k ?_⟩
  · rw [ho A]
    · exact h.area
    · rintro rfl
      rw [h.area] at hB
      simp at hB
  · rintro rfl
    obtain ⟨cur, hc, _⟩ := ownsRow_blk h.row hk
    rw [hc] at hB
    simp at hB
theorem SR.grown (h : SR w wr A B fr ln v rs t) {v' : Value} (r : Codec.Rec) (hown : w'.ownsRow w.heap.size 37 3 v' (rs.length + 1) (rcs rs ++ [.int .i64 (r.first : Int), .int .i64 (r.last : Int), .string (S r.text)])) (hg : wr.grownBy w' v.ownBlock) : SR w w' A B fr ln v' (rs ++ [r]) t := by
  have hne : ∀ (k : Nat) (cs : Array Value) (ty : TypeId) (fz : Nat × Nat), wr.heap[k]? = some (Obj.cells cs ty fz) → ty ≠ 37 → w'.heap[k]? = wr.heap[k]? := fun k cs ty fz hk hty => by
    refine hg.block k (block_lt hk) fun e => ?_
    exact ownsRow_unlike h.row hk (Ne.symm hty) e.symm
  obtain ⟨p, q, hB, _⟩ := isBuilderF_blk h.bld
  refine ⟨h.low.grown hg h.low.size (fun k hk => by obtain ⟨cur, hc, hx⟩ := ownsRow_blk h.row hk; exact hx), (hne A _ _ _ h.area (by decide)).trans h.area, isBuilderF_keep h.bld (hne B _ _ _ hB (by decide)) (fun k c fz hk => hne k _ _ _ hk (by decide)), ?_⟩
  rw [rcs_append, List.length_append]
  exact hown
end
end Go.Proofs.YtajcaglbbdbibaaDoor
