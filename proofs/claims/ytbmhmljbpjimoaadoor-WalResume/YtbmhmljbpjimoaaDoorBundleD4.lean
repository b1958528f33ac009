/- Texts that this proof needs, one behind the other: DBase, DShelf, DCalls, DRange, DRead, DWrite, DFlush, DSpoil, DNew. -/
import Derived.Test.YtbmhmljbpjimoaaDoorBundleC1
import Derived.Laws.Rows
import Derived.Test.YtbmhmljbpjimoaaDoorBundleS3
import Derived.RangeFuncNested
import Derived.RangeFuncLeaves
import Derived.Shelf.Abstract
import Derived.Shelf.RegionOpen
import Derived.WalkKit
import Derived.OwnWalkIn
import Derived.TacticsInMore
import Derived.LoopNIn
import Derived.LoopIn
import Derived.Test.YtbmhmljbpjimoaaDoorProg
import Derived.Deep.RegionHeld3
import Derived.Laws.CopyOwn
import Derived.Laws.OwnMore
/- A device in memory: its block, its sectors' row, its row of loose writes; what a call of it leaves as it was; what its calls do, as plain functions. -/
namespace Go.Proofs.YtbmhmljbpjimoaaDoor
open Go.RowKit
set_option linter.unusedVariables false
set_option maxRecDepth 100000

structure Dev where
  L : List (List UInt8)
  W : List (Nat × List UInt8)
  down : Bool
  armed : Bool
  left : Nat
  calls : Nat

def secs (l : List (List UInt8)) : List Value := l.map fun s => Value.string (S s)
def wrs : List (Nat × List UInt8) → List Value
  | [] => []
  | x :: r => .int .i64 (x.1 : Int) :: .string (S x.2) :: wrs r
theorem secs_length (l : List (List UInt8)) : (secs l).length = l.length := by simp [secs]
theorem wrs_append (a b : List (Nat × List UInt8)) : wrs (a ++ b) = wrs a ++ wrs b := by
  induction a with
  | nil => rfl
  | cons x r ih => simp [wrs, ih]
theorem wrs_length (a : List (Nat × List UInt8)) : (wrs a).length = a.length * 2 := by
  induction a with
  | nil => rfl
  | cons x r ih => simp [wrs, ih]; omega
theorem wrs_get : ∀ (a : List (Nat × List UInt8)) (k : Nat) (h : k < a.length), (wrs a)[k * 2]? = some (.int .i64 ((a[k]'h).1 : Int)) ∧ (wrs a)[k * 2 + 1]? = some (.string (S (a[k]'h).2))
  | x :: r, 0, h => by simp [wrs]
  | x :: r, k + 1, h => by
    have := wrs_get r k (by simpa using h)
    have e : (k + 1) * 2 = k * 2 + 1 + 1 := by omega
    rw [e]
    simpa [wrs] using this

structure DevIs (base : Nat) (w : World) (b : Nat) (sv lv : Value) (d : Dev) : Prop where
  lo : base ≤ b
  blk : w.heap[b]? = some (.cells #[sv, lv, .bool d.down, .bool d.armed, .int .i64 (d.left : Int), .int .i64 (d.calls : Int)] 63 (0, 0))
  sec : w.ownsRow base 9 1 sv d.L.length (secs d.L)
  loo : w.ownsRow base 65 2 lv d.W.length (wrs d.W)

def DevAt (base : Nat) (w : World) (b : Nat) (d : Dev) : Prop := ∃ sv lv, DevIs base w b sv lv d

/- Block k is none of the device's. -/
structure DFor (w : World) (b k : Nat) : Prop where
  ne : k ≠ b
  sec : ∀ v, w.cell? ⟨b, 0, none⟩ = some v → v.ownBlock ≠ some k
  loo : ∀ v, w.cell? ⟨b, 1, none⟩ = some v → v.ownBlock ≠ some k

structure DStep (b : Nat) (w w' : World) : Prop where
  os : w'.os = w.os
  tape : w'.tape = w.tape
  output : w'.output = w.output
  size : w.heap.size ≤ w'.heap.size
  keep : ∀ k, k < w.heap.size → DFor w b k → w'.heap[k]? = w.heap[k]? ∧ DFor w' b k

theorem DStep.refl (b : Nat) (w : World) : DStep b w w := ⟨rfl, rfl, rfl, Nat.le_refl _, fun _ _ h => ⟨rfl, h⟩⟩
theorem DStep.trans {b : Nat} {u v w : World} (h : DStep b u v) (k : DStep b v w) : DStep b u w :=
  ⟨k.os.trans h.os, k.tape.trans h.tape, k.output.trans h.output, Nat.le_trans h.size k.size, fun i hi hf => by
    obtain ⟨e1, f1⟩ := h.keep i hi hf
    obtain ⟨e2, f2⟩ := k.keep i (by have := h.size; omega) f1
    exact ⟨e2.trans e1, f2⟩⟩

theorem block_cell {w : World} {b : Nat} {cs : Array Value} {t : TypeId} {fz : Nat × Nat} (h : w.heap[b]? = some (.cells cs t fz)) (k : Nat) : w.cell? ⟨b, k, none⟩ = cs[k]? := by
  simp [World.cell?, h]
theorem block_frozen {w : World} {b : Nat} {cs : Array Value} {t : TypeId} (h : w.heap[b]? = some (.cells cs t (0, 0))) (k : Nat) : w.frozen? ⟨b, k, none⟩ = false := by
  simp [World.frozen?, h]
theorem block_lt {w : World} {b : Nat} {o : Obj} (h : w.heap[b]? = some o) : b < w.heap.size := (Array.getElem?_eq_some_iff.1 h).1

theorem ownsRow_blk {w : World} {base : Nat} {e : TypeId} {size : Nat} {v : Value} {n : Nat} {xs : List Value} (h : w.ownsRow base e size v n xs) {k : Nat} (hk : v.ownBlock = some k) : ∃ cur, w.heap[k]? = some (.cells cur e (0, 0)) ∧ base ≤ k := by
  rcases h.2 with ⟨rfl, _⟩ | ⟨g, cap, cur, rfl, hb, hh, _⟩
  · cases hk
  · cases hk
    exact ⟨cur, hh, hb⟩
theorem ownsRow_unlike {w : World} {base : Nat} {e t : TypeId} {size : Nat} {v : Value} {n : Nat} {xs : List Value} (h : w.ownsRow base e size v n xs) {k : Nat} {cs : Array Value} {fz : Nat × Nat} (hk : w.heap[k]? = some (.cells cs t fz)) (hne : e ≠ t) : v.ownBlock ≠ some k := by
  intro hv
  obtain ⟨cur, hh, _⟩ := ownsRow_blk h hv
  rw [hk] at hh
  injection hh with hh
  injection hh with _ h2 _
  exact hne h2.symm
theorem ownsRow_same {w w' : World} {base : Nat} {e : TypeId} {size : Nat} {v : Value} {n : Nat} {xs : List Value} (h : w.ownsRow base e size v n xs) (hk : ∀ k, v.ownBlock = some k → w'.heap[k]? = w.heap[k]?) : w'.ownsRow base e size v n xs := by
  refine ⟨h.1, ?_⟩
  rcases h.2 with h2 | ⟨g, cap, cur, rfl, hb, hh, r⟩
  · exact Or.inl h2
  · exact Or.inr ⟨g, cap, cur, rfl, hb, by rw [hk g rfl]; exact hh, r⟩
theorem ownsRow_cell {w : World} {base : Nat} {e : TypeId} {size : Nat} {v : Value} {n : Nat} {xs : List Value} (h : w.ownsRow base e size v n xs) {g : Nat} {c : Nat} (hv : v = .slice (some ⟨g, 0, none⟩) n c) (k : Nat) (x : Value) (hx : xs[k]? = some x) : w.cell? ⟨g, k, none⟩ = some x := by
  rcases h.2 with ⟨e1, e2⟩ | ⟨g', cap, cur, rfl, hb, hh, hc, hm, hcs, ht⟩
  · rw [e1] at hv; cases hv
  · cases hv
    rw [block_cell hh]
    have hlt : k < xs.length := (List.getElem?_eq_some_iff.1 hx).1
    rw [← ht, List.getElem?_take] at hx
    split at hx
    · simpa using hx
    · cases hx
/- A store into a row of the call's own. -/
theorem ownsRow_store {w : World} {base : Nat} {e : TypeId} {v : Value} {n : Nat} {xs : List Value} (h : w.ownsRow base e 1 v n xs) {g c : Nat} (hv : v = .slice (some ⟨g, 0, none⟩) n c) (k : Nat) (x : Value) : (w.setCell ⟨g, k, none⟩ x).ownsRow base e 1 v n (xs.set k x) := by
  rcases h.2 with ⟨e1, e2⟩ | ⟨g', cap, cur, rfl, hb, hh, hc, hm, hcs, ht⟩
  · rw [e1] at hv; cases hv
  · cases hv
    refine ⟨by simpa using h.1, Or.inr ⟨g, c, cur.setIfInBounds k x, rfl, hb, heap_setCell_same w g k cur e x hh, hc, hm, by simpa using hcs, ?_⟩⟩
    rw [← ht, Array.toList_setIfInBounds, List.take_set]

section
variable {base : Nat} {w w' : World} {b : Nat} {sv lv : Value} {d : Dev}
theorem DevIs.lt (h : DevIs base w b sv lv d) : b < w.heap.size := block_lt h.blk
theorem DevIs.nsec (h : DevIs base w b sv lv d) : sv.ownBlock ≠ some b := ownsRow_unlike h.sec h.blk (by decide)
theorem DevIs.nloo (h : DevIs base w b sv lv d) : lv.ownBlock ≠ some b := ownsRow_unlike h.loo h.blk (by decide)
theorem DevIs.ns (h : DevIs base w b sv lv d) {g : Nat} (hg : sv.ownBlock = some g) : lv.ownBlock ≠ some g := by
  obtain ⟨cur, hh, _⟩ := ownsRow_blk h.sec hg
  exact ownsRow_unlike h.loo hh (by decide)
theorem DevIs.c0 (h : DevIs base w b sv lv d) : w.cell? ⟨b, 0, none⟩ = some sv := by rw [block_cell h.blk]; rfl
theorem DevIs.c1 (h : DevIs base w b sv lv d) : w.cell? ⟨b, 1, none⟩ = some lv := by rw [block_cell h.blk]; rfl
theorem DevIs.c2 (h : DevIs base w b sv lv d) : w.cell? ⟨b, 2, none⟩ = some (.bool d.down) := by rw [block_cell h.blk]; rfl
theorem DevIs.c3 (h : DevIs base w b sv lv d) : w.cell? ⟨b, 3, none⟩ = some (.bool d.armed) := by rw [block_cell h.blk]; rfl
theorem DevIs.c4 (h : DevIs base w b sv lv d) : w.cell? ⟨b, 4, none⟩ = some (.int .i64 (d.left : Int)) := by rw [block_cell h.blk]; rfl
theorem DevIs.c5 (h : DevIs base w b sv lv d) : w.cell? ⟨b, 5, none⟩ = some (.int .i64 (d.calls : Int)) := by rw [block_cell h.blk]; rfl
theorem DevIs.fz (h : DevIs base w b sv lv d) (k : Nat) : w.frozen? ⟨b, k, none⟩ = false := block_frozen h.blk k

theorem DevIs.same (h : DevIs base w b sv lv d) (hb : w'.heap[b]? = w.heap[b]?) (hs : ∀ k, sv.ownBlock = some k → w'.heap[k]? = w.heap[k]?) (hl : ∀ k, lv.ownBlock = some k → w'.heap[k]? = w.heap[k]?) : DevIs base w' b sv lv d :=
  ⟨h.lo, by rw [hb]; exact h.blk, ownsRow_same h.sec hs, ownsRow_same h.loo hl⟩
theorem DFor.same {k : Nat} (h : DFor w b k) (hb : w'.heap[b]? = w.heap[b]?) : DFor w' b k :=
  ⟨h.ne, fun v hv => h.sec v (by rw [World.cell?_of_block (w := w) (a := ⟨b, 0, none⟩) hb] at hv; exact hv), fun v hv => h.loo v (by rw [World.cell?_of_block (w := w) (a := ⟨b, 1, none⟩) hb] at hv; exact hv)⟩
theorem DevIs.later (h : DevIs base w b sv lv d) (hb : Below w.heap.size w w') : DevIs base w' b sv lv d ∧ DStep b w w' := by
  refine ⟨h.same (hb.block b h.lt) (fun k hk => hb.block k (by obtain ⟨c, hc, _⟩ := ownsRow_blk h.sec hk; exact block_lt hc)) (fun k hk => hb.block k (by obtain ⟨c, hc, _⟩ := ownsRow_blk h.loo hk; exact block_lt hc)), hb.os, hb.tape, hb.output, hb.size, fun k hk hf => ⟨hb.block k hk, hf.same (hb.block b h.lt)⟩⟩
theorem DevAt.later (h : DevAt base w b d) (hb : Below w.heap.size w w') : DevAt base w' b d ∧ DStep b w w' := by
  obtain ⟨sv, lv, h⟩ := h
  obtain ⟨h1, h2⟩ := h.later hb
  exact ⟨⟨sv, lv, h1⟩, h2⟩
theorem DevAt.lt (h : DevAt base w b d) : b < w.heap.size := by obtain ⟨sv, lv, h⟩ := h; exact h.lt
theorem DevAt.lo (h : DevAt base w b d) : base ≤ b := by obtain ⟨sv, lv, h⟩ := h; exact h.lo
theorem DFor.of_lt {k : Nat} (h : DevAt base w b d) (hk : k < base) : DFor w b k := by
  obtain ⟨sv, lv, h⟩ := h
  refine ⟨by have := h.lo; omega, fun v hv e => ?_, fun v hv e => ?_⟩
  · rw [h.c0] at hv; cases hv
    obtain ⟨_, _, h2⟩ := ownsRow_blk h.sec e; omega
  · rw [h.c1] at hv; cases hv
    obtain ⟨_, _, h2⟩ := ownsRow_blk h.loo e; omega
theorem DFor.new {k : Nat} (h : DevAt base w b d) (hk : w.heap.size ≤ k) : DFor w b k := by
  obtain ⟨sv, lv, h⟩ := h
  refine ⟨by have := h.lt; omega, fun v hv e => ?_, fun v hv e => ?_⟩
  · rw [h.c0] at hv; cases hv
    obtain ⟨_, h1, h2⟩ := ownsRow_blk h.sec e; have := block_lt h1; omega
  · rw [h.c1] at hv; cases hv
    obtain ⟨_, h1, h2⟩ := ownsRow_blk h.loo e; have := block_lt h1; omega
theorem DStep.below (h : DStep b w w') (hd : DevAt base w b d) (hB : base ≤ w.heap.size) : Below base w w' :=
  ⟨h.os, h.tape, h.output, h.size, fun k hk => (h.keep k (by omega) (DFor.of_lt hd hk)).1⟩

/- A store into the device's own block. -/
theorem DevIs.set (h : DevIs base w b sv lv d) (k : Nat) (v : Value) : (w.setCell ⟨b, k, none⟩ v).heap[b]? = some (.cells (#[sv, lv, .bool d.down, .bool d.armed, .int .i64 (d.left : Int), .int .i64 (d.calls : Int)].setIfInBounds k v) 63 (0, 0)) := heap_setCell_same w b k _ _ v h.blk
theorem DevIs.other (h : DevIs base w b sv lv d) (k : Nat) (v : Value) (j : Nat) (hj : j ≠ b) : (w.setCell ⟨b, k, none⟩ v).heap[j]? = w.heap[j]? := heap_setCell_other w ⟨b, k, none⟩ j v hj
theorem DevIs.setSec (h : DevIs base w b sv lv d) (k : Nat) (v : Value) : (w.setCell ⟨b, k, none⟩ v).ownsRow base 9 1 sv d.L.length (secs d.L) := ownsRow_same h.sec fun j hj => h.other k v j (fun e => h.nsec (by rw [hj, e]))
theorem DevIs.setLoo (h : DevIs base w b sv lv d) (k : Nat) (v : Value) : (w.setCell ⟨b, k, none⟩ v).ownsRow base 65 2 lv d.W.length (wrs d.W) := ownsRow_same h.loo fun j hj => h.other k v j (fun e => h.nloo (by rw [hj, e]))
theorem DevIs.stepSet (h : DevIs base w b sv lv d) (k : Nat) (v : Value) (hk : 2 ≤ k) : DStep b w (w.setCell ⟨b, k, none⟩ v) := by
  refine ⟨rfl, rfl, rfl, by simp [World.setCell], fun j hj hf => ⟨h.other k v j hf.ne, hf.ne, fun u hu => hf.sec u ?_, fun u hu => hf.loo u ?_⟩⟩
  · rwa [World.cell?_setCell_other] at hu
    intro e
    have := congrArg Addr.off e
    simp at this
    omega
  · rwa [World.cell?_setCell_other] at hu
    intro e
    have := congrArg Addr.off e
    simp at this
    omega
theorem DevIs.setDown (h : DevIs base w b sv lv d) (x : Bool) : DevIs base (w.setCell ⟨b, 2, none⟩ (.bool x)) b sv lv { d with down := x } := ⟨h.lo, h.set 2 _, h.setSec 2 _, h.setLoo 2 _⟩
theorem DevIs.setArmed (h : DevIs base w b sv lv d) (x : Bool) : DevIs base (w.setCell ⟨b, 3, none⟩ (.bool x)) b sv lv { d with armed := x } := ⟨h.lo, h.set 3 _, h.setSec 3 _, h.setLoo 3 _⟩
theorem DevIs.setLeft (h : DevIs base w b sv lv d) (x : Nat) : DevIs base (w.setCell ⟨b, 4, none⟩ (.int .i64 (x : Int))) b sv lv { d with left := x } := ⟨h.lo, h.set 4 _, h.setSec 4 _, h.setLoo 4 _⟩
theorem DevIs.setCalls (h : DevIs base w b sv lv d) (x : Nat) : DevIs base (w.setCell ⟨b, 5, none⟩ (.int .i64 (x : Int))) b sv lv { d with calls := x } := ⟨h.lo, h.set 5 _, h.setSec 5 _, h.setLoo 5 _⟩
/- The row of loose writes is gone. -/
theorem DevIs.setNil (h : DevIs base w b sv lv d) : DevIs base (w.setCell ⟨b, 1, none⟩ (.slice none 0 0)) b sv (.slice none 0 0) { d with W := [] } ∧ DStep b w (w.setCell ⟨b, 1, none⟩ (.slice none 0 0)) := by
  refine ⟨⟨h.lo, h.set 1 _, h.setSec 1 _, World.ownsRow_nil _ _ _ _⟩, ⟨rfl, rfl, rfl, by simp [World.setCell], fun j hj hf => ⟨h.other 1 _ j hf.ne, hf.ne, fun u hu => hf.sec u ?_, fun u hu => ?_⟩⟩⟩
  · rwa [World.cell?_setCell_other] at hu
    simp
  · rw [World.cell?_setCell_same _ _ _ h.c1] at hu
    cases hu
    intro e; cases e
/- A sector is stored. -/
theorem DevIs.setSector (h : DevIs base w b sv lv d) {g c : Nat} (hv : sv = .slice (some ⟨g, 0, none⟩) d.L.length c) (k : Nat) (s : List UInt8) :
    DevIs base (w.setCell ⟨g, k, none⟩ (.string (S s))) b sv lv { d with L := d.L.set k s } ∧ DStep b w (w.setCell ⟨g, k, none⟩ (.string (S s))) := by
  have hg : sv.ownBlock = some g := by rw [hv]; rfl
  have hgb : g ≠ b := fun e => h.nsec (by rw [hg, e])
  have ho : ∀ j, j ≠ g → (w.setCell ⟨g, k, none⟩ (.string (S s))).heap[j]? = w.heap[j]? := fun j hj => heap_setCell_other w ⟨g, k, none⟩ j _ hj
  refine ⟨⟨h.lo, ?_, ?_, ownsRow_same h.loo fun j hj => ho j (fun e => h.ns hg (by rw [hj, e]))⟩, ⟨rfl, rfl, rfl, by simp [World.setCell], fun j hj hf => ?_⟩⟩
  · rw [ho b (Ne.symm hgb)]; exact h.blk
  · have := ownsRow_store h.sec hv k (.string (S s))
    simp only [secs] at this
    rw [← List.map_set (f := fun s => Value.string (S s))] at this
    simpa [secs] using this
  · have hjg : j ≠ g := fun e => hf.sec sv h.c0 (by rw [hg, e])
    exact ⟨ho j hjg, hf.same (ho b (Ne.symm hgb))⟩
end

/- What the calls do. -/
def whole (s : List UInt8) : List UInt8 := (s ++ List.replicate 64 0).take 64
theorem whole_length (s : List UInt8) : (whole s).length = 64 := by simp [whole]
def Dev.new (n : Nat) : Dev := ⟨List.replicate n (whole []), [], false, false, 0, 0⟩
def Dev.out (d : Dev) : Prop := d.down = true ∨ (d.armed = true ∧ d.left = 0)
instance (d : Dev) : Decidable d.out := by unfold Dev.out; infer_instance
def Dev.begin (d : Dev) : Dev := if d.out then { d with down := true } else { d with left := if d.armed then d.left - 1 else d.left, calls := d.calls + 1 }
def Dev.no (d : Dev) (i : Int) : Prop := i < 0 ∨ (d.L.length : Int) ≤ i
instance (d : Dev) (i : Int) : Decidable (d.no i) := by unfold Dev.no; infer_instance
def Dev.write (d : Dev) (i : Int) (s : List UInt8) : Dev := if d.no i ∨ 64 < s.length then d else if d.out then d.begin else { d.begin with W := d.W ++ [(i.toNat, whole s)] }
def Dev.writeE (d : Dev) (i : Int) (s : List UInt8) : Int := if d.no i ∨ 64 < s.length then 4 else if d.out then 16 else 0
def lay (l : List (List UInt8)) (ws : List (Nat × List UInt8)) : List (List UInt8) := ws.foldl (fun l x => l.set x.1 x.2) l
def Dev.flush (d : Dev) : Dev := if d.out then d.begin else { d.begin with L := lay d.L d.W, W := [] }
def Dev.flushE (d : Dev) : Int := if d.out then 16 else 0
def chosen (keep : List Int) (ws : List (Nat × List UInt8)) : List (Nat × List UInt8) := (ws.zipIdx.filter (fun x => keep.contains (x.2 : Int))).map (·.1)
def Dev.arm (d : Dev) (n : Int) : Dev := { d with armed := decide (0 ≤ n), left := n.toNat }
def Dev.crash (d : Dev) (keep : List Int) : Dev := ⟨lay d.L (chosen keep d.W), [], false, false, 0, d.calls⟩
def Dev.spoil (d : Dev) (i : Int) (s : List UInt8) : Dev := if d.no i then d else { d with L := d.L.set i.toNat (whole s) }
def Dev.cur (d : Dev) (k : Nat) : List UInt8 := ((d.W.reverse.find? (fun x => x.1 == k)).map (·.2)).getD (d.L.getD k [])
def Dev.read (d : Dev) (i : Int) : List UInt8 := if d.no i then [] else if d.down then [] else d.cur i.toNat
def Dev.readE (d : Dev) (i : Int) : Int := if d.no i then 4 else if d.down then 16 else 0
/- All loose writes have their sector; a device has one at least. -/
structure Dev.Ok (d : Dev) : Prop where
  has : ∀ x ∈ d.W, x.1 < d.L.length
  some : 0 < d.L.length
theorem lay_length (ws : List (Nat × List UInt8)) : ∀ l, (lay l ws).length = l.length := by
  induction ws with
  | nil => intro l; rfl
  | cons x r ih => intro l; simp only [lay, List.foldl_cons] at *; rw [ih]; simp
end Go.Proofs.YtbmhmljbpjimoaaDoor
/- A device's contracts of Go's library. -/
/- The contracts of a device's small calls. -/
namespace Go.Proofs.YtbmhmljbpjimoaaDoor
open Go.RowKit
set_option linter.unusedVariables false
set_option maxRecDepth 100000

theorem drepeat_zero : ∀ n, Lib.repeatL [(0 : UInt8)] n = List.replicate n 0
  | 0 => rfl
  | n + 1 => by simp [Lib.repeatL, drepeat_zero n, List.replicate_succ]
theorem whole_short (s : List UInt8) (h : ¬64 < s.length) : whole s = s ++ List.replicate (64 - s.length) 0 := by
  unfold whole
  rw [List.take_append, List.take_of_length_le (by omega), List.take_replicate, Nat.min_eq_left (by omega)]
theorem whole_long (s : List UInt8) (h : 64 ≤ s.length) : whole s = s.take 64 := by
  unfold whole
  rw [List.take_append_of_le_length h]

theorem whole_any (s : List UInt8) (w : World) :
    Calls Tryd.prog 34 #[.string (S s)] w fun e w' => e = .returned (.string (S (whole s))) ∧ Below w.heap.size w w' := by
  have HREP := hide (fun c (hc : c ≤ 64) => Tryd.strings_Repeat (S [0]) c w (by omega) (by show 1 * c ≤ _; omega))
  obtain ⟨m, hm⟩ : ∃ m, s.length = m := ⟨_, rfl⟩
  have hsz : (S s).size = m := hm
  have HM := hide hm
  clear hm
  go_enter Tryd.func34, Tryd.ntmps34
  by_cases h : 64 < m
  · go_wp2_with fail
    go_ret
    refine ⟨ret_string ?_, Below.refl _ _⟩
    rw [whole_long s (by have := unhide HM; omega)]
    apply ByteArray.ext
    apply Array.ext'
    simp [S]
  · have hc : (64 : Int) - (m : Int) = ((64 - m : Nat) : Int) := by omega
    have hwr : wrap64 ((64 : Int) - (m : Int)) = ((64 - m : Nat) : Int) := by unfold wrap64; omega
    go_wp2_with fail
    refine (unhide HREP (64 - m) (by omega)).mono ?_
    rw [S_toList, drepeat_zero]
    obtain ⟨z, hz⟩ : ∃ z : List UInt8, List.replicate (64 - m) 0 = z := ⟨_, rfl⟩
    have hzs : (S z).size = 64 - m := by rw [← hz]; simp [S_size]
    have HZ := hide hz
    rw [hz]
    rintro e w1 ⟨rfl, hb⟩
    change (⟨z.toArray⟩ : ByteArray).size = 64 - m at hzs
    have hno : ¬9223372036854775807 < m + (⟨z.toArray⟩ : ByteArray).size := by omega
    clear HREP hz
    go_wp2_with fail
    go_ret
    refine ⟨ret_string ?_, hb⟩
    rw [whole_short s (by have := unhide HM; omega), unhide HM, unhide HZ]
    apply ByteArray.ext
    apply Array.ext'
    simp [S]

theorem has_any {base : Nat} {w : World} {b : Nat} {d : Dev} (h : DevAt base w b d) (i : Int) :
    Calls Tryd.prog 41 #[.pointer (some ⟨b, 0, none⟩), .int .i64 i] w fun e w' => e = .returned (.bool (!decide (d.no i))) ∧ w' = w := by
  obtain ⟨sv, lv, h⟩ := h
  obtain ⟨ao, c, rfl, _⟩ := ownsRow_slice h.sec
  have h0 := h.c0
  clear h
  go_enter Tryd.func41, Tryd.ntmps41
  go_wp2_with fail
  all_goals
    go_ret
    refine ⟨ret_bool ?_, rfl⟩
    by_cases hn : d.no i
    · have h2 := hn
      unfold Dev.no at h2
      simp [hn]
      try omega
    · have h2 := hn
      unfold Dev.no at h2
      simp [hn]
      omega

theorem dlen_any {base : Nat} {w : World} {b : Nat} {d : Dev} (h : DevAt base w b d) :
    Calls Tryd.prog 39 #[.pointer (some ⟨b, 0, none⟩)] w fun e w' => e = .returned (.int .i64 (d.L.length : Int)) ∧ w' = w := by
  obtain ⟨sv, lv, h⟩ := h
  obtain ⟨ao, c, rfl, _⟩ := ownsRow_slice h.sec
  have h0 := h.c0
  clear h
  go_enter Tryd.func39, Tryd.ntmps39
  go_wp2_with fail
  go_ret
  exact ⟨rfl, rfl⟩
theorem loose_any {base : Nat} {w : World} {b : Nat} {d : Dev} (h : DevAt base w b d) :
    Calls Tryd.prog 14 #[.pointer (some ⟨b, 0, none⟩)] w fun e w' => e = .returned (.int .i64 (d.W.length : Int)) ∧ w' = w := by
  obtain ⟨sv, lv, h⟩ := h
  obtain ⟨ao, c, rfl, _⟩ := ownsRow_slice h.loo
  have h0 := h.c1
  clear h
  go_enter Tryd.func14, Tryd.ntmps14
  go_wp2_with fail
  go_ret
  exact ⟨rfl, rfl⟩
theorem begin_any {base : Nat} {w : World} {b : Nat} {d : Dev} (h : DevAt base w b d) (hl : d.left < 9223372036854775808) (hc : d.calls < 4611686018427387904) :
    Calls Tryd.prog 38 #[.pointer (some ⟨b, 0, none⟩)] w fun e w' => e = .returned (.bool (!decide d.out)) ∧ DevAt base w' b d.begin ∧ DStep b w w' := by
  obtain ⟨sv, lv, h⟩ := h
  obtain ⟨L, W, dn, ar, lf, cl⟩ := d
  have h2 := h.c2
  have h3 := h.c3
  have h4 := h.c4
  have h5 := h.c5
  have f2 := h.fz 2
  have f4 := h.fz 4
  have f5 := h.fz 5
  have HH := hide h
  clear h
  dsimp only at h2 h3 h4 h5 hl hc
  have hw : IntKind.i64.wrap ((cl : Int) + 1) = ((cl + 1 : Nat) : Int) := by rw [IntKind.wrap_i64]; omega
  have hw6 : wrap64 ((cl : Int) + 1) = ((cl + 1 : Nat) : Int) := by unfold wrap64; omega
  cases ar with
  | false =>
    cases dn with
    | true =>
      go_enter Tryd.func38, Tryd.ntmps38
      go_wp2_with fail
      go_ret
      have := unhide HH
      refine ⟨ret_bool (by simp [Dev.out]), ⟨sv, lv, by simpa [Dev.begin, Dev.out] using this⟩, DStep.refl _ _⟩
    | false =>
      go_enter Tryd.func38, Tryd.ntmps38
      go_wp2_with fail
      go_ret
      have := unhide HH
      refine ⟨ret_bool (by simp [Dev.out]), ⟨sv, lv, ?_⟩, ?_⟩
      · have := this.setCalls (cl + 1)
        simpa [Dev.begin, Dev.out] using this
      · exact this.stepSet 5 _ (by omega)
  | true =>
    cases dn with
    | true =>
      go_enter Tryd.func38, Tryd.ntmps38
      go_wp2_with fail
      all_goals
        go_ret
        have := unhide HH
        refine ⟨ret_bool (by simp [Dev.out]), ⟨sv, lv, ?_⟩, ?_⟩
      · have := this.setDown true
        simpa [Dev.begin, Dev.out] using this
      · exact this.stepSet 2 _ (by omega)
      · simpa [Dev.begin, Dev.out] using this
      · exact DStep.refl _ _
    | false =>
      cases lf with
      | zero =>
        have e0 : (((0 : Nat) : Int) == 0) = true := rfl
        go_enter Tryd.func38, Tryd.ntmps38
        go_wp2_with fail
        go_ret
        have := unhide HH
        refine ⟨ret_bool (by simp [Dev.out]), ⟨sv, lv, ?_⟩, ?_⟩
        · have := this.setDown true
          simpa [Dev.begin, Dev.out] using this
        · exact this.stepSet 2 _ (by omega)
      | succ lf =>
        have e0 : (((lf + 1 : Nat) : Int) == 0) = false := by simp; omega
        have hw1 : IntKind.i64.wrap (((lf + 1 : Nat) : Int) - 1) = (lf : Int) := by rw [IntKind.wrap_i64]; omega
        have hw2 : wrap64 (((lf + 1 : Nat) : Int) - 1) = (lf : Int) := by unfold wrap64; omega
        generalize hlf : ((lf + 1 : Nat) : Int) = z at *
        go_enter Tryd.func38, Tryd.ntmps38
        go_wp2_with fail
        go_ret
        have := unhide HH
        refine ⟨ret_bool (by simp [Dev.out]), ⟨sv, lv, ?_⟩, ?_⟩
        · have := (this.setLeft lf).setCalls (cl + 1)
          simpa [Dev.begin, Dev.out] using this
        · exact (this.stepSet 4 _ (by omega)).trans ((this.setLeft lf).stepSet 5 _ (by omega))
end Go.Proofs.YtbmhmljbpjimoaaDoor
/- A range over a method's value: what the loop's rounds keep, behind the loop. The method reads what lay there ahead of the loop alone. -/
namespace Go.Proofs.YtbmhmljbpjimoaaDoor
open Go.RowKit
set_option linter.unusedVariables false
set_option maxRecDepth 100000

/- How a round may be left. -/
def leftBy {α : Type} (B : Nat) (I Ix : List α → World → Prop) (xs : List α) (W : World) : Exit → Act → World → Prop
  | .normal, _, W' => KeepsFrom B W W' ∧ I xs W'
  | .ret, _, W' => KeepsFrom B W W' ∧ Ix xs W'
  | _, _, _ => False

theorem range_first {F : Fence} {n : Nat} {P : Program} {α : Type} {g : Operand} {ps : Array Tmp} {assign body : Code} {Q : Exit → Act → World → Prop} {a : Act} {w : World}
    (hro : F.round = none) (h1 : 1 ≤ n) {gf : Nat} {recv : Value} (hg : a.eval g = .func (.func gf) #[recv] #[]) (hFg : F.fn gf) (eg : ∀ args w, (callFunc gf args).run P w = .ok (.enter gf args) w)
    {encs : α → Array Value} (hps : ∀ x, (encs x).size = ps.size) (xs : List α)
    (hseq : ∀ (l : Nat) (J Jx : List α → World → Prop) (W : World), (∀ pre W1, J pre W1 → Below w.heap.size w W1) →
      (∀ pre x W1, J pre W1 → YieldAt F (n - 1 - 1) P l (encs x) W1 fun e W' => (e = .returned (.bool true) ∧ J (pre ++ [x]) W') ∨ (e = .returned (.bool false) ∧ Jx (pre ++ [x]) W')) →
      J [] W → CallsIn F (n - 1) P gf #[recv, .func (.yield l) #[] #[]] W fun e W' => (∃ v, e = .returned v) ∧ (J xs W' ∨ ∃ pre x rest, xs = pre ++ x :: rest ∧ Jx (pre ++ [x]) W'))
    (I Ix : List α → World → Prop) (hI : OwnFrom w.heap.size I) (hIx : OwnFrom w.heap.size Ix) (hIb : ∀ pre W, I pre W → Below w.heap.size w W) (h0 : I [] w)
    (hround : ∀ (l : Nat) (pre : List α) (x : α) (W : World), w.heap.size < l → l < W.heap.size → (∀ c t f, W.heap[l]? ≠ some (.cells c t f)) → I pre W →
      assign.wpIn (F.inRound l) (n - 1 - 1) P (Exit.then (fun a' W' => KeepsFrom w.heap.size W W' ∧ ∀ o', body.wpIn (F.inRound l) (n - 1 - 1) P (leftBy w.heap.size I Ix (pre ++ [x]) (W'.putObj l o')) a' (W'.putObj l o')) (fun _ _ _ => False)) { tmps := (ps.zip (encs x)).foldl (fun t (p, v) => t.setIfInBounds p v) a.tmps, defers := [] } W)
    (hdone : ∀ (D : Nat) (W : World), w.heap.size ≤ D → I xs W → W.heap[D]? = some (.deferred (some [])) → Q .normal { a with defers := { target := .collected D, args := #[] } :: a.defers } W)
    (hstop : ∀ (D : Nat) (pre : List α) (x : α) (rest : List α) (W : World), w.heap.size ≤ D → xs = pre ++ x :: rest → Ix (pre ++ [x]) W → W.heap[D]? = some (.deferred (some [])) → Code.ret.wpIn F n P Q { a with defers := { target := .collected D, args := #[] } :: a.defers } W) :
    (Code.rangeFunc g ps assign body).wpIn F n P Q a w := by
  refine wpIn_rangeFunc ?_
  intro fn hfn
  rw [hro]
  obtain ⟨rec, hrec⟩ : ∃ rec : LoopState → Option Code → Loop, rec = fun st pe => { state := st, pending := pe, fn, tmps := a.tmps, params := ps, assign, body, defers := w.heap.size } := ⟨_, rfl⟩
  obtain ⟨N, hN⟩ : ∃ N, N = w.heap.size + 1 := ⟨_, rfl⟩
  obtain ⟨W1, hW1⟩ : ∃ W1, (w.alloc (.deferred (some []))).alloc (.loop (rec .ready none)) = W1 := ⟨_, rfl⟩
  have hL1 : W1.heap[N]? = some (.loop (rec .ready none)) := by
    rw [← hW1, hN]; have := World.alloc_heap_new (w.alloc (.deferred (some []))) (.loop (rec .ready none)); rwa [World.size_alloc] at this
  have hD1 : W1.heap[w.heap.size]? = some (.deferred (some [])) := by
    rw [← hW1]; exact (Below.heap_alloc _ _ _ (by simp)).trans (World.alloc_heap_new w _)
  have hI1 : I [] W1 := by rw [← hW1]; exact hI.alloc _ (hI.alloc _ h0)
  refine ⟨N, [{ target := .collected w.heap.size, args := #[] }], W1, { target := .fn (.func gf) #[], args := #[recv, .func (.yield N) #[] #[]] }, W1, gf, #[recv, .func (.yield N) #[] #[]], W1, ?_, ?_, ?_, ?_, fun _ => h1, ?_⟩
  · rw [← hW1, hrec, hN]; exact run_enterLoop_outer _ _ _ _ _
  · simp only [resolve, hg]
    simp [go_sem, Deferred.ofValue]
  · intro f' hf'; simp [Target.leads] at hf'; subst hf'; exact hFg
  · simp [invoke, go_sem, eg]
  · have hend : ∀ (jump : Option Code) (W2 W3 : World), KeepsFrom w.heap.size W2 W3 → W2.heap[N]? = some (.loop (rec .busy none)) → W2.heap[w.heap.size]? = some (.deferred (some [])) →
        (Instr.endRound N jump).run P W3 = .ok (.bool jump.isNone) (W3.putObj N (.loop (rec (if jump.isNone then .ready else .done) jump))) ∧ W3.heap[N]? = some (.loop (rec .busy none)) ∧
        (W3.putObj N (.loop (rec (if jump.isNone then .ready else .done) jump))).heap[N]? = some (.loop (rec (if jump.isNone then .ready else .done) jump)) ∧
        (W3.putObj N (.loop (rec (if jump.isNone then .ready else .done) jump))).heap[w.heap.size]? = some (.deferred (some [])) := fun jump W2 W3 hk h2 h3 => by
      have hl3 := hk.same _ _ (by omega) h2 rfl
      have hd3 := hk.same _ _ (Nat.le_refl _) h3 rfl
      have := run_endRound (P := P) jump hl3
      rw [hrec] at this ⊢
      exact ⟨this, by rw [hrec] at hl3; exact hl3, World.putObj_heap_same (Array.getElem?_eq_some_iff.1 hl3).1, (World.putObj_heap_other (by omega)).trans hd3⟩
    refine (hseq N (fun pre W => I pre W ∧ W.heap[N]? = some (.loop (rec .ready none)) ∧ W.heap[w.heap.size]? = some (.deferred (some [])))
      (fun pre W => Ix pre W ∧ W.heap[N]? = some (.loop (rec .done (some .ret))) ∧ W.heap[w.heap.size]? = some (.deferred (some []))) W1 (fun pre W hj => hIb pre W hj.1) ?_ ⟨hI1, hL1, hD1⟩).mono ?_
    · rintro pre x W ⟨hi, hl, hd⟩
      have hy := run_yield (P := P) (args := encs x) hl (by rw [hrec]; exact hps x)
      rw [hrec] at hy
      refine ⟨fn, _, assign, body, hy, roundIn_of_wpIn hfn (wpIn_mono (hround N pre x W (by omega) (Array.getElem?_eq_some_iff.1 hl).1 (fun c t f e => by rw [hl] at e; cases e) hi) ?_)⟩
      rintro e a3 W3 hp
      cases e with
      | normal =>
        obtain ⟨hk3, hb3⟩ := hp
        have hl3 := hk3.same _ _ (by omega) hl rfl
        have hd3 := hk3.same _ _ (Nat.le_refl _) hd rfl
        refine ⟨_, run_beginRound hl3 (by rw [hrec]), ?_⟩
        have hlt3 : N < W3.heap.size := (Array.getElem?_eq_some_iff.1 hl3).1
        have hl4 : (W3.putObj N (.loop { rec .ready none with state := .busy })).heap[N]? = some (.loop (rec .busy none)) := by rw [World.putObj_heap_same hlt3, hrec]
        have hd4 : (W3.putObj N (.loop { rec .ready none with state := .busy })).heap[w.heap.size]? = some (.deferred (some [])) := (World.putObj_heap_other (by omega)).trans hd3
        refine wpIn_mono (hb3 _) ?_
        rintro e a4 W4 hq
        cases e with
        | normal =>
          obtain ⟨hk5, hi5⟩ := hq
          obtain ⟨hr, hl5, hl6, hd6⟩ := hend none _ W4 hk5 hl4 hd4
          exact ⟨_, _, hr, .inl ⟨rfl, hI.putObj _ hi5 (by omega) hl5 rfl, hl6, hd6⟩⟩
        | ret =>
          obtain ⟨hk5, hi5⟩ := hq
          obtain ⟨hr, hl5, hl6, hd6⟩ := hend (some .ret) _ W4 hk5 hl4 hd4
          exact ⟨_, _, hr, .inr ⟨rfl, hIx.putObj _ hi5 (by omega) hl5 rfl, hl6, hd6⟩⟩
        | exit id => exact hq.elim
        | goto t => exact hq.elim
        | panic ch => exact hq.elim
        | outgrown => exact hq.elim
      | ret => exact hp.elim
      | exit id => exact hp.elim
      | goto t => exact hp.elim
      | panic ch => exact hp.elim
      | outgrown => exact hp.elim
    · rintro e W2 ⟨⟨v, rfl⟩, (⟨hi, hl, hd⟩ | ⟨pre, x, rest, hx, hi, hl, hd⟩)⟩
      · exact ⟨none, _, by have := run_endLoop (P := P) hl (by rw [hrec]; simp); rw [hrec] at this; exact this, hdone _ _ (Nat.le_refl _) (hI.putObj _ hi (by omega) hl rfl) ((World.putObj_heap_other (by omega)).trans hd)⟩
      · exact ⟨some .ret, _, by have := run_endLoop (P := P) hl (by rw [hrec]; simp); rw [hrec] at this; exact this, hstop _ pre x rest _ (Nat.le_refl _) hx (hIx.putObj _ hi (by omega) hl rfl) ((World.putObj_heap_other (by omega)).trans hd)⟩
end Go.Proofs.YtbmhmljbpjimoaaDoor
/- The contract of a device's Read. -/
namespace Go.Proofs.YtbmhmljbpjimoaaDoor
open Go.RowKit Go.Shelf
set_option linter.unusedVariables false
set_option maxRecDepth 100000
attribute [local go_sem] Oper.semAt_some

def wenc (x : Nat × List UInt8) : Array Value := #[.agg #[.int .i64 (x.1 : Int), .string (S x.2)]]

set_option maxHeartbeats 1600000 in
theorem fromLast_in (F : Fence) (n : Nat) (hF : F.fn 42) (hro : F.round = none) (hn : 1 ≤ n) {base : Nat} {w : World} {b : Nat} {sv lv : Value} {d : Dev} (h : DevIs base w b sv lv d) (hlen : d.W.length ≤ 1099511627776)
    (l : Nat) (J Jx : List (Nat × List UInt8) → World → Prop) (W : World) (hJb : ∀ pre W1, J pre W1 → Below w.heap.size w W1)
    (hY : ∀ pre x W1, J pre W1 → YieldAt F (n - 1) Tryd.prog l (wenc x) W1 fun e W' => (e = .returned (.bool true) ∧ J (pre ++ [x]) W') ∨ (e = .returned (.bool false) ∧ Jx (pre ++ [x]) W'))
    (h0 : J [] W) :
    CallsIn F n Tryd.prog 42 #[.pointer (some ⟨b, 0, none⟩), .func (.yield l) #[] #[]] W fun e W' => (∃ v, e = .returned v) ∧ (J d.W.reverse W' ∨ ∃ pre x rest, d.W.reverse = pre ++ x :: rest ∧ Jx (pre ++ [x]) W') := by
  obtain ⟨ao, c, rfl, hao⟩ := ownsRow_slice h.loo
  obtain ⟨m, hm⟩ : ∃ m, d.W.length = m := ⟨_, rfl⟩
  have HH := hide h
  have hc1 := (h.later (hJb _ _ h0)).1.c1
  rw [hm] at hc1 hao hlen HH
  have HM := hide hm
  have HJB := hide hJb
  have HY := hide hY
  have H0 := hide h0
  clear h hm hJb hY h0
  refine callsIn_of_wp Tryd.func42 rfl hF ?_ hro
  simp only [Tryd.ntmps42, List.size_toArray, List.length_cons, List.length_nil, Nat.reduceAdd, Nat.reduceSub, Array.replicate_succ, Array.replicate_zero, List.push_toArray, List.append_toArray, List.nil_append, List.cons_append]
  have hw : IntKind.i64.wrap ((m : Int) - 1) = (m : Int) - 1 := by rw [IntKind.wrap_i64]; omega
  gi_wp2
  gi_loopw [4] (fun i wr => ∃ j : Nat, j ≤ m ∧ i = .int .i64 ((m : Int) - 1 - (j : Int)) ∧ J (d.W.reverse.take j) wr) (fun i _ => (intOf i + 1).toNat)
  case atStart =>
    exact ⟨0, Nat.zero_le _, by simp, unhide H0⟩
  case round =>
    obtain ⟨j, hj, rfl, hJ⟩ := hrel
    by_cases hlt : j < m
    · obtain ⟨k, hk⟩ : ∃ k : Nat, (m : Int) - 1 - (j : Int) = (k : Int) := ⟨m - 1 - j, by omega⟩
      rw [hk]
      have hkm : k < m := by omega
      have hkW : k < d.W.length := by have := unhide HM; omega
      have hjr : j < d.W.reverse.length := by have := unhide HM; simp; omega
      have hx : d.W.reverse[j]'hjr = d.W[k]'hkW := by
        rw [List.getElem_reverse]
        congr 1
        have := unhide HM
        omega
      obtain ⟨gl, rfl⟩ := hao (by omega)
      have hd := ((unhide HH).later (unhide HJB _ _ hJ)).1
      have hc1r := hd.c1
      have hg := wrs_get d.W k hkW
      have hx0 := ownsRow_cell hd.loo (g := gl) (c := c) (by show Value.slice _ m c = Value.slice _ d.W.length c; rw [unhide HM]) _ _ hg.1
      have hx1 := ownsRow_cell hd.loo (g := gl) (c := c) (by show Value.slice _ m c = Value.slice _ d.W.length c; rw [unhide HM]) _ _ hg.2
      obtain ⟨fn, tmps, assign, body, hy, hR⟩ := unhide HY _ (d.W[k]'hkW) wr hJ
      have HTK : Hid (d.W.reverse.take (j + 1) = d.W.reverse.take j ++ [d.W[k]'hkW]) := by
        rw [← hx]; exact List.take_succ_eq_append_getElem hjr
      have HSPLIT : Hid (d.W.reverse = d.W.reverse.take j ++ d.W[k]'hkW :: d.W.reverse.drop (j + 1)) := by
        rw [← hx, ← List.drop_eq_getElem_cons hjr, List.take_append_drop]
        exact rfl
      have HR := hide hR
      clear hR hg hx hd
      generalize d.W[k]'hkW = x at *
      obtain ⟨x, s⟩ := x
      dsimp only [wenc] at hy hx0 hx1
      have hi1 : (0 : Int) ≤ (k : Int) := by omega
      have hi2 : (k : Int) < (m : Int) := by omega
      have HK := hide hk
      have hw2 : IntKind.i64.wrap ((k : Int) - 1) = (k : Int) - 1 := by rw [IntKind.wrap_i64]; omega
      clear hc1 hk
      gi_wp2
      refine (unhide HR).mono ?_
      rintro e W3 (⟨rfl, hJ3⟩ | ⟨rfl, hJx3⟩)
      · clear hc1r hx0 hx1
        gi_wp2
        go_roundw
        case rel =>
          refine ⟨j + 1, by omega, ?_, ?_⟩
          · have := unhide HK
            congr 1
            omega
          · rw [unhide HTK]; exact hJ3
        case measure => simp [intOf]
      · clear hc1r hx0 hx1
        gi_wp2
        refine bodyPost_ret (results_none rfl _ _ _) rfl ?_
        exact ⟨⟨_, rfl⟩, .inr ⟨_, _, _, unhide HSPLIT, hJx3⟩⟩
    · have : j = m := by omega
      subst this
      have hneg : (j : Int) - 1 - (j : Int) = -1 := by omega
      rw [hneg]
      gi_wp2
      go_end0
      refine ⟨⟨_, rfl⟩, .inl ?_⟩
      rw [List.take_of_length_le (by have := unhide HM; simp; omega)] at hJ
      exact hJ

theorem cur_none (d : Dev) (k : Nat) (h : ∀ y ∈ d.W.reverse, y.1 ≠ k) : d.cur k = d.L.getD k [] := by
  unfold Dev.cur
  rw [List.find?_eq_none.2 (fun y hy => by simpa using h y hy)]
  rfl
theorem cur_some (d : Dev) (k : Nat) (pre rest : List (Nat × List UInt8)) (x : Nat × List UInt8) (h : d.W.reverse = pre ++ x :: rest) (hp : ∀ y ∈ pre, y.1 ≠ k) (hx : x.1 = k) : d.cur k = x.2 := by
  unfold Dev.cur
  rw [h, List.find?_append, List.find?_eq_none.2 (fun y hy => by simpa using hp y hy), List.find?_cons_of_pos (by simpa using hx)]
  rfl
theorem below_put {B : Nat} {a w : World} (h : Below B a w) (l : Nat) (o : Obj) (hl : B ≤ l) (hB : B ≤ w.heap.size) : Below B a (w.putObj l o) := h.grown (grownBy_putObj' w l o) hB (fun k e => by cases e; exact hl)

set_option maxHeartbeats 1600000 in
theorem dread_any {base : Nat} {w : World} {b : Nat} {d : Dev} (h : DevAt base w b d) (i : Int) (hlen : d.W.length ≤ 1099511627776) :
    Calls Tryd.prog 31 #[.pointer (some ⟨b, 0, none⟩), .int .i64 i] w fun e w' => e = .returned (.tuple #[.string (S (d.read i)), .int .i64 (d.readE i)]) ∧ Below w.heap.size w w' := by
  refine (callsIn_wide (n := 3)).1 ?_
  have HHAS := hide (fun w' (hb : Below w.heap.size w w') => has_any (h.later hb).1 i)
  have HH := hide h
  clear h
  refine callsIn_of_wp_marks Tryd.func31 rfl trivial ?_ rfl
  simp only [Tryd.ntmps31, List.size_toArray, List.length_cons, List.length_nil, Nat.reduceAdd, Nat.reduceSub, Array.replicate_succ, Array.replicate_zero, List.push_toArray, List.append_toArray, List.nil_append, List.cons_append]
  by_cases hno : d.no i
  · rw [show d.read i = [] by unfold Dev.read; rw [if_pos hno], show d.readE i = 4 by unfold Dev.readE; rw [if_pos hno]]
    rw [decide_eq_true hno] at HHAS
    gi_wp2_with (refine ⟨trivial, ?_⟩; gi_at_call 41; refine (callsIn_wide.2 (unhide HHAS _ ((((Below.refl _ w).alloc (Nat.le_refl _) _).alloc (by simp) _).alloc (by simp; omega) _))).mono ?_; rintro e w1 ⟨rfl, rfl⟩)
    refine ⟨.tuple #[.string ⟨#[]⟩, .int .i64 4], ?_, rfl, (((Below.refl _ w).alloc (Nat.le_refl _) _).alloc (by simp) _).alloc (by simp; omega) _⟩
    simp [results, Tryd.results31, go_sem]
  · rw [decide_eq_false hno] at HHAS
    obtain ⟨sv, lv, h⟩ := unhide HH
    obtain ⟨W0, hW0⟩ : ∃ W0, (((w.alloc (.cells #[.int .i64 i] 3)).alloc (.cells #[.string ⟨#[]⟩] 9)).alloc (.cells #[.int .i64 0] 33)) = W0 := ⟨_, rfl⟩
    have hb0 : Below w.heap.size w W0 := by rw [← hW0]; exact (((Below.refl _ w).alloc (Nat.le_refl _) _).alloc (by simp) _).alloc (by simp; omega) _
    have hd3 := (h.later hb0).1
    have hc2 := hd3.c2
    have hsz0 : W0.heap.size = w.heap.size + 1 + 1 + 1 := by rw [← hW0]; simp
    have hq0 : W0.heap[w.heap.size]? = some (.cells #[.int .i64 i] 3 (0, 0)) := by
      rw [← hW0, Below.heap_alloc _ _ _ (by simp; omega), Below.heap_alloc _ _ _ (by simp)]
      exact heap_alloc_new w _
    have hq1 : W0.heap[w.heap.size + 1]? = some (.cells #[.string ⟨#[]⟩] 9 (0, 0)) := by
      rw [← hW0, Below.heap_alloc _ _ _ (by simp)]
      have := heap_alloc_new (w.alloc (.cells #[.int .i64 i] 3)) (.cells #[.string ⟨#[]⟩] 9)
      rwa [World.size_alloc] at this
    have hq2 : W0.heap[w.heap.size + 1 + 1]? = some (.cells #[.int .i64 0] 33 (0, 0)) := by
      rw [← hW0]
      have := heap_alloc_new ((w.alloc (.cells #[.int .i64 i] 3)).alloc (.cells #[.string ⟨#[]⟩] 9)) (.cells #[.int .i64 0] 33)
      rwa [World.size_alloc, World.size_alloc] at this
    have HD3 := hide hd3
    clear hd3 HH
    rw [← hW0] at hc2
    have HW0 := hide hW0
    clear hW0
    by_cases hdn : d.down = true
    · rw [show d.read i = [] by unfold Dev.read; rw [if_neg hno, if_pos hdn], show d.readE i = 16 by unfold Dev.readE; rw [if_neg hno, if_pos hdn]]
      clear hq0 hq1 hq2 hb0 hsz0
      gi_wp2_with (refine ⟨trivial, ?_⟩; gi_at_call 41; refine (callsIn_wide.2 (unhide HHAS _ ((((Below.refl _ w).alloc (Nat.le_refl _) _).alloc (by simp) _).alloc (by simp; omega) _))).mono ?_; rintro e w1 ⟨rfl, rfl⟩)
      refine ⟨.tuple #[.string ⟨#[]⟩, .int .i64 16], ?_, rfl, (((Below.refl _ w).alloc (Nat.le_refl _) _).alloc (by simp) _).alloc (by simp; omega) _⟩
      simp [results, Tryd.results31, go_sem]
    · have hdf : d.down = false := by simpa using hdn
      rw [hdf] at hc2
      obtain ⟨k, rfl⟩ : ∃ k : Nat, i = (k : Int) := ⟨i.toNat, by unfold Dev.no at hno; omega⟩
      rw [show d.read (k : Int) = d.cur k by unfold Dev.read; rw [if_neg hno, if_neg hdn, Int.toNat_natCast], show d.readE (k : Int) = 0 by unfold Dev.readE; rw [if_neg hno, if_neg hdn]]
      obtain ⟨rs, hrs⟩ : ∃ rs, d.cur k = rs := ⟨_, rfl⟩
      rw [hrs]
      have HRS := hide hrs
      clear hrs
      have HQ0 := hide hq0
      have HQ1 := hide hq1
      have HQ2 := hide hq2
      have HB0 := hide hb0
      have HSZ0 := hide hsz0
      clear hq0 hq1 hq2 hb0 hsz0
      gi_wp2_with (refine ⟨trivial, ?_⟩; gi_at_call 41; refine (callsIn_wide.2 (unhide HHAS _ ((((Below.refl _ w).alloc (Nat.le_refl _) _).alloc (by simp) _).alloc (by simp; omega) _))).mono ?_; rintro e w1 ⟨rfl, rfl⟩)
      rw [unhide HW0]
      clear hc2 HW0 HHAS
      refine range_first rfl (by omega) (gf := 42) (recv := .pointer (some ⟨b, 0, none⟩)) rfl trivial (enters_of Tryd.func42 (by kernel_rfl) rfl) (encs := wenc) (fun _ => rfl) d.W.reverse
        (fun l J Jx W hJb hY h0 => fromLast_in Fence.wide 2 trivial rfl (by omega) (unhide HD3) hlen l J Jx W hJb hY h0)
        (fun pre W => (∀ y ∈ pre, y.1 ≠ k) ∧ Below W0.heap.size W0 W)
        (fun pre W => (∃ pre' x, pre = pre' ++ [x] ∧ x.1 = k ∧ (∀ y ∈ pre', y.1 ≠ k) ∧ W.cell? ⟨w.heap.size + 1, 0, none⟩ = some (.string (S x.2)) ∧ W.cell? ⟨w.heap.size + 1 + 1, 0, none⟩ = some (.int .i64 0)) ∧ Below w.heap.size w W)
        (OwnFrom.and (ownFrom_pure _ _) (ownFrom_below (Nat.le_refl _) (Nat.le_refl _)))
        ?ownx (fun pre W hi => hi.2) ⟨by simp, Below.refl _ _⟩ ?round ?done ?stop
      case ownx =>
        rintro s A B row ⟨⟨pre', x, h1, h2, h3, h4, h5⟩, hb⟩ hg hr
        exact ⟨⟨pre', x, h1, h2, h3, cell_kept h4 hg (fun r e => (hr r e).2), cell_kept h5 hg (fun r e => (hr r e).2)⟩, hb.grown hg hb.size (fun k e => by have := (hr k e).1; have := unhide HSZ0; omega)⟩
      case round =>
        rintro l pre ⟨x, s⟩ W hl1 hl2 hl3 ⟨hp, hB⟩
        have hsz0 := unhide HSZ0
        have hszW := hB.size
        have HB := hide hB
        have HP := hide hp
        have hN0 : W.heap[w.heap.size]? = _ := (hB.block w.heap.size (by omega)).trans (unhide HQ0)
        have hN1 : W.heap[w.heap.size + 1]? = _ := (hB.block (w.heap.size + 1) (by omega)).trans (unhide HQ1)
        have hN2 : W.heap[w.heap.size + 1 + 1]? = _ := (hB.block (w.heap.size + 1 + 1) (by omega)).trans (unhide HQ2)
        dsimp only [wenc]
        clear h hB hp hl3 HD3
        have HN0 := hide hN0
        have HN1 := hide hN1
        have HN2 := hide hN2
        clear hN0 hN1 hN2
        gi_wp2
        refine ⟨(KeepsOthers.alloc _ _).from _, fun o' => ?_⟩
        obtain ⟨W2, hW2⟩ : ∃ W2, (W.alloc (.cells #[.int .i64 (x : Int), .string (S s)] 65)).putObj l o' = W2 := ⟨_, rfl⟩
        rw [hW2]
        have hq : ∀ j, j ≠ l → j < W.heap.size → W2.heap[j]? = W.heap[j]? := fun j hj hlt => by
          rw [← hW2, World.putObj_heap_other hj, Below.heap_alloc _ _ _ hlt]
        have hbx : W2.heap[W.heap.size]? = some (.cells #[.int .i64 (x : Int), .string (S s)] 65 (0, 0)) := by
          rw [← hW2, World.putObj_heap_other (by omega)]; exact heap_alloc_new W _
        have hM0 : W2.heap[w.heap.size]? = _ := (hq _ (by omega) (by omega)).trans (unhide HN0)
        have hM1 : W2.heap[w.heap.size + 1]? = _ := (hq _ (by omega) (by omega)).trans (unhide HN1)
        have hM2 : W2.heap[w.heap.size + 1 + 1]? = _ := (hq _ (by omega) (by omega)).trans (unhide HN2)
        have cb0 : W2.cell? ⟨W.heap.size, 0, none⟩ = some (.int .i64 (x : Int)) := by rw [block_cell hbx]; rfl
        have cb1 : W2.cell? ⟨W.heap.size, 1, none⟩ = some (.string (S s)) := by rw [block_cell hbx]; rfl
        have cm0 : W2.cell? ⟨w.heap.size, 0, none⟩ = some (.int .i64 (k : Int)) := by rw [block_cell hM0]; rfl
        have cm1 : W2.cell? ⟨w.heap.size + 1, 0, none⟩ = some (.string ⟨#[]⟩) := by rw [block_cell hM1]; rfl
        have cm2 : W2.cell? ⟨w.heap.size + 1 + 1, 0, none⟩ = some (.int .i64 0) := by rw [block_cell hM2]; rfl
        have fm1 : W2.frozen? ⟨w.heap.size + 1, 0, none⟩ = false := block_frozen hM1 0
        have fm2 : W2.frozen? ⟨w.heap.size + 1 + 1, 0, none⟩ = false := block_frozen hM2 0
        have HB2 : Hid (Below W0.heap.size W0 W2) := by
          rw [← hW2]; exact below_put ((unhide HB).alloc hszW _) l o' (by omega) (by simp; omega)
        clear hW2 hq hbx hM0 hM1 hM2
        by_cases hxk : x = k
        · subst hxk
          have hbeq : ((x : Int) == (x : Int)) = true := by simp
          gi_wp2
          have hset : (W2.setCell ⟨w.heap.size + 1, 0, none⟩ (.string (S s))).cell? ⟨w.heap.size + 1 + 1, 0, none⟩ = some (.int .i64 0) := by
            rw [World.cell?_setCell_other _ _ _ _ (by simp)]; exact cm2
          refine ⟨((KeepsOthers.setCell _ _ _).trans (KeepsOthers.setCell _ _ _)).from _, ⟨pre, (x, s), rfl, rfl, unhide HP, ?_, ?_⟩, ?_⟩
          · rw [World.cell?_setCell_other _ _ _ _ (by simp)]
            exact World.cell?_setCell_same _ _ _ cm1
          · exact World.cell?_setCell_same _ _ _ hset
          · exact (((unhide HB0).trans ((unhide HB2).mono (by omega))).setCell (p := ⟨w.heap.size + 1, 0, none⟩) (by simp) _).setCell (p := ⟨w.heap.size + 1 + 1, 0, none⟩) (by simp; omega) _
        · have hbeq : ((x : Int) == (k : Int)) = false := by simp; omega
          gi_wp2
          refine ⟨KeepsFrom.refl _ _, fun y hy => ?_, unhide HB2⟩
          rcases List.mem_append.1 hy with hy | hy
          · exact unhide HP y hy
          · simp at hy; subst hy; exact hxk
      case done =>
        rintro D W hD ⟨hne, hB⟩ hK
        have hsz0 := unhide HSZ0
        have hszW := hB.size
        have hcur := cur_none d k hne
        have hdW := ((unhide HD3).later hB).1
        have hkl : k < d.L.length := by unfold Dev.no at hno; omega
        obtain ⟨a2, c2, rfl, has⟩ := ownsRow_slice hdW.sec
        obtain ⟨g, rfl⟩ := has (by omega)
        have hc0 := hdW.c0
        have hsec : W.cell? ⟨g, k, none⟩ = some (.string (S (d.L[k]'hkl))) := ownsRow_cell hdW.sec rfl k _ (by simp [secs, List.getElem?_eq_getElem hkl])
        have hcur2 : d.cur k = d.L[k]'hkl := by rw [hcur]; simp [List.getD_eq_getElem?_getD, List.getElem?_eq_getElem hkl]
        have hN0 : W.heap[w.heap.size]? = _ := (hB.block w.heap.size (by omega)).trans (unhide HQ0)
        have hN1 : W.heap[w.heap.size + 1]? = _ := (hB.block (w.heap.size + 1) (by omega)).trans (unhide HQ1)
        have hN2 : W.heap[w.heap.size + 1 + 1]? = _ := (hB.block (w.heap.size + 1 + 1) (by omega)).trans (unhide HQ2)
        have cm0 : W.cell? ⟨w.heap.size, 0, none⟩ = some (.int .i64 (k : Int)) := by rw [block_cell hN0]; rfl
        have cm1 : W.cell? ⟨w.heap.size + 1, 0, none⟩ = some (.string ⟨#[]⟩) := by rw [block_cell hN1]; rfl
        have cm2 : W.cell? ⟨w.heap.size + 1 + 1, 0, none⟩ = some (.int .i64 0) := by rw [block_cell hN2]; rfl
        have fm1 : W.frozen? ⟨w.heap.size + 1, 0, none⟩ = false := block_frozen hN1 0
        have fm2 : W.frozen? ⟨w.heap.size + 1 + 1, 0, none⟩ = false := block_frozen hN2 0
        rw [unhide HRS] at hcur2
        rw [← hcur2] at hsec
        have hi1 : (0 : Int) ≤ (k : Int) := by omega
        have hi2 : (k : Int) < (d.L.length : Int) := by omega
        have HB := hide hB
        have HK := hide hK
        clear hcur hcur2 hdW has hN0 hN1 hN2 hB hK hne h hkl
        gi_wp2
        gi_region
        obtain ⟨W4, hW4⟩ : ∃ W4, ((W.setCell ⟨w.heap.size + 1, 0, none⟩ (.string (S rs))).setCell ⟨w.heap.size + 1 + 1, 0, none⟩ (.int .i64 0)).drew = W4 := ⟨_, rfl⟩
        rw [hW4]
        have hset : (W.setCell ⟨w.heap.size + 1, 0, none⟩ (.string (S rs))).cell? ⟨w.heap.size + 1 + 1, 0, none⟩ = some (.int .i64 0) := by
          rw [World.cell?_setCell_other _ _ _ _ (by simp)]; exact cm2
        have hc4 : W4.cell? ⟨w.heap.size + 1, 0, none⟩ = some (.string (S rs)) := by
          rw [← hW4]
          show ((W.setCell ⟨w.heap.size + 1, 0, none⟩ (.string (S rs))).setCell ⟨w.heap.size + 1 + 1, 0, none⟩ (.int .i64 0)).cell? ⟨w.heap.size + 1, 0, none⟩ = _
          rw [World.cell?_setCell_other _ _ _ _ (by simp)]
          exact World.cell?_setCell_same _ _ _ cm1
        have hc5 : W4.cell? ⟨w.heap.size + 1 + 1, 0, none⟩ = some (.int .i64 0) := by
          rw [← hW4]
          exact World.cell?_setCell_same _ _ _ hset
        have hK4 : W4.heap[D]? = some (.deferred (some [])) := by
          rw [← hW4]
          exact ((KeepsOthers.setCell _ _ _).trans (KeepsOthers.setCell _ _ _)).same D _ (unhide HK) rfl
        have hb4 : Below w.heap.size w W4 := by
          rw [← hW4]
          exact ((((unhide HB0).trans ((unhide HB).mono (by omega))).setCell (p := ⟨w.heap.size + 1, 0, none⟩) (by simp) _).setCell (p := ⟨w.heap.size + 1 + 1, 0, none⟩) (by simp; omega) _).drew
        clear hW4 hset cm1 cm2 fm1 fm2 cm0 hc0 hsec
        have HC4 := hide hc4
        have HC5 := hide hc5
        clear hc4 hc5
        gi_wp2
        refine ⟨by simp, .inl ⟨_, _, rfl, run_takeDeferred hK4, ?_⟩⟩
        have hc6 := cell_kept (unhide HC4) (grownBy_putObj' _ D (.deferred none)) (fun r e => by cases e; exact ⟨_, hK4, rfl⟩)
        have hc7 := cell_kept (unhide HC5) (grownBy_putObj' _ D (.deferred none)) (fun r e => by cases e; exact ⟨_, hK4, rfl⟩)
        refine ⟨.tuple #[.string (S rs), .int .i64 0], ?_, rfl, below_put hb4 D _ (by omega) hb4.size⟩
        simp [results, Tryd.results31, go_sem, hc6, hc7]
      case stop =>
        rintro D pre x rest W hD hx ⟨⟨pre', y, he, hy, hp, hc4, hc5⟩, hB⟩ hK
        obtain ⟨rfl, e2⟩ := List.append_inj' he rfl
        obtain rfl : x = y := by simpa using e2
        have hrs := cur_some d k pre rest x hx hp hy
        rw [unhide HRS] at hrs
        subst hrs
        gi_wp2
        refine ⟨by simp, .inl ⟨_, _, rfl, run_takeDeferred hK, ?_⟩⟩
        have hc6 := cell_kept hc4 (grownBy_putObj' _ D (.deferred none)) (fun r e => by cases e; exact ⟨_, hK, rfl⟩)
        have hc7 := cell_kept hc5 (grownBy_putObj' _ D (.deferred none)) (fun r e => by cases e; exact ⟨_, hK, rfl⟩)
        refine ⟨.tuple #[.string (S x.2), .int .i64 0], ?_, rfl, below_put hB D _ (by have := unhide HSZ0; omega) hB.size⟩
        simp [results, Tryd.results31, go_sem, hc6, hc7]
end Go.Proofs.YtbmhmljbpjimoaaDoor
/- The contract of a device's Write. -/
namespace Go.Proofs.YtbmhmljbpjimoaaDoor
open Go.RowKit
set_option linter.unusedVariables false
set_option maxRecDepth 100000

theorem info_write : (Tryd.prog.info? 65).map (fun i => (i.zero, i.size, i.bytes)) = some (some (.agg #[.int .i64 0, .string ⟨#[]⟩]), 2, 24) := by kernel_rfl
theorem under_writes : Tryd.prog.underlying 61 = some (.slice 65) := by kernel_rfl

theorem cell_two_new (w : World) (u v : Value) (t : TypeId) (j : Nat) (x : Value) (h : [u, v][j]? = some x) : (w.alloc (.cells #[u, v] t)).cell? ((⟨w.heap.size, 0, none⟩ : Addr).add j) = some x := by
  rw [plain_add, Nat.zero_add, block_cell (heap_alloc_new w _)]
  match j, h with
  | 0, h => simpa using h
  | 1, h => simpa using h
  | j + 2, h => simp at h
theorem ownsRow_later {w w' : World} {base : Nat} {e : TypeId} {size : Nat} {v : Value} {n : Nat} {xs : List Value} (h : w.ownsRow base e size v n xs) (hb : Below w.heap.size w w') : w'.ownsRow base e size v n xs :=
  ownsRow_same h fun k hk => hb.block k (by obtain ⟨c, hc, _⟩ := ownsRow_blk h hk; exact block_lt hc)
theorem below_undrew {w w' : World} (h : Below w.drew.heap.size w.drew w') : Below w.heap.size w w' := ⟨h.os, h.tape, h.output, h.size, h.block⟩
theorem d_grown_drew {w w1 : World} {r : Option Nat} (h : w.drew.grownBy w1 r) : w.grownBy w1 r := ⟨h.os, h.tape, h.output, h.size, h.block⟩
theorem d_fresh_of {A : Prop} {v : Option Nat} {M N : Nat} (h : A ∨ ∀ k, v = some k → N ≤ k) (hN : M ≤ N) : A ∨ ∀ k, v = some k → M ≤ k := by
  rcases h with h | h
  · exact Or.inl h
  · exact Or.inr fun k hk => Nat.le_trans hN (h k hk)

section
variable {base : Nat} {w w0 w1 : World} {b : Nat} {sv lv : Value} {d : Dev}
theorem DevIs.grow (h : DevIs base w b sv lv d) (hb0 : Below w.heap.size w w0) (hg : w0.grownBy w1 lv.ownBlock) : w1.heap[b]? = w.heap[b]? ∧ (∀ k, sv.ownBlock = some k → w1.heap[k]? = w.heap[k]?) := by
  have hs0 := hb0.size
  have hlt := h.lt
  refine ⟨?_, fun k hk => ?_⟩
  · rw [hg.block b (by omega) (fun e => h.nloo e.symm), hb0.block b hlt]
  · obtain ⟨cur, hc, _⟩ := ownsRow_blk h.sec hk
    have := block_lt hc
    rw [hg.block k (by omega) (fun e => h.ns hk e.symm), hb0.block k this]
theorem DevIs.grown1 (h : DevIs base w b sv lv d) (hb0 : Below w.heap.size w w0) (hg : w0.grownBy w1 lv.ownBlock) : w1.cell? ⟨b, 1, none⟩ = some lv ∧ w1.frozen? ⟨b, 1, none⟩ = false := by
  have hb := (h.grow hb0 hg).1
  rw [World.cell?_of_block (w := w) (a := ⟨b, 1, none⟩) hb, World.frozen?_of_block (w := w) (a := ⟨b, 1, none⟩) hb]
  exact ⟨h.c1, h.fz 1⟩
theorem DevIs.put (h : DevIs base w b sv lv d) (hb0 : Below w.heap.size w w0) (hg : w0.grownBy w1 lv.ownBlock) {v : Value} {i : Nat} {s : List UInt8}
    (hown : w1.ownsRow base 65 2 v (d.W.length + 1) (wrs d.W ++ [.int .i64 (i : Int), .string (S s)])) (hfr : v.ownBlock = lv.ownBlock ∨ ∀ k, v.ownBlock = some k → w.heap.size ≤ k) :
    DevIs base (w1.setCell ⟨b, 1, none⟩ v) b sv v { d with W := d.W ++ [(i, s)] } ∧ DStep b w (w1.setCell ⟨b, 1, none⟩ v) := by
  obtain ⟨hb, hs⟩ := h.grow hb0 hg
  have hblk : w1.heap[b]? = _ := hb.trans h.blk
  have ho : ∀ j, j ≠ b → (w1.setCell ⟨b, 1, none⟩ v).heap[j]? = w1.heap[j]? := fun j hj => heap_setCell_other w1 ⟨b, 1, none⟩ j v hj
  have hvb : v.ownBlock ≠ some b := ownsRow_unlike hown hblk (by decide)
  refine ⟨⟨h.lo, heap_setCell_same w1 b 1 _ _ v hblk, ?_, ?_⟩, ⟨hg.os.trans hb0.os, hg.tape.trans hb0.tape, hg.output.trans hb0.output, ?_, fun k hk hf => ?_⟩⟩
  · exact ownsRow_same h.sec fun k hk => by rw [ho k (fun e => h.nsec (by rw [hk, e])), hs k hk]
  · have := ownsRow_same hown (w' := w1.setCell ⟨b, 1, none⟩ v) (fun k hk => ho k (fun e => hvb (by rw [hk, e])))
    have e : wrs (d.W ++ [(i, s)]) = wrs d.W ++ [.int .i64 (i : Int), .string (S s)] := by rw [wrs_append]; rfl
    simpa [e] using this
  · have := hg.size; have := hb0.size; simp [World.setCell]; omega
  · have hl := hf.loo lv h.c1
    have hlt0 := hb0.size
    refine ⟨by rw [ho k hf.ne, hg.block k (by omega) (fun e => hl e.symm), hb0.block k hk], hf.ne, fun u hu => ?_, fun u hu => ?_⟩
    · rw [World.cell?_setCell_other] at hu
      · rw [World.cell?_of_block (w := w) (a := ⟨b, 0, none⟩) hb] at hu
        exact hf.sec u hu
      · simp
    · rw [World.cell?_setCell_same _ _ _ (block_cell hblk 1)] at hu
      cases hu
      rcases hfr with e | e
      · rw [e]; exact hl
      · intro ek; have := e k ek; omega
end

set_option maxHeartbeats 1600000 in
theorem write_any {base : Nat} {w : World} {b : Nat} {d : Dev} (h : DevAt base w b d) (i : Int) (s : List UInt8) (hl : d.left < 9223372036854775808) (hc : d.calls < 4611686018427387904) (hn : d.W.length ≤ 1099511627776) (hB : base ≤ w.heap.size) :
    Calls Tryd.prog 36 #[.pointer (some ⟨b, 0, none⟩), .int .i64 i, .string (S s)] w fun e w' => e = .returned (.int .i64 (d.writeE i s)) ∧ DevAt base w' b (d.write i s) ∧ DStep b w w' := by
  obtain ⟨i0, hi, hz0, hz1, hz2⟩ := info_parts info_write
  have HHAS := hide (has_any h i)
  have HBEG := hide (begin_any h hl hc)
  have HW := hide (fun w => whole_any s w)
  have hsz : (S s).size = s.length := rfl
  have HH := hide h
  obtain ⟨E, hE⟩ : ∃ E, d.writeE i s = E := ⟨_, rfl⟩
  have hE2 := hE
  unfold Dev.writeE at hE2
  rw [hE]
  have HE := hide hE
  obtain ⟨D, hD⟩ : ∃ D, d.write i s = D := ⟨_, rfl⟩
  have hD2 := hD
  unfold Dev.write at hD2
  rw [hD]
  obtain ⟨z, hz⟩ : ∃ z, whole s = z := ⟨_, rfl⟩
  rw [hz] at HW hD2
  clear hE hD h hz
  by_cases hno : d.no i
  · rw [if_pos (Or.inl hno)] at hE2 hD2
    subst hE2 hD2
    rw [decide_eq_true hno] at HHAS
    clear HBEG HW
    go_enter Tryd.func36, Tryd.ntmps36
    go_wp2_with fail
    refine (unhide HHAS).mono ?_
    rintro e w1 ⟨rfl, rfl⟩
    go_wp2_with fail
    go_ret
    exact ⟨rfl, unhide HH, DStep.refl _ _⟩
  · rw [decide_eq_false hno] at HHAS
    by_cases h64 : 64 < s.length
    · rw [if_pos (Or.inr h64)] at hE2 hD2
      subst hE2 hD2
      clear HBEG HW
      go_enter Tryd.func36, Tryd.ntmps36
      go_wp2_with fail
      refine (unhide HHAS).mono ?_
      rintro e w1 ⟨rfl, rfl⟩
      go_wp2_with fail
      go_ret
      exact ⟨rfl, unhide HH, DStep.refl _ _⟩
    · rw [if_neg (by simp [hno, h64])] at hE2 hD2
      by_cases ho : d.out
      · rw [if_pos ho] at hE2 hD2
        subst hE2 hD2
        rw [decide_eq_true ho] at HBEG
        clear HW
        go_enter Tryd.func36, Tryd.ntmps36
        go_wp2_with fail
        refine (unhide HHAS).mono ?_
        rintro e w1 ⟨rfl, rfl⟩
        go_wp2_with fail
        refine (unhide HBEG).mono ?_
        rintro e w1 ⟨rfl, h1, h2⟩
        have H12 := hide (And.intro h1 h2)
        clear h1 h2
        go_wp2_with fail
        go_ret
        exact ⟨rfl, (unhide H12).1, (unhide H12).2⟩
      · rw [if_neg ho] at hE2 hD2
        subst hE2 hD2
        rw [decide_eq_false ho] at HBEG
        have hin : (i.toNat : Int) = i := by unfold Dev.no at hno; omega
        have HIN := hide hin
        clear hin
        go_enter Tryd.func36, Tryd.ntmps36
        go_wp2_with fail
        refine (unhide HHAS).mono ?_
        rintro e w1 ⟨rfl, rfl⟩
        go_wp2_with fail
        refine (unhide HBEG).mono ?_
        rintro e wb ⟨rfl, ⟨sv, lv, h1⟩, h2⟩
        have hbW : d.begin.W = d.W := by unfold Dev.begin; rw [if_neg ho]
        have hc1 := h1.c1
        have hblt := h1.lt
        have H2 := hide h2
        have HBW := hide hbW
        have HSZ := hide (Nat.le_trans hB h2.size)
        obtain ⟨ao, c, rfl, _⟩ := ownsRow_slice h1.loo
        have H1 := hide h1
        have HOWN := hide h1.loo
        rw [hbW] at hc1 H1 HOWN
        clear h1 h2 hbW HBEG HHAS
        go_wp2_with fail
        go_region_law (first
            | (go_simp; go_at_call 34; refine (unhide HW _).mono ?_; rintro e w2 ⟨rfl, hb2⟩; replace hb2 := below_undrew hb2; have hc2 := (hb2.cell (p := ⟨b, 1, none⟩) (by simpa using hblt)).trans hc1; have hc2A : ∀ o, (w2.alloc o).cell? ⟨b, 1, none⟩ = some (.slice ao d.W.length c) := (fun o => by rw [World.cell?_of_block (w := w2) (a := ⟨b, 1, none⟩) (Below.heap_alloc w2 o b (by have := hb2.size; omega))]; exact hc2); have HB2 := hide hb2; have HOWN2 := hide (ownsRow_later (unhide HOWN) hb2); have HSZ2 := hide (Nat.le_trans (unhide HSZ) hb2.size); clear hb2)
            | (refine step_append_fresh rfl (.tmp 23) (.tmp 28) 61 rfl base 65 i0 (.agg #[.int .i64 0, .string ⟨#[]⟩]) 2 24 under_writes hi hz0 hz1 hz2 rfl (by decide) (.slice ao d.W.length c) d.W.length (wrs d.W) (by simp [Act.eval]) ((unhide HOWN2).alloc _) ⟨w2.heap.size, 0, none⟩ 1 1 [.int .i64 i, .string (S z)] (by simp [Act.eval]) rfl (fun j x hx => by exact cell_two_new _ _ _ _ j x hx) (fun u hu => by simp at hu; rcases hu with rfl | rfl <;> rfl) (by unfold maxLen; omega) (by omega) (by have := unhide HSZ2; simp; omega) ?_; intro v' w3 hown' hgrow hfresh; have hg1 := (unhide H1).grown1 ((unhide HB2).alloc (unhide HB2).size _) hgrow; have HPUT := hide ((unhide H1).put ((unhide HB2).alloc (unhide HB2).size _) hgrow (i := i.toNat) (s := z) (by rw [unhide HIN, unhide HBW]; exact hown') (d_fresh_of hfresh (by have := (unhide HB2).size; simp; omega))); obtain ⟨hc3, hf3⟩ := hg1; obtain ⟨a1, c1, rfl, _⟩ := ownsRow_slice hown'; clear hown' hgrow hfresh))
        all_goals
          have hput := unhide HPUT
          rw [unhide HBW] at hput
          clear HPUT hc3 hf3 hc2 hc2A hc1
          go_wp2
          go_ret
          exact ⟨rfl, ⟨_, _, hput.1⟩, (unhide H2).trans hput.2⟩
end Go.Proofs.YtbmhmljbpjimoaaDoor
/- The contracts of a device's Flush, Arm, Spoil and Crash. -/
namespace Go.Proofs.YtbmhmljbpjimoaaDoor
open Go.RowKit
set_option linter.unusedVariables false
set_option maxRecDepth 100000

theorem lay_take (l : List (List UInt8)) (ws : List (Nat × List UInt8)) (k : Nat) (h : k < ws.length) : lay l (ws.take (k + 1)) = (lay l (ws.take k)).set (ws[k]'h).1 (ws[k]'h).2 := by
  rw [List.take_succ_eq_append_getElem h]
  unfold lay
  rw [List.foldl_append]
  rfl
def Dev.setL (d : Dev) (l : List (List UInt8)) : Dev := { d with L := l }
theorem Dev.setL_L (d : Dev) (l : List (List UInt8)) : (d.setL l).L = l := rfl
theorem Dev.setL_self (d : Dev) : d.setL d.L = d := rfl

theorem box_two (w : World) (a : Addr) (v p q : Value) (t : TypeId) : ((w.setCell a v).alloc (.cells #[p, q] t)).cell? ⟨w.heap.size, 0, none⟩ = some p ∧ ((w.setCell a v).alloc (.cells #[p, q] t)).cell? ⟨w.heap.size, 1, none⟩ = some q := by
  have h := heap_alloc_new (w.setCell a v) (.cells #[p, q] t)
  rw [World.size_setCell] at h
  exact ⟨by rw [block_cell h]; rfl, by rw [block_cell h]; rfl⟩

theorem arm_any {base : Nat} {w : World} {b : Nat} {d : Dev} (h : DevAt base w b d) (n : Int) :
    Calls Tryd.prog 10 #[.pointer (some ⟨b, 0, none⟩), .int .i64 n] w fun e w' => e = .returned (.tuple #[]) ∧ DevAt base w' b (d.arm n) ∧ DStep b w w' := by
  obtain ⟨sv, lv, h⟩ := h
  have h3 := h.c3
  have h4 := h.c4
  have f3 := h.fz 3
  have f4 := h.fz 4
  have HH := hide h
  clear h
  go_enter Tryd.func10, Tryd.ntmps10
  go_wp2_with fail
  go_end0
  rw [← Int.ofNat_toNat]
  have := unhide HH
  exact ⟨rfl, ⟨sv, lv, (this.setArmed (decide (0 ≤ n))).setLeft n.toNat⟩, (this.stepSet 3 _ (by omega)).trans ((this.setArmed (decide (0 ≤ n))).stepSet 4 _ (by omega))⟩

set_option maxHeartbeats 1600000 in
theorem flush_any {base : Nat} {w : World} {b : Nat} {d : Dev} (h : DevAt base w b d) (hok : d.Ok) (hl : d.left < 9223372036854775808) (hc : d.calls < 4611686018427387904) (hn : d.W.length ≤ 1099511627776) (hm : d.L.length ≤ 1099511627776) :
    Calls Tryd.prog 23 #[.pointer (some ⟨b, 0, none⟩)] w fun e w' => e = .returned (.int .i64 d.flushE) ∧ DevAt base w' b d.flush ∧ DStep b w w' := by
  have HBEG := hide (begin_any h hl hc)
  have HH := hide h
  by_cases ho : d.out
  · rw [decide_eq_true ho] at HBEG
    have e1 : d.flushE = 16 := by unfold Dev.flushE; rw [if_pos ho]
    have e2 : d.flush = d.begin := by unfold Dev.flush; rw [if_pos ho]
    rw [e1, e2]
    clear e1 e2 h
    go_enter Tryd.func23, Tryd.ntmps23
    go_wp2_with fail
    refine (unhide HBEG).mono ?_
    rintro e w1 ⟨rfl, h1, h2⟩
    have H12 := hide (And.intro h1 h2)
    clear h1 h2
    go_wp2_with fail
    go_ret
    exact ⟨rfl, (unhide H12).1, (unhide H12).2⟩
  · rw [decide_eq_false ho] at HBEG
    have e1 : d.flushE = 0 := by unfold Dev.flushE; rw [if_neg ho]
    have hbW : d.begin.W = d.W := by unfold Dev.begin; rw [if_neg ho]
    have hbL : d.begin.L = d.L := by unfold Dev.begin; rw [if_neg ho]
    have e2 : d.flush = { d.begin.setL (lay d.begin.L d.begin.W) with W := [] } := by rw [hbW, hbL]; unfold Dev.flush; rw [if_neg ho]; rfl
    rw [e1, e2]
    rw [← hbW] at hn
    rw [← hbL] at hm
    have HOK : Hid d.begin.Ok := ⟨by rw [hbW, hbL]; exact hok.has, by rw [hbL]; exact hok.some⟩
    generalize d.begin = d0 at *
    clear e1 e2 h hok hbW hbL HH ho hl hc
    go_enter Tryd.func23, Tryd.ntmps23
    go_wp2_with fail
    refine (unhide HBEG).mono ?_
    rintro e wb ⟨rfl, ⟨sv, lv, h1⟩, h2⟩
    have hc1 := h1.c1
    have H2 := hide h2
    obtain ⟨ao, c, rfl, hao⟩ := ownsRow_slice h1.loo
    have H1 := hide h1
    clear h1 h2 HBEG
    obtain ⟨n, hnn⟩ : ∃ n, d0.W.length = n := ⟨_, rfl⟩
    rw [hnn] at hc1 H1 hao hn
    have HN := hide hnn
    clear hnn
    go_wp2_with fail
    go_loopw [13] (fun i wr => ∃ k : Nat, k ≤ n ∧ i = .int .i64 k ∧ DevIs base wr b sv (.slice ao n c) (d0.setL (lay d0.L (d0.W.take k))) ∧ DStep b wb wr) (fun i _ => n - (intOf i).toNat)
    case atStart =>
      exact ⟨0, Nat.zero_le _, rfl, unhide H1, DStep.refl _ _⟩
    case round =>
      obtain ⟨k, hk, rfl, hr, hbw⟩ := hrel
      clear H1 hc1
      have HR := hide hr
      by_cases hlt : k < n
      · have hkW : k < d0.W.length := by have := unhide HN; omega
        obtain ⟨gl, rfl⟩ := hao (by omega)
        obtain ⟨a2, c2, rfl, has⟩ := ownsRow_slice hr.sec
        have hLl : (d0.setL (lay d0.L (d0.W.take k))).L.length = d0.L.length := lay_length _ _
        have hLp := (unhide HOK).some
        obtain ⟨g, rfl⟩ := has (by rw [hLl]; omega)
        have hat : (d0.W[k]'hkW).1 < (d0.setL (lay d0.L (d0.W.take k))).L.length := by rw [hLl]; exact (unhide HOK).has (d0.W[k]'hkW) (List.getElem_mem hkW)
        have hg := wrs_get d0.W k hkW
        have hx0 := ownsRow_cell hr.loo (g := gl) (c := c) (by show Value.slice _ n c = Value.slice _ d0.W.length c; rw [unhide HN]) _ _ hg.1
        have hx1 := ownsRow_cell hr.loo (g := gl) (c := c) (by show Value.slice _ n c = Value.slice _ d0.W.length c; rw [unhide HN]) _ _ hg.2
        have HNEW : Hid (d0.setL (lay d0.L (d0.W.take (k + 1))) = { d0.setL (lay d0.L (d0.W.take k)) with L := (d0.setL (lay d0.L (d0.W.take k))).L.set (d0.W[k]'hkW).1 (d0.W[k]'hkW).2 }) := by
          rw [lay_take _ _ _ hkW]; exact rfl
        clear hg
        generalize d0.W[k]'hkW = x at *
        obtain ⟨x, s⟩ := x
        dsimp only at hx0 hx1 hat HNEW
        rw [hLl] at hat
        generalize hd1 : d0.setL (lay d0.L (d0.W.take k)) = d1 at *
        clear hd1
        have hc0 := hr.c0
        have hsec : wr.cell? ⟨g, x, none⟩ = some (.string (S (d1.L[x]'(by omega)))) := ownsRow_cell hr.sec rfl x _ (by simp [secs, List.getElem?_eq_getElem (show x < d1.L.length by omega)])
        have hfz : wr.frozen? ⟨g, x, none⟩ = false := by
          obtain ⟨cur, hh, _⟩ := ownsRow_blk hr.sec (k := g) rfl
          exact block_frozen hh x
        have hblt := hr.lt
        have hglt := cell_lt hsec
        have hbl : ∀ o, Below wr.heap.size wr (wr.alloc o) := fun o => (Below.refl _ wr).alloc (Nat.le_refl _) o
        have hc0A : ∀ o, (wr.alloc o).cell? ⟨b, 0, none⟩ = some (.slice (some ⟨g, 0, none⟩) d1.L.length c2) := fun o => ((hbl o).cell (p := ⟨b, 0, none⟩) hblt).trans hc0
        have hscA : ∀ o, (wr.alloc o).cell? ⟨g, x, none⟩ = some (.string (S (d1.L[x]'(by omega)))) := fun o => ((hbl o).cell (p := ⟨g, x, none⟩) hglt).trans hsec
        have hfzA : ∀ o, (wr.alloc o).frozen? ⟨g, x, none⟩ = false := fun o => ((hbl o).frozen (p := ⟨g, x, none⟩) hglt).trans hfz
        have hgb : g ≠ b := fun e => hr.nsec (by rw [e]; rfl)
        have hbg := Ne.symm hgb
        have hgN : g ≠ wr.heap.size := by omega
        have hNg := Ne.symm hgN
        have hi1 : (0 : Int) ≤ (x : Int) := by omega
        have hi2 : (x : Int) < (d1.L.length : Int) := by omega
        have hk1 : (0 : Int) ≤ (k : Int) := by omega
        have hk2 : (k : Int) < (n : Int) := by omega
        generalize d1.L[x]'(by omega) = old at *
        have HBW := hide hbw
        obtain ⟨hN0, hN1⟩ := box_two wr ⟨g, x, none⟩ (.string (S s)) (.int .i64 (x : Int)) (.string (S s)) 65
        clear has hr hbl hbw
        go_wp2_with fail
        go_region_held3 (fun w' => w'.cell? ⟨b, 0, none⟩ = some (.slice (some ⟨g, 0, none⟩) d1.L.length c2) ∧ w'.cell? ⟨wr.heap.size, 0, none⟩ = some (.int .i64 (x : Int)) ∧ w'.cell? ⟨wr.heap.size, 1, none⟩ = some (.string (S s))) (go_keep) (fail)
        all_goals
          clear hc0A hscA hfzA hc0 hsec hfz hx0 hx1 hN0 hN1
          go_wp2
          go_roundw
          case rel =>
            refine ⟨k + 1, by omega, by go_num, ?_, ?_⟩
            · rw [unhide HNEW]
              exact (((unhide HR).setSector rfl x s).1.later (((Below.refl _ _).alloc (Nat.le_refl _) _).drew)).1
            · exact ((unhide HBW).trans ((unhide HR).setSector rfl x s).2).trans (((unhide HR).setSector rfl x s).1.later (((Below.refl _ _).alloc (Nat.le_refl _) _).drew)).2
          case measure => simp [intOf]; omega
      · have : k = n := by omega
        subst this
        have hr1 := hr.c1
        have hf1 := hr.fz 1
        have e : d0.W.take k = d0.W := List.take_of_length_le (by have := unhide HN; omega)
        rw [e] at HR
        have HBW := hide hbw
        clear hr hbw e
        go_wp2
        go_ret
        exact ⟨rfl, ⟨_, _, (unhide HR).setNil.1⟩, ((unhide H2).trans (unhide HBW)).trans (unhide HR).setNil.2⟩
end Go.Proofs.YtbmhmljbpjimoaaDoor
/- The contracts of a device's Spoil and Crash. -/
namespace Go.Proofs.YtbmhmljbpjimoaaDoor
open Go.RowKit
set_option linter.unusedVariables false
set_option maxRecDepth 100000

/- A row of numbers, wherever it lies. -/
def NumRow (w : World) (v : Value) (l : List Int) : Prop := ∃ ao c, v = .slice ao l.length c ∧ ∀ j (h : j < l.length), ∃ bk off, ao = some ⟨bk, off, none⟩ ∧ w.cell? ⟨bk, off + j, none⟩ = some (.int .i64 (l[j]'h))

theorem chosen_take (keep : List Int) (ws : List (Nat × List UInt8)) (k : Nat) (h : k < ws.length) : chosen keep (ws.take (k + 1)) = if keep.contains (k : Int) then chosen keep (ws.take k) ++ [ws[k]'h] else chosen keep (ws.take k) := by
  rw [List.take_succ_eq_append_getElem h]
  unfold chosen
  rw [List.zipIdx_append]
  have e : (ws.take k).length = k := by simp; omega
  rw [e]
  simp only [List.zipIdx_cons, List.zipIdx_nil, List.filter_append, List.map_append, List.filter_cons, List.filter_nil, Nat.zero_add]
  split <;> simp_all
theorem lay_snoc (l : List (List UInt8)) (ws : List (Nat × List UInt8)) (x : Nat × List UInt8) : lay l (ws ++ [x]) = (lay l ws).set x.1 x.2 := by
  unfold lay; rw [List.foldl_append]; rfl

/- Which of n writes are chosen by the first k numbers. -/
def bl (keep : List Int) (n k : Nat) : List Value := (List.range n).map fun (j : Nat) => Value.bool ((keep.take k).contains (j : Int))
theorem bl_length (keep : List Int) (n k : Nat) : (bl keep n k).length = n := by simp [bl]
theorem bl_get (keep : List Int) (n k j : Nat) (h : j < n) : (bl keep n k)[j]? = some (.bool ((keep.take k).contains (j : Int))) := by simp [bl, h]
theorem bl_zero (keep : List Int) (n : Nat) : bl keep n 0 = List.replicate n (.bool false) := by
  simp [bl, List.map_const']
theorem contains_take (keep : List Int) (k : Nat) (h : k < keep.length) (x : Int) : (keep.take (k + 1)).contains x = ((keep.take k).contains x || (keep[k]'h == x)) := by
  rw [List.take_succ_eq_append_getElem h]
  simp only [List.contains_eq_mem, List.mem_append, List.mem_singleton]
  by_cases h1 : x ∈ keep.take k
  · simp [h1]
  · by_cases h2 : x = keep[k]
    · subst h2; simp
    · have h3 : ¬keep[k] = x := fun e => h2 e.symm
      simp [h1, h2, h3]
theorem bl_out (keep : List Int) (n k : Nat) (h : k < keep.length) (hx : (keep[k]'h) < 0 ∨ (n : Int) ≤ (keep[k]'h)) : bl keep n (k + 1) = bl keep n k := by
  unfold bl
  apply List.map_congr_left
  intro j hj
  rw [contains_take _ _ h]
  have hj := List.mem_range.1 hj
  have : (keep[k]'h == (j : Int)) = false := by
    simp; omega
  rw [this]; simp
theorem bl_in (keep : List Int) (n k : Nat) (h : k < keep.length) (y : Nat) (hx : (keep[k]'h) = (y : Int)) (hy : y < n) : (bl keep n k).set y (.bool true) = bl keep n (k + 1) := by
  apply List.ext_getElem?
  intro j
  by_cases hj : j < n
  · rw [bl_get _ _ _ _ hj, contains_take _ _ h, List.getElem?_set, hx]
    by_cases e : y = j
    · subst e; simp [bl_length, hj]
    · rw [if_neg e, bl_get _ _ _ _ hj]
      have : ((y : Int) == (j : Int)) = false := by simp; omega
      rw [this]; simp
  · rw [List.getElem?_eq_none (by simp [bl_length]; omega), List.getElem?_eq_none (by simp [bl_length]; omega)]
theorem bl_all (keep : List Int) (n j : Nat) (h : j < n) : (bl keep n keep.length)[j]? = some (.bool (keep.contains (j : Int))) := by
  rw [bl_get _ _ _ _ h, List.take_length]

theorem info_bool : (Tryd.prog.info? 4).map (fun i => (i.zero, i.size, i.bytes)) = some (some (.bool false), 1, 1) := by kernel_rfl
theorem under_bools : Tryd.prog.underlying 60 = some (.slice 4) := by kernel_rfl

set_option maxHeartbeats 1600000 in
theorem crash_any {base : Nat} {w : World} {b : Nat} {d : Dev} (h : DevAt base w b d) (hok : d.Ok) (kv : Value) (keep : List Int) (hkv : NumRow w kv keep) (hn : d.W.length ≤ 1099511627776) (hm : d.L.length ≤ 1099511627776) (hkl : keep.length ≤ 1099511627776) :
    Calls Tryd.prog 8 #[.pointer (some ⟨b, 0, none⟩), kv] w fun e w' => e = .returned (.tuple #[]) ∧ DevAt base w' b (d.crash keep) ∧ DStep b w w' := by
  obtain ⟨ak, ck, rfl, hkeep⟩ := hkv
  obtain ⟨sv, lv, h⟩ := h
  have HH := hide h
  obtain ⟨ao, c, rfl, hao⟩ := ownsRow_slice h.loo
  have hc1 := h.c1
  obtain ⟨n, hnn⟩ : ∃ n, d.W.length = n := ⟨_, rfl⟩
  rw [hnn] at hc1 hao hn HH
  obtain ⟨m, hmm⟩ : ∃ m, keep.length = m := ⟨_, rfl⟩
  rw [hmm] at hkl
  rw [hmm]
  have HN := hide hnn
  have HM := hide hmm
  have HK := hide hkeep
  have hblt := h.lt
  have HOK := hide hok
  obtain ⟨i0, hi, hz0, hz1, hz2⟩ := info_parts info_bool
  obtain ⟨w1, hmk, hown1, hgr1⟩ := run_make_full (P := Tryd.prog) w w.heap.size 60 4 i0 (.bool false) 1 under_bools hi hz0 hz1 .i64 .i64 n (by rw [hz2]; omega) (by unfold maxLen; omega) (Nat.le_refl _)
  have hb1 : Below w.heap.size w w1 := (Below.refl _ _).grown hgr1 (Nat.le_refl _) (fun k e => by cases e)
  have hown2 : w1.ownsRow w.heap.size 4 1 (.slice (some ⟨w.heap.size, 0, none⟩) n n) n (bl keep n 0) := by
    have e : (madeCells (Value.bool false).cells (n * 1)).toList = List.replicate n (.bool false) := by
      rw [Nat.mul_one]; exact toList_madeCells_one _ n
    rw [bl_zero, ← e]
    exact hown1
  have HO2 := hide hown2
  have HB1 := hide hb1
  clear h hnn hmm hkeep hown1 hgr1 hown2 hb1 hok
  go_enter Tryd.func8, Tryd.ntmps8
  go_wp2_with fail
  go_loopw [17] (fun i wr => ∃ k : Nat, k ≤ m ∧ i = .int .i64 k ∧ wr.ownsRow w.heap.size 4 1 (.slice (some ⟨w.heap.size, 0, none⟩) n n) n (bl keep n k) ∧ Below w.heap.size w wr) (fun i _ => m - (intOf i).toNat)
  case atStart =>
    exact ⟨0, Nat.zero_le _, rfl, unhide HO2, unhide HB1⟩
  case round =>
    obtain ⟨k, hk, rfl, ho, hbw⟩ := hrel
    by_cases hlt : k < m
    · have hkl2 : k < keep.length := by have := unhide HM; omega
      obtain ⟨bk, off, rfl, hck⟩ := unhide HK k hkl2
      have hbk := cell_lt hck
      rw [← hbw.cell (p := ⟨bk, off + k, none⟩) hbk] at hck
      have hout := bl_out keep n k hkl2
      have hin := bl_in keep n k hkl2
      generalize keep[k]'hkl2 = x at *
      by_cases hx : 0 ≤ x ∧ x < n
      · obtain ⟨y, rfl⟩ : ∃ y : Nat, x = (y : Int) := ⟨x.toNat, by omega⟩
        have hy : y < n := by omega
        have HIN := hide (hin y rfl hy)
        have hcy := ownsRow_cell ho rfl y _ (bl_get keep n k y hy)
        have hfy : wr.frozen? ⟨w.heap.size, y, none⟩ = false := by
          obtain ⟨cur, hh, _⟩ := ownsRow_blk ho (k := w.heap.size) rfl
          exact block_frozen hh y
        generalize (keep.take k).contains (y : Int) = bo at *
        have HO := hide ho
        have HBW := hide hbw
        have h1 : (0 : Int) ≤ (y : Int) := by omega
        have h2 : (y : Int) < (n : Int) := by omega
        clear hout hin ho hbw HO2 HB1 hx
        go_wp2_with fail
        go_roundw
        case rel =>
          refine ⟨k + 1, by omega, by go_num, ?_, ?_⟩
          · rw [← unhide HIN]
            exact ownsRow_store (unhide HO) rfl y _
          · exact (unhide HBW).setCell (p := ⟨w.heap.size, y, none⟩) (Nat.le_refl _) _
        case measure => simp [intOf]; omega
      · have HOUT := hide (hout (by omega))
        have HO := hide ho
        have HBW := hide hbw
        clear hout hin ho hbw HO2 HB1
        by_cases hx0 : x < 0
        · go_wp2_with fail
          go_roundw
          case rel => exact ⟨k + 1, by omega, by go_num, by rw [unhide HOUT]; exact unhide HO, unhide HBW⟩
          case measure => simp [intOf]; omega
        · have hxn : (n : Int) ≤ x := by omega
          go_wp2_with fail
          go_roundw
          case rel => exact ⟨k + 1, by omega, by go_num, by rw [unhide HOUT]; exact unhide HO, unhide HBW⟩
          case measure => simp [intOf]; omega
    · have : k = m := by omega
      subst this
      rw [← unhide HM] at ho
      have hwb := hbw.block b hblt
      have hc1' := (hbw.cell (p := ⟨b, 1, none⟩) hblt).trans hc1
      have HO := hide ho
      have HBW := hide hbw
      have HD := hide ((unhide HH).later hbw)
      clear ho hbw HO2 HB1 hwb
      go_wp2_with fail
      obtain ⟨wa, hwa⟩ : ∃ wa, wr = wa := ⟨_, rfl⟩
      rw [hwa] at HO HBW HD ⊢
      clear hc1' hwa hmk
      obtain ⟨N, hN⟩ : ∃ N, w.heap.size = N := ⟨_, rfl⟩
      rw [hN] at HO ⊢
      have HNN := hide hN
      clear hN
      go_loopw [38] (fun i wr => ∃ k : Nat, k ≤ n ∧ i = .int .i64 k ∧ DevIs base wr b sv (.slice ao n c) (d.setL (lay d.L (chosen keep (d.W.take k)))) ∧ wr.ownsRow N 4 1 (.slice (some ⟨N, 0, none⟩) n n) n (bl keep n keep.length) ∧ DStep b wa wr) (fun i _ => n - (intOf i).toNat)
      case atStart =>
        exact ⟨0, Nat.zero_le _, rfl, (unhide HD).1, unhide HO, DStep.refl _ _⟩
      case round =>
        obtain ⟨k, hk, rfl, hr, hch, hbw⟩ := hrel
        have HR := hide hr
        have HCH := hide hch
        by_cases hlt : k < n
        · have hkW : k < d.W.length := by have := unhide HN; omega
          obtain ⟨gl, rfl⟩ := hao (by omega)
          obtain ⟨a2, c2, rfl, has⟩ := ownsRow_slice hr.sec
          have hLl : (d.setL (lay d.L (chosen keep (d.W.take k)))).L.length = d.L.length := lay_length _ _
          have hLp := (unhide HOK).some
          obtain ⟨g, rfl⟩ := has (by rw [hLl]; omega)
          have hat : (d.W[k]'hkW).1 < (d.setL (lay d.L (chosen keep (d.W.take k)))).L.length := by rw [hLl]; exact (unhide HOK).has (d.W[k]'hkW) (List.getElem_mem hkW)
          have hg := wrs_get d.W k hkW
          have hx0 := ownsRow_cell hr.loo (g := gl) (c := c) (by show Value.slice _ n c = Value.slice _ d.W.length c; rw [unhide HN]) _ _ hg.1
          have hx1 := ownsRow_cell hr.loo (g := gl) (c := c) (by show Value.slice _ n c = Value.slice _ d.W.length c; rw [unhide HN]) _ _ hg.2
          have hck := ownsRow_cell hch rfl k _ (bl_all keep n k hlt)
          have HNO : Hid (keep.contains (k : Int) = false → d.setL (lay d.L (chosen keep (d.W.take (k + 1)))) = d.setL (lay d.L (chosen keep (d.W.take k)))) := fun e => by
            rw [chosen_take _ _ _ hkW, e]; rfl
          have HNEW : Hid (keep.contains (k : Int) = true → d.setL (lay d.L (chosen keep (d.W.take (k + 1)))) = { d.setL (lay d.L (chosen keep (d.W.take k))) with L := (d.setL (lay d.L (chosen keep (d.W.take k)))).L.set (d.W[k]'hkW).1 (d.W[k]'hkW).2 }) := fun e => by
            rw [chosen_take _ _ _ hkW, e, if_pos rfl, lay_snoc]; rfl
          clear hg
          generalize d.W[k]'hkW = x at *
          obtain ⟨x, s⟩ := x
          dsimp only at hx0 hx1 hat HNEW
          generalize hd1 : d.setL (lay d.L (chosen keep (d.W.take k))) = d1 at *
          clear hd1
          have hc0 := hr.c0
          have hsec : wr.cell? ⟨g, x, none⟩ = some (.string (S (d1.L[x]'hat))) := ownsRow_cell hr.sec rfl x _ (by simp [secs, List.getElem?_eq_getElem hat])
          have hfz : wr.frozen? ⟨g, x, none⟩ = false := by
            obtain ⟨cur, hh, _⟩ := ownsRow_blk hr.sec (k := g) rfl
            exact block_frozen hh x
          have hgN2 : g ≠ N := fun e => by
            obtain ⟨cur, hh, _⟩ := ownsRow_blk hr.sec (k := g) rfl
            exact ownsRow_unlike hch hh (by decide) (by rw [e]; rfl)
          have hblt2 := hr.lt
          have hglt := cell_lt hsec
          have hNlt := cell_lt hck
          have hbl : ∀ o, Below wr.heap.size wr (wr.alloc o) := fun o => (Below.refl _ wr).alloc (Nat.le_refl _) o
          have hc0A : ∀ o, (wr.alloc o).cell? ⟨b, 0, none⟩ = some (.slice (some ⟨g, 0, none⟩) d1.L.length c2) := fun o => ((hbl o).cell (p := ⟨b, 0, none⟩) hblt2).trans hc0
          have hscA : ∀ o, (wr.alloc o).cell? ⟨g, x, none⟩ = some (.string (S (d1.L[x]'hat))) := fun o => ((hbl o).cell (p := ⟨g, x, none⟩) hglt).trans hsec
          have hfzA : ∀ o, (wr.alloc o).frozen? ⟨g, x, none⟩ = false := fun o => ((hbl o).frozen (p := ⟨g, x, none⟩) hglt).trans hfz
          have hckA : ∀ o, (wr.alloc o).cell? ⟨N, k, none⟩ = some (.bool (keep.contains (k : Int))) := fun o => ((hbl o).cell (p := ⟨N, k, none⟩) hNlt).trans hck
          have hgb : g ≠ b := fun e => hr.nsec (by rw [e]; rfl)
          have hbg := Ne.symm hgb
          have hgN : g ≠ wr.heap.size := by omega
          have hNg := Ne.symm hgN
          have hi1 : (0 : Int) ≤ (x : Int) := by omega
          have hi2 : (x : Int) < (d1.L.length : Int) := by omega
          have hk1 : (0 : Int) ≤ (k : Int) := by omega
          have hk2 : (k : Int) < (n : Int) := by omega
          generalize d1.L[x]'hat = old at *
          clear hat hLl
          have HBW := hide hbw
          obtain ⟨hN0, hN1⟩ := box_two wr ⟨g, x, none⟩ (.string (S s)) (.int .i64 (x : Int)) (.string (S s)) 65
          clear has hr hbl hbw hch
          generalize hkc : keep.contains (k : Int) = ch at *
          clear hkc
          cases ch with
          | false =>
            go_wp2_with fail
            go_roundw
            case rel =>
              refine ⟨k + 1, by omega, by go_num, ?_, ?_, ?_⟩
              · rw [unhide HNO (by simp)]
                exact ((unhide HR).later ((Below.refl _ _).alloc (Nat.le_refl _) _)).1
              · exact ownsRow_later (unhide HCH) ((Below.refl _ _).alloc (Nat.le_refl _) _)
              · exact (unhide HBW).trans ((unhide HR).later ((Below.refl _ _).alloc (Nat.le_refl _) _)).2
            case measure => simp [intOf]; omega
          | true =>
            go_wp2_with fail
            go_region_held3 (fun w' => w'.cell? ⟨b, 0, none⟩ = some (.slice (some ⟨g, 0, none⟩) d1.L.length c2) ∧ w'.cell? ⟨wr.heap.size, 0, none⟩ = some (.int .i64 (x : Int)) ∧ w'.cell? ⟨wr.heap.size, 1, none⟩ = some (.string (S s))) (go_keep) (fail)
            all_goals
              clear hc0A hscA hfzA hckA hc0 hsec hfz hx0 hx1 hN0 hN1 hck
              go_wp2
              go_roundw
              case rel =>
                refine ⟨k + 1, by omega, by go_num, ?_, ?_, ?_⟩
                · rw [unhide HNEW (by simp)]
                  exact (((unhide HR).setSector rfl x s).1.later (((Below.refl _ _).alloc (Nat.le_refl _) _).drew)).1
                · exact ownsRow_later (ownsRow_same (unhide HCH) (w' := wr.setCell ⟨g, x, none⟩ (.string (S s))) (fun j hj => by cases hj; exact heap_setCell_other wr ⟨g, x, none⟩ N _ (Ne.symm hgN2))) (((Below.refl _ _).alloc (Nat.le_refl _) _).drew)
                · exact ((unhide HBW).trans ((unhide HR).setSector rfl x s).2).trans (((unhide HR).setSector rfl x s).1.later (((Below.refl _ _).alloc (Nat.le_refl _) _).drew)).2
              case measure => simp [intOf]; omega
        · have : k = n := by omega
          subst this
          have e : d.W.take k = d.W := List.take_of_length_le (by have := unhide HN; omega)
          rw [e] at HR
          have hr1 := (unhide HR).setNil.1.setDown false
          have HST := hide (((unhide HD).2.trans hbw).trans ((unhide HR).setNil.2.trans ((unhide HR).setNil.1.stepSet 2 (.bool false) (by omega))))
          have HARM := hide (arm_any (n := -1) ⟨_, _, hr1⟩)
          have hq1 := hr.c1
          have hq2 := hr.c2
          have hf1 := hr.fz 1
          have hf2 := hr.fz 2
          clear hr hbw e hch hr1
          go_wp2_with fail
          refine (unhide HARM).mono ?_
          rintro e w9 ⟨rfl, h9, h10⟩
          have H9 := hide (And.intro h9 h10)
          clear h9 h10 HARM
          go_wp2
          go_end0
          exact ⟨rfl, (unhide H9).1, (unhide HST).trans (unhide H9).2⟩
end Go.Proofs.YtbmhmljbpjimoaaDoor
/- The contracts of slices.Repeat at a row of one text, and of a device's New. -/
namespace Go.Proofs.YtbmhmljbpjimoaaDoor
open Go.RowKit
set_option linter.unusedVariables false
set_option maxRecDepth 100000

theorem info_string : (Tryd.prog.info? 9).map (fun i => (i.zero, i.size, i.bytes)) = some (some (.string ⟨#[]⟩), 1, 16) := by kernel_rfl
theorem info_string1 : (Tryd.prog.info? 9).map (·.size) = some 1 := by kernel_rfl
theorem under_strings : Tryd.prog.underlying 22 = some (.slice 9) := by kernel_rfl

def fill (v z : Value) (n k : Nat) : List Value := List.replicate k v ++ List.replicate (n - k) z
theorem fill_length (v z : Value) (n k : Nat) (h : k ≤ n) : (fill v z n k).length = n := by simp [fill]; omega
theorem fill_get (v z : Value) (n k j : Nat) (h : j < k) : (fill v z n k)[j]? = some v := by
  unfold fill
  rw [List.getElem?_append_left (by simpa using h)]
  simp [h]
theorem fill_first (v z : Value) (n : Nat) (h : 1 ≤ n) : splice (List.replicate n z) 0 [v] = fill v z n 1 := by
  simp [splice, fill]
theorem fill_next (v z : Value) (n k m : Nat) (h : k + m ≤ n) : splice (fill v z n k) k (List.replicate m v) = fill v z n (k + m) := by
  unfold splice fill
  rw [List.take_append_of_le_length (by simp), List.take_of_length_le (by simp), List.length_replicate, List.drop_append, List.drop_of_length_le (by simp), List.length_replicate, List.drop_replicate, List.nil_append, ← List.append_assoc, List.replicate_append_replicate]
  congr 2
  omega

theorem one_cell {w : World} {bk off : Nat} {x : Value} (h : w.cell? ⟨bk, off, none⟩ = some x) (j : Nat) (u : Value) (hu : [x][j]? = some u) : w.cell? ((⟨bk, off, none⟩ : Addr).add j) = some u := by
  rw [plain_add]
  match j, hu with
  | 0, hu => simp at hu; subst hu; exact h
  | j + 1, hu => simp at hu
theorem min_one (n : Nat) (x : Value) (h : 1 ≤ n) : [x].length = Nat.min 1 n := by
  show 1 = min 1 n
  omega
theorem one_cell' (v : ByteArray) : ∀ u ∈ [Value.string v], u.oneCell' = true := by
  intro u hu
  simp at hu
  subst hu
  rfl

set_option maxHeartbeats 1600000 in
theorem repeat_one (bk off c n : Nat) (v : ByteArray) (w : World) (h1 : 1 ≤ n) (hn : n ≤ 1099511627776) (hv : w.cell? ⟨bk, off, none⟩ = some (.string v)) :
    Calls Tryd.prog 33 #[.slice (some ⟨bk, off, none⟩) 1 c, .int .i64 (n : Int)] w fun e w' => e = .returned (.slice (some ⟨w.heap.size, 0, none⟩) n n) ∧ w'.ownsRow w.heap.size 9 1 (.slice (some ⟨w.heap.size, 0, none⟩) n n) n (List.replicate n (.string v)) ∧ Below w.heap.size w w' := by
  obtain ⟨i0, hi, hz0, hz1, hz2⟩ := info_parts info_string
  have HMUL := hide (Tryd.bits_Mul 1 n (by omega) (by omega) w)
  have em : (1 * n / 18446744073709551616 : Nat) = 0 := by omega
  have em2 : (1 * n % 18446744073709551616 : Nat) = n := by omega
  rw [em, em2] at HMUL
  obtain ⟨w1, hmk, hown1, hgr1⟩ := run_make_full (P := Tryd.prog) w w.heap.size 22 9 i0 (.string ⟨#[]⟩) 1 under_strings hi hz0 hz1 .i64 .i64 n (by rw [hz2]; omega) (by unfold maxLen; omega) (Nat.le_refl _)
  have hb1 : Below w.heap.size w w1 := (Below.refl _ _).grown hgr1 (Nat.le_refl _) (fun k e => by cases e)
  have hblt := cell_lt hv
  have hv1 : w1.cell? ⟨bk, off, none⟩ = some (.string v) := (hb1.cell (p := ⟨bk, off, none⟩) hblt).trans hv
  have hblk : w1.heap[w.heap.size]? = some (.cells (List.replicate n (Value.string ⟨#[]⟩)).toArray 9 (0, 0)) := by
    obtain ⟨cur, hh, _⟩ := ownsRow_blk hown1 (k := w.heap.size) rfl
    have e : (madeCells (Value.string ⟨#[]⟩).cells (n * 1)).toList = List.replicate n (.string ⟨#[]⟩) := by
      rw [Nat.mul_one]; exact toList_madeCells_one _ n
    rw [e] at hown1
    rcases hown1.2 with ⟨e1, e2⟩ | ⟨g, cap, cur, e1, hb, hh, hc, hm, hcs, ht⟩
    · cases e1
    · cases e1
      rw [hh, ← ht, List.take_of_length_le (by simp [hcs])]
  have hw0 : IntKind.u64.wrap (n : Int) = (n : Int) := by rw [IntKind.wrap_u64]; omega
  have hw1 : IntKind.i64.wrap (n : Int) = (n : Int) := by rw [IntKind.wrap_i64]; omega
  obtain ⟨N, hN⟩ : ∃ N, w.heap.size = N := ⟨_, rfl⟩
  rw [hN] at hmk hblk hb1 hblt ⊢
  have HNN := hide hN
  have HBLK := hide hblk
  have HB1 := hide hb1
  have HV1 := hide hv1
  obtain ⟨w3, hcp, hblk3, hb3⟩ : ∃ w3, (Builtin.copy_ #[22, 22] 3 #[.slice (some ⟨N, 0, none⟩) n n, .slice (some ⟨bk, off, none⟩) 1 c]).run Tryd.prog w1 = .ok (.int .i64 1) w3 ∧ w3.heap[N]? = some (.cells (fill (.string v) (.string ⟨#[]⟩) n 1).toArray 9 (0, 0)) ∧ Below N w w3 := by
    have hr := run_copy_row (P := Tryd.prog) w1 22 22 3 9 N 0 n n ⟨bk, off, none⟩ 1 c (List.replicate n (Value.string ⟨#[]⟩)).toArray 9 [.string v] under_strings info_string1 hblk (min_one n _ h1) (one_cell hv1) (by simp; omega) (one_cell' v)
    refine ⟨_, hr, ?_, below_setRow hb1 (Nat.le_refl _) _⟩
    rw [setRow_heap w1 N _ _ 9 _ hblk]
    have e := fill_first (.string v) (.string ⟨#[]⟩) n h1
    unfold splice at e
    simpa using congrArg (fun l => some (Obj.cells l.toArray 9 (0, 0))) e
  have HBLK3 := hide hblk3
  have HB3 := hide hb3
  clear hblk3 hb3
  clear hown1 hgr1 hblk hb1 hv1 hv hN
  go_enter Tryd.func33, Tryd.ntmps33
  go_wp2_with fail
  refine (unhide HMUL).mono ?_
  rintro e w2 ⟨rfl, rfl⟩
  clear HMUL
  go_wp2_with fail
  clear hcp hmk HBLK HB1 HV1
  go_loopw [8] (fun i wr => ∃ k : Nat, 1 ≤ k ∧ k ≤ n ∧ i = .int .i64 k ∧ wr.heap[N]? = some (.cells (fill (.string v) (.string ⟨#[]⟩) n k).toArray 9 (0, 0)) ∧ Below N w2 wr) (fun i _ => n - (intOf i).toNat)
  case atStart =>
    exact ⟨1, Nat.le_refl _, h1, rfl, unhide HBLK3, unhide HB3⟩
  case round =>
    obtain ⟨k, hk1, hk, rfl, hbk, hbw⟩ := hrel
    clear HBLK3 HB3
    have HBK := hide hbk
    have HBW := hide hbw
    clear hbk hbw
    by_cases hlt : k < n
    · obtain ⟨m, hm⟩ : ∃ m, Nat.min k (n - k) = m := ⟨_, rfl⟩
      have hm1 : 1 ≤ m ∧ m ≤ k ∧ k + m ≤ n := by
        have : Nat.min k (n - k) = min k (n - k) := rfl
        omega
      have hw : IntKind.i64.wrap ((k : Int) + (m : Int)) = (k : Int) + (m : Int) := by rw [IntKind.wrap_i64]; omega
      have HM := hide hm
      have hi1 : (0 : Int) ≤ (k : Int) := by omega
      have hi2 : (k : Int) ≤ (n : Int) := by omega
      have hi3 : (k : Int) < (n : Int) := by omega
      have hrl : (List.replicate m (Value.string v)).length = m := List.length_replicate
      obtain ⟨cs, hcs⟩ : ∃ cs, List.replicate m (Value.string v) = cs := ⟨_, rfl⟩
      have HCS := hide hcs
      rw [hcs] at hrl
      clear hm hcs
      have hsrc : ∀ j u, cs[j]? = some u → wr.drew.cell? ((⟨N, 0, none⟩ : Addr).add j) = some u := fun j u hu => by
        rw [plain_add, Nat.zero_add]
        show wr.cell? ⟨N, j, none⟩ = some u
        rw [block_cell (unhide HBK)]
        rw [← unhide HCS] at hu
        rw [List.getElem?_replicate] at hu
        split at hu
        · cases hu
          rw [List.getElem?_toArray]
          exact fill_get _ _ _ _ _ (by omega)
        · cases hu
      have HSRC := hide hsrc
      clear hsrc
      go_wp2_with fail
      go_region_law (refine step_copy_splice rfl (.tmp 41) (.tmp 44) 22 22 rfl 9 under_strings info_string1 (some ⟨N, k, none⟩) (some ⟨N, 0, none⟩) (n - k) (n - k) k n (by simp [Act.eval, Act.put]; omega) (by simp [Act.eval, Act.put]) N k (fill (.string v) (.string ⟨#[]⟩) n k) 9 (unhide HBK) cs (by rw [hrl]; exact (unhide HM).symm) (fun _ => ⟨rfl, ⟨N, 0, none⟩, rfl, unhide HSRC⟩) (by rw [hrl, fill_length _ _ _ _ hk]; exact hm1.2.2) (by intro u hu; rw [← unhide HCS] at hu; obtain ⟨_, rfl⟩ := List.mem_replicate.1 hu; rfl) N w2 ((unhide HBW).drew) (Nat.le_refl _) ?_; intro w4 HG4 hb4; have HB4 := hide hb4; clear hb4)
      all_goals
        go_wp2
        go_roundw
        case rel =>
          refine ⟨k + m, by omega, by omega, by first | go_num | omega, ?_, unhide HB4⟩
          have := unhide HG4
          rw [← unhide HCS, fill_next _ _ _ _ _ hm1.2.2] at this
          exact this
        case measure => simp [intOf]; omega
    · have : k = n := by omega
      subst this
      go_wp2_with fail
      go_ret
      refine ⟨rfl, ⟨by simp, Or.inr ⟨N, k, _, rfl, Nat.le_refl _, unhide HBK, Nat.le_refl _, by unfold maxLen; omega, by simp [fill], ?_⟩⟩, unhide HBW⟩
      simp [fill]

theorem secs_replicate (n : Nat) (s : List UInt8) : secs (List.replicate n s) = List.replicate n (.string (S s)) := by simp [secs]

set_option maxHeartbeats 1600000 in
theorem new_ok (n : Nat) (w : World) (h1 : 1 ≤ n) (hn : n ≤ 65536) :
    Calls Tryd.prog 18 #[.int .i64 (n : Int)] w fun e w' => ∃ b, e = .returned (.tuple #[.pointer (some ⟨b, 0, none⟩), .int .i64 0]) ∧ DevAt w.heap.size w' b (Dev.new n) ∧ Below w.heap.size w w' := by
  have HW := hide (whole_any [] w)
  have HREP := hide (fun bk off c v w hv => repeat_one bk off c n v w h1 (by omega) hv)
  have HD : Hid (Dev.new n = ⟨List.replicate n (whole []), [], false, false, 0, 0⟩) := rfl
  obtain ⟨z, hz⟩ : ∃ z, whole [] = z := ⟨_, rfl⟩
  rw [hz] at HW HD
  obtain ⟨D, hD⟩ : ∃ D, Dev.new n = D := ⟨_, rfl⟩
  rw [hD] at HD ⊢
  clear hz hD
  have hi1 : (1 : Int) ≤ (n : Int) := by omega
  have hi2 : (n : Int) ≤ 65536 := by omega
  go_enter Tryd.func18, Tryd.ntmps18
  go_wp2_with fail
  refine (unhide HW).mono ?_
  rintro e w1 ⟨rfl, hb1⟩
  have HB1 := hide hb1
  clear hb1 HW
  go_wp2_with fail
  refine (unhide HREP _ 0 1 (S z) _ (by simp)).mono ?_
  rintro e w2 ⟨rfl, ho2, hb2⟩
  have HO2 := hide ho2
  have HB2 := hide hb2
  clear ho2 hb2 HREP
  go_wp2_with fail
  go_ret2
  have hb3 : Below w1.heap.size w1 w2 := ((Below.refl _ _).alloc (Nat.le_refl _) _).trans ((unhide HB2).mono (by simp))
  have hs1 := (unhide HB1).size
  have hs2 := (unhide HB2).size
  rw [World.size_alloc] at hs2
  have hb4 : Below w.heap.size w w2 := (unhide HB1).trans (hb3.mono hs1)
  refine ⟨w2.heap.size, rfl, ⟨.slice (some ⟨w1.heap.size + 1, 0, none⟩) n n, .slice none 0 0, ?_⟩, hb4.alloc (by omega) _⟩
  rw [unhide HD]
  have hrow := unhide HO2
  rw [World.size_alloc] at hrow
  refine ⟨by omega, heap_alloc_new w2 _, ?_, World.ownsRow_nil _ _ _ _⟩
  rw [secs_replicate, List.length_replicate]
  refine ownsRow_less (ownsRow_same hrow fun k hk => ?_) (by omega)
  cases hk
  exact Below.heap_alloc w2 _ _ (by
    obtain ⟨cur, hh, _⟩ := ownsRow_blk hrow (k := w1.heap.size + 1) rfl
    exact block_lt hh)

theorem new_no (n : Int) (w : World) (hn : n < 1 ∨ 65536 < n) :
    Calls Tryd.prog 18 #[.int .i64 n] w fun e w' => e = .returned (.tuple #[.pointer none, .int .i64 4]) ∧ w' = w := by
  by_cases h1 : n < 1
  · go_enter Tryd.func18, Tryd.ntmps18
    go_wp2_with fail
    go_ret2
    exact ⟨rfl, rfl⟩
  have h2 : 65536 < n := by omega
  go_enter Tryd.func18, Tryd.ntmps18
  go_wp2_with fail
  all_goals first | omega | (go_ret2; exact ⟨rfl, rfl⟩)
end Go.Proofs.YtbmhmljbpjimoaaDoor
