/- A device in memory: its block, its sectors' row, its row of loose writes; what a call of it leaves as it was; what its calls do, as plain functions. -/
import Derived.Test.YteaiidcconggcaaDoorBundleC1
import Derived.Laws.Rows
namespace Go.Proofs.YteaiidcconggcaaDoor
open Go.RowKit
set_option linter.unusedVariables false
set_option maxRecDepth 100000

structure Dev where
  L : List (List UInt8)
  W : List (Nat × List UInt8)
  down : Bool
  armed : Bool
  left : Nat
  calls : Nat

def secs (l : List (List UInt8)) : List Value := l.map fun s => Value.string (S s)
def wrs : List (Nat × List UInt8) → List Value
  | [] => []
  | x :: r => .int .i64 (x.1 : Int) :: .string (S x.2) :: wrs r
theorem secs_length (l : List (List UInt8)) : (secs l).length = l.length := by simp [secs]
theorem wrs_append (a b : List (Nat × List UInt8)) : wrs (a ++ b) = wrs a ++ wrs b := by
  induction a with
  | nil => rfl
  | cons x r ih => simp [wrs, ih]
theorem wrs_length (a : List (Nat × List UInt8)) : (wrs a).length = a.length * 2 := by
  induction a with
  | nil => rfl
  | cons x r ih => simp [wrs, ih]; omega
theorem wrs_get : ∀ (a : List (Nat × List UInt8)) (k : Nat) (h : k < a.length), (wrs a)[k * 2]? = some (.int .i64 ((a[k]'h).1 : Int)) ∧ (wrs a)[k * 2 + 1]? = some (.string (S (a[k]'h).2))
  | x :: r, 0, h => by simp [wrs]
  | x :: r, k + 1, h => by
    have := wrs_get r k (by simpa using h)
    have e : (k + 1) * 2 = k * 2 + 1 + 1 := by omega
    rw [e]
    simpa [wrs] using this

/- Block k is none of the device's. -/
structure DFor (w : World) (b k : Nat) : Prop where
  ne : k ≠ b
  sec : ∀ v, w.cell? ⟨b, 0, none⟩ = some v → v.ownBlock ≠ some k
  loo : ∀ v, w.cell? ⟨b, 1, none⟩ = some v → v.ownBlock ≠ some k

structure DStep (b : Nat) (w w' : World) : Prop where
  os : w'.os = w.os
  tape : w'.tape = w.tape
  output : w'.output = w.output
  size : w.heap.size ≤ w'.heap.size
  keep : ∀ k, k < w.heap.size → DFor w b k → w'.heap[k]? = w.heap[k]? ∧ DFor w' b k

theorem DStep.refl (b : Nat) (w : World) : DStep b w w := ⟨rfl, rfl, rfl, Nat.le_refl _, fun _ _ h => ⟨rfl, h⟩⟩
theorem DStep.trans {b : Nat} {u v w : World} (h : DStep b u v) (k : DStep b v w) : DStep b u w :=
  ⟨k.os.trans h.os, k.tape.trans h.tape, k.output.trans h.output, Nat.le_trans h.size k.size, fun i hi hf => by
    obtain ⟨e1, f1⟩ := h.keep i hi hf
    obtain ⟨e2, f2⟩ := k.keep i (by have := h.size; omega) f1
    exact ⟨e2.trans e1, f2⟩⟩

theorem block_cell {w : World} {b : Nat} {cs : Array Value} {t : TypeId} {fz : Nat × Nat} (h : w.heap[b]? = some (.cells cs t fz)) (k : Nat) : w.cell? ⟨b, k, none⟩ = cs[k]? := by
  simp [World.cell?, h]
theorem block_frozen {w : World} {b : Nat} {cs : Array Value} {t : TypeId} (h : w.heap[b]? = some (.cells cs t (0, 0))) (k : Nat) : w.frozen? ⟨b, k, none⟩ = false := by
  simp [World.frozen?, h]
theorem block_lt {w : World} {b : Nat} {o : Obj} (h : w.heap[b]? = some o) : b < w.heap.size := (Array.getElem?_eq_some_iff.1 h).1

theorem ownsRow_blk {w : World} {base : Nat} {e : TypeId} {size : Nat} {v : Value} {n : Nat} {xs : List Value} (h : w.ownsRow base e size v n xs) {k : Nat} (hk : v.ownBlock = some k) : ∃ cur, w.heap[k]? = some (.cells cur e (0, 0)) ∧ base ≤ k := by
  rcases h.2 with ⟨rfl, _⟩ | ⟨g, cap, cur, rfl, hb, hh, _⟩
  · cases hk
  · cases hk
    exact ⟨cur, hh, hb⟩
theorem ownsRow_unlike {w : World} {base : Nat} {e t : TypeId} {size : Nat} {v : Value} {n : Nat} {xs : List Value} (h : w.ownsRow base e size v n xs) {k : Nat} {cs : Array Value} {fz : Nat × Nat} (hk : w.heap[k]? = some (.cells cs t fz)) (hne : e ≠ t) : v.ownBlock ≠ some k := by
  intro hv
  obtain ⟨cur, hh, _⟩ := ownsRow_blk h hv
  rw [hk] at hh
  injection hh with hh
  injection hh with _ h2 _
  exact hne h2.symm
theorem ownsRow_same {w w' : World} {base : Nat} {e : TypeId} {size : Nat} {v : Value} {n : Nat} {xs : List Value} (h : w.ownsRow base e size v n xs) (hk : ∀ k, v.ownBlock = some k → w'.heap[k]? = w.heap[k]?) : w'.ownsRow base e size v n xs := by
  refine ⟨h.1, ?_⟩
  rcases h.2 with h2 | ⟨g, cap, cur, rfl, hb, hh, r⟩
  · exact Or.inl h2
  · exact Or.inr ⟨g, cap, cur, rfl, hb, by rw [hk g rfl]; exact hh, r⟩
theorem ownsRow_cell {w : World} {base : Nat} {e : TypeId} {size : Nat} {v : Value} {n : Nat} {xs : List Value} (h : w.ownsRow base e size v n xs) {g : Nat} {c : Nat} (hv : v = .slice (some ⟨g, 0, none⟩) n c) (k : Nat) (x : Value) (hx : xs[k]? = some x) : w.cell? ⟨g, k, none⟩ = some x := by
  rcases h.2 with ⟨e1, e2⟩ | ⟨g', cap, cur, rfl, hb, hh, hc, hm, hcs, ht⟩
  · rw [e1] at hv; cases hv
  · cases hv
    rw [block_cell hh]
    have hlt : k < xs.length := (List.getElem?_eq_some_iff.1 hx).1
    rw [← ht, List.getElem?_take] at hx
    split at hx
    · simpa using hx
    · cases hx
/- A store into a row of the call's own. -/
theorem ownsRow_store {w : World} {base : Nat} {e : TypeId} {v : Value} {n : Nat} {xs : List Value} (h : w.ownsRow base e 1 v n xs) {g c : Nat} (hv : v = .slice (some ⟨g, 0, none⟩) n c) (k : Nat) (x : Value) : (w.setCell ⟨g, k, none⟩ x).ownsRow base e 1 v n (xs.set k x) := by
  rcases h.2 with ⟨e1, e2⟩ | ⟨g', cap, cur, rfl, hb, hh, hc, hm, hcs, ht⟩
  · rw [e1] at hv; cases hv
  · cases hv
    refine ⟨by simpa using h.1, Or.inr ⟨g, c, cur.setIfInBounds k x, rfl, hb, heap_setCell_same w g k cur e x hh, hc, hm, by simpa using hcs, ?_⟩⟩
    rw [← ht, Array.toList_setIfInBounds, List.take_set]

section
variable {base : Nat} {w w' : World} {b : Nat} {sv lv : Value} {d : Dev}
theorem DFor.same {k : Nat} (h : DFor w b k) (hb : w'.heap[b]? = w.heap[b]?) : DFor w' b k :=
  ⟨h.ne, fun v hv => h.sec v (by rw [World.cell?_of_block (w := w) (a := ⟨b, 0, none⟩) hb] at hv; exact hv), fun v hv => h.loo v (by rw [World.cell?_of_block (w := w) (a := ⟨b, 1, none⟩) hb] at hv; exact hv)⟩
/- A store into the device's own block. -/
/- The row of loose writes is gone. -/
/- A sector is stored. -/
end

/- What the calls do. -/
def whole (s : List UInt8) : List UInt8 := (s ++ List.replicate 64 0).take 64
theorem whole_length (s : List UInt8) : (whole s).length = 64 := by simp [whole]
def Dev.new (n : Nat) : Dev := ⟨List.replicate n (whole []), [], false, false, 0, 0⟩
def Dev.out (d : Dev) : Prop := d.down = true ∨ (d.armed = true ∧ d.left = 0)
instance (d : Dev) : Decidable d.out := by unfold Dev.out; infer_instance
def Dev.begin (d : Dev) : Dev := if d.out then { d with down := true } else { d with left := if d.armed then d.left - 1 else d.left, calls := d.calls + 1 }
def Dev.no (d : Dev) (i : Int) : Prop := i < 0 ∨ (d.L.length : Int) ≤ i
instance (d : Dev) (i : Int) : Decidable (d.no i) := by unfold Dev.no; infer_instance
def Dev.write (d : Dev) (i : Int) (s : List UInt8) : Dev := if d.no i ∨ 64 < s.length then d else if d.out then d.begin else { d.begin with W := d.W ++ [(i.toNat, whole s)] }
def Dev.writeE (d : Dev) (i : Int) (s : List UInt8) : Int := if d.no i ∨ 64 < s.length then 4 else if d.out then 16 else 0
def lay (l : List (List UInt8)) (ws : List (Nat × List UInt8)) : List (List UInt8) := ws.foldl (fun l x => l.set x.1 x.2) l
def Dev.flush (d : Dev) : Dev := if d.out then d.begin else { d.begin with L := lay d.L d.W, W := [] }
def Dev.flushE (d : Dev) : Int := if d.out then 16 else 0
def chosen (keep : List Int) (ws : List (Nat × List UInt8)) : List (Nat × List UInt8) := (ws.zipIdx.filter (fun x => keep.contains (x.2 : Int))).map (·.1)
def Dev.arm (d : Dev) (n : Int) : Dev := { d with armed := decide (0 ≤ n), left := n.toNat }
def Dev.crash (d : Dev) (keep : List Int) : Dev := ⟨lay d.L (chosen keep d.W), [], false, false, 0, d.calls⟩
def Dev.spoil (d : Dev) (i : Int) (s : List UInt8) : Dev := if d.no i then d else { d with L := d.L.set i.toNat (whole s) }
def Dev.cur (d : Dev) (k : Nat) : List UInt8 := ((d.W.reverse.find? (fun x => x.1 == k)).map (·.2)).getD (d.L.getD k [])
def Dev.read (d : Dev) (i : Int) : List UInt8 := if d.no i then [] else if d.down then [] else d.cur i.toNat
def Dev.readE (d : Dev) (i : Int) : Int := if d.no i then 4 else if d.down then 16 else 0
/- All loose writes have their sector; a device has one at least. -/
structure Dev.Ok (d : Dev) : Prop where
  has : ∀ x ∈ d.W, x.1 < d.L.length
  some : 0 < d.L.length
theorem lay_length (ws : List (Nat × List UInt8)) : ∀ l, (lay l ws).length = l.length := by
  induction ws with
  | nil => intro l; rfl
  | cons x r ih => intro l; simp only [lay, List.foldl_cons] at *; rw [ih]; simp
end Go.Proofs.YteaiidcconggcaaDoor
