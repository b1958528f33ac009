/- An Out's calls seen from their arguments, wherever these lie; what stays behind any of them. -/
import Derived.Test.YthchnfgokkcepaaDoorVBase
import Derived.Test.YthchnfgokkcepaaDoorCCodecPuts
namespace Go.Proofs.YthchnfgokkcepaaDoor
open Go.RowKit
set_option linter.unusedVariables false
set_option maxRecDepth 100000

/- Blocks of other types are foreign to an Out. -/
theorem Foreign.of_type {w : World} {b q : Nat} {l : List UInt8} {cs : Array Value} {t : TypeId} (h : OutAt w b l) (hq : w.heap[q]? = some (.cells cs t (0, 0))) (ht : t ≠ 5) (hcs : ∀ a n c, cs[0]? ≠ some (.slice a n c)) : Foreign w b q := by
  obtain ⟨ao, c, hc, ho⟩ := h.cell
  refine ⟨fun e => ?_, fun v hv e => ?_⟩
  · subst e
    rw [block_cell hq] at hc
    exact hcs _ _ _ hc
  rw [hc] at hv
  cases hv
  rcases ho.2 with ⟨e1, _⟩ | ⟨g, cap, cur, e1, _, hh, _⟩
  · rw [e1] at e; cases e
  · rw [e1] at e
    simp [Value.ownBlock] at e
    subst e
    rw [hh] at hq
    injection hq with hq
    injection hq with _ hq
    exact ht hq.symm
/- Such blocks stay. -/
def Keeps (b : Nat) (w w' : World) : Prop := ∀ (q : Nat) (cs : Array Value) (t : TypeId), t ≠ 5 → (∀ a n c, cs[0]? ≠ some (.slice a n c)) → w.heap[q]? = some (.cells cs t (0, 0)) → w'.heap[q]? = some (.cells cs t (0, 0))
theorem Keeps.of_step {w w' : World} {b : Nat} {l : List UInt8} (h : OutAt w b l) (hs : Step b w w') : Keeps b w w' := fun q cs t ht hcs hq => by
  rw [(hs.keep q (block_lt hq) (Foreign.of_type h hq ht hcs)).1]; exact hq
/- An Out's call, seen from its argument. -/
theorem vN_any {w : World} {b q : Nat} {l : List UInt8} {x : Int} (h : OutAt w b l) (hl : l.length ≤ 1024) (hx : -9223372036854775808 ≤ x ∧ x ≤ 9223372036854775807) (hq : w.heap[q]? = some (.cells #[.int .i64 x] 3 (0, 0))) :
    Calls Tryd.prog 41 #[.pointer (some ⟨b, 0, none⟩), .slice (some ⟨q, 0, none⟩) 1 1] w fun e w' =>
      e = .returned (.pointer (some ⟨b, 0, none⟩)) ∧ OutAt w' b (l ++ Codec.enc (max x 0).toNat) ∧ Step b w w' ∧ Keeps b w w' := by
  have hN := outN_any b l [x] (some ⟨q, 0, none⟩) 1 1 w h rfl (by simp) (by omega) (by intro i hi; simp at hi; subst hi; exact hx)
    (by
      intro i hi
      simp at hi
      subst hi
      refine ⟨q, 0, rfl, block_lt hq, Foreign.of_type h hq (by decide) (by simp), ?_⟩
      rw [block_cell hq]; rfl)
  refine hN.mono ?_
  rintro e w' ⟨rfl, h1, h2⟩
  have e : encN [x] = Codec.enc (max x 0).toNat := by simp [encN]
  rw [e] at h1
  exact ⟨rfl, h1, h2, Keeps.of_step h h2⟩
theorem vI_any {w : World} {b q : Nat} {l : List UInt8} {x : Int} (h : OutAt w b l) (hl : l.length ≤ 1024) (hx : -9223372036854775808 ≤ x ∧ x ≤ 9223372036854775807) (hq : w.heap[q]? = some (.cells #[.int .i64 x] 2 (0, 0))) :
    Calls Tryd.prog 42 #[.pointer (some ⟨b, 0, none⟩), .slice (some ⟨q, 0, none⟩) 1 1] w fun e w' =>
      e = .returned (.pointer (some ⟨b, 0, none⟩)) ∧ OutAt w' b (l ++ Codec.enc (Codec.fold x)) ∧ Step b w w' ∧ Keeps b w w' := by
  have hN := outI_any b l [x] (some ⟨q, 0, none⟩) 1 1 w h rfl (by simp) (by omega) (by intro i hi; simp at hi; subst hi; exact hx)
    (by
      intro i hi
      simp at hi
      subst hi
      refine ⟨q, 0, rfl, block_lt hq, Foreign.of_type h hq (by decide) (by simp), ?_⟩
      rw [block_cell hq]; rfl)
  refine hN.mono ?_
  rintro e w' ⟨rfl, h1, h2⟩
  have e : encI [x] = Codec.enc (Codec.fold x) := by simp [encI]
  rw [e] at h1
  exact ⟨rfl, h1, h2, Keeps.of_step h h2⟩

theorem vS2_any {w : World} {b q : Nat} {l x y : List UInt8} (h : OutAt w b l) (hl : l.length ≤ 1024) (hx : x.length ≤ 40) (hy : y.length ≤ 40) (hq : w.heap[q]? = some (.cells #[.string (S x), .string (S y)] 9 (0, 0))) :
    Calls Tryd.prog 43 #[.pointer (some ⟨b, 0, none⟩), .slice (some ⟨q, 0, none⟩) 2 2] w fun e w' =>
      e = .returned (.pointer (some ⟨b, 0, none⟩)) ∧ OutAt w' b (l ++ (Codec.encS x ++ Codec.encS y)) ∧ Step b w w' ∧ Keeps b w w' := by
  have hN := outS_any b l [x, y] (some ⟨q, 0, none⟩) 2 2 w h rfl (by simp) (by omega)
    (by intro i hi; simp at hi; obtain rfl | rfl : i = 0 ∨ i = 1 := by omega
        all_goals simp; omega)
    (by
      intro i hi
      simp at hi
      refine ⟨q, 0, rfl, block_lt hq, Foreign.of_type h hq (by decide) (by simp), ?_⟩
      rw [block_cell hq]
      obtain rfl | rfl : i = 0 ∨ i = 1 := by omega
      all_goals rfl)
  refine hN.mono ?_
  rintro e w' ⟨rfl, h1, h2⟩
  have e : encT [x, y] = Codec.encS x ++ Codec.encS y := by simp [encT]
  rw [e] at h1
  exact ⟨rfl, h1, h2, Keeps.of_step h h2⟩
theorem vS1_any {w : World} {b q : Nat} {l x : List UInt8} (h : OutAt w b l) (hl : l.length ≤ 1024) (hx : x.length ≤ 40) (hq : w.heap[q]? = some (.cells #[.string (S x)] 9 (0, 0))) :
    Calls Tryd.prog 43 #[.pointer (some ⟨b, 0, none⟩), .slice (some ⟨q, 0, none⟩) 1 1] w fun e w' =>
      e = .returned (.pointer (some ⟨b, 0, none⟩)) ∧ OutAt w' b (l ++ Codec.encS x) ∧ Step b w w' ∧ Keeps b w w' := by
  have hN := outS_any b l [x] (some ⟨q, 0, none⟩) 1 1 w h rfl (by simp) (by omega)
    (by intro i hi; simp at hi; subst hi; simp; omega)
    (by
      intro i hi
      simp at hi
      subst hi
      refine ⟨q, 0, rfl, block_lt hq, Foreign.of_type h hq (by decide) (by simp), ?_⟩
      rw [block_cell hq]; rfl)
  refine hN.mono ?_
  rintro e w' ⟨rfl, h1, h2⟩
  have e : encT [x] = Codec.encS x := by simp [encT]
  rw [e] at h1
  exact ⟨rfl, h1, h2, Keeps.of_step h h2⟩
/- Behind W, an Out's calls: it is one still; the rest stays. -/
def OR (W : World) (B : Nat) (w' : World) : Prop := (∃ l, OutAt w' B l) ∧ Step B W w'
section
variable {W w w' : World} {B : Nat}
theorem OR.below (h : OR W B w) (hb : Below w.heap.size w w') : OR W B w' := by
  obtain ⟨⟨l, ho⟩, hs⟩ := h
  obtain ⟨ho', hs'⟩ := ho.later hb
  exact ⟨⟨l, ho'⟩, hs.trans hs'⟩
theorem OR.alloc (h : OR W B w) (o : Obj) : OR W B (w.alloc o) := h.below (under_box o)
theorem OR.drew (h : OR W B w) : OR W B w.drew := h.below (Below.refl _ _).drew
theorem OR.undrew (h : OR W B w.drew) : OR W B w := h.below ⟨rfl, rfl, rfl, Nat.le_refl _, fun k hk => rfl⟩
theorem OR.step (h : OR W B w) {l : List UInt8} (ho : OutAt w' B l) (hs : Step B w w') : OR W B w' := ⟨⟨l, ho⟩, h.2.trans hs⟩
end
theorem valloc1 {w : World} {o : Obj} {k : Nat} (h : w.heap.size = k) : (w.alloc o).heap[k]? = some o := by subst h; exact heap_alloc_new w o
theorem valloc2 {w : World} {o : Obj} {k : Nat} {x : Obj} (hx : w.heap[k]? = some x) : (w.alloc o).heap[k]? = some x := (Below.heap_alloc w o k (block_lt hx)).trans hx
theorem nest1 {w : World} (o : Obj) : Below w.heap.size w (w.alloc o) := under_box o
theorem nest2 {w : World} (o o' : Obj) : Below w.heap.size w ((w.alloc o).alloc o') := under_two w o o'
theorem nest3 {w : World} (o o' o'' : Obj) : Below w.heap.size w (((w.alloc o).alloc o').alloc o'') := (under_two w o o').alloc (by simp; omega) _
end Go.Proofs.YthchnfgokkcepaaDoor
