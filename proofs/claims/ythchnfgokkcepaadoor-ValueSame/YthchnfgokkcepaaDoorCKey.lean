/- The contracts of codec's Key: the bytes of the parts' key, in new memory. -/
import Derived.Test.YthchnfgokkcepaaDoorCIn
import Derived.Test.YthchnfgokkcepaaDoorCKeyMath
import Derived.Test.YthchnfgokkcepaaDoorCOut
namespace Go.Proofs.YthchnfgokkcepaaDoor
open Go.RowKit
set_option linter.unusedVariables false
set_option maxRecDepth 100000

/- The text of an owned row of bytes. -/
theorem bytes_text {w : World} {base : Nat} {v : Value} {l : List UInt8} (h : w.ownsRow base 5 1 v l.length (B8 l)) :
    (convert 70 9 v).run Tryd.prog w = .ok (.string (S l)) w := by
  rcases h.2 with ⟨rfl, hn⟩ | ⟨g, cap, cur, rfl, hb, hg, hnc, hcm, hcs, ht⟩
  · have : l = [] := List.length_eq_zero_iff.1 hn
    subst this
    exact run_convert_bytes_nil w 70 5 under_bytes under_byte 0 0 9 under_string
  · refine run_convert_bytes_back w 70 9 5 ⟨g, 0, none⟩ cap l under_bytes under_byte under_string ?_
    intro j hj
    rw [plain_add, Nat.zero_add, h.cellAt j (by omega)]
    simp [B8, hj]

/- A row of bytes of the call's own, apart from block g, which is as it was in w0. -/
structure RowAt (w0 wr : World) (base g : Nat) (v : Value) (l : List UInt8) : Prop where
  own : wr.ownsRow base 5 1 v l.length (B8 l)
  apart : v.ownBlock ≠ some g
  kept : wr.heap[g]? = w0.heap[g]?
  lt : g < wr.heap.size
  base_le : base ≤ wr.heap.size
  below : Below base w0 wr

theorem RowAt.grow {w0 wr w1 : World} {base g : Nat} {v v' : Value} {l ys : List UInt8} {o : Obj} (h : RowAt w0 wr base g v l)
    (hown : w1.ownsRow base 5 1 v' (l.length + ys.length) (B8 l ++ B8 ys)) (hg : (wr.alloc o).grownBy w1 v.ownBlock)
    (hfr : v'.ownBlock = v.ownBlock ∨ ∀ k, v'.ownBlock = some k → wr.heap.size ≤ k) : RowAt w0 w1 base g v' (l ++ ys) := by
  have hlt := h.lt
  have hb := h.base_le
  have hsz := hg.size
  simp at hsz
  have hlo := h.own.lt
  refine ⟨by rw [B8_append, List.length_append]; exact hown, ?_, ?_, by omega, by omega, ?_⟩
  · rcases hfr with e | e
    · rw [e]; exact h.apart
    · intro ek
      have := e g ek
      omega
  · rw [hg.block g (by simp; omega) (fun e => h.apart e.symm), Below.heap_alloc _ _ _ hlt]; exact h.kept
  · exact (h.below.alloc hb o).grown hg (by simp; omega) (fun k hk => (hlo k hk).1)

theorem two_new (w : World) (a b : Value) (t : TypeId) : ∀ j u, [a, b][j]? = some u → (w.alloc (.cells #[a, b] t)).cell? ((⟨w.heap.size, 0, none⟩ : Addr).add j) = some u := by
  intro j u hu
  rw [plain_add, Nat.zero_add]
  match j, hu with
  | 0, hu => simp at hu; subst hu; simp
  | 1, hu => simp at hu; subst hu; simp

/- A slice of texts that came in: its first 'len' texts, at a plain address. -/
def Texts (w : World) (a : Option Addr) (l : List (List UInt8)) : Prop :=
  ∀ i (hi : i < l.length), ∃ b off, a = some ⟨b, off, none⟩ ∧ b < w.heap.size ∧ w.cell? ⟨b, off + i, none⟩ = some (.string (S l[i]))

theorem Texts.later {w w' : World} {a : Option Addr} {l : List (List UInt8)} (h : Texts w a l) (hb : Below w.heap.size w w') : Texts w' a l := by
  intro i hi
  obtain ⟨b, off, e, hlt, hc⟩ := h i hi
  exact ⟨b, off, e, by have := hb.size; omega, by rw [hb.cell (p := ⟨b, off + i, none⟩) hlt]; exact hc⟩

theorem key_small (l : List (List UInt8)) (n k : Nat) (hl : l.length ≤ 64) (hz : ∀ i (h : i < l.length), l[i].length ≤ 1048576) (hk : k ≤ l.length) : (Codec.key (l.take k)).length ≤ 2097154 * k := by
  induction k with
  | zero => simp [Codec.key]
  | succ k ih =>
    rw [Codec.key_snoc l k (by omega), List.length_append]
    have h1 := ih (by omega)
    have h2 := Codec.esc_length l[k]
    have h3 := hz k (by omega)
    have h4 : (Codec.encPart l[k]).length = (Codec.esc l[k]).length + 2 := by simp [Codec.encPart]
    omega

end Go.Proofs.YthchnfgokkcepaaDoor
