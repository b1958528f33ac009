/- Facts outside the walk of CrcParts: what an owned row of texts and a sum's cell are behind other memory's turning; the contract of crc.Of at an owned row. -/
import Derived.Test.YtphcbnbpbgmplaaRef
namespace Go.Proofs.Ytphcbnbpbgmplaa
open Go.RowKit
set_option linter.unusedVariables false

/- What the walk is told of a slice of texts that came in. -/
def IsStrs (w : World) (a : Option Addr) (len cap : Nat) (zs : List ByteArray) : Prop :=
  (a = none ∧ len = 0 ∧ cap = 0 ∧ zs = []) ∨
  ∃ x, a = some x ∧ len ≤ cap ∧ cap ≤ maxLen ∧ zs.length = cap ∧ (∀ i, i < zs.length → w.cell? (x.add i) = some (.string (zs.getD i ByteArray.empty))) ∧ ∀ s ∈ zs, s.size ≤ maxLen

theorem cell_lt {w : World} {b o : Nat} {v : Value} (h : w.cell? ⟨b, o, none⟩ = some v) : b < w.heap.size := by
  rcases Nat.lt_or_ge b w.heap.size with h1 | h1
  · exact h1
  · simp [World.cell?, Array.getElem?_eq_none h1] at h

theorem plain_add (b off i : Nat) : (⟨b, off, none⟩ : Addr).add i = ⟨b, off + i, none⟩ := by unfold Addr.add; split <;> simp_all

/- The same, read off: the first 'len' texts, at a plain address. -/
theorem IsStrs.norm {w : World} {a : Option Addr} {len cap : Nat} {zs : List ByteArray} (h : IsStrs w a len cap zs) :
    ∃ l : List ByteArray, l.length = len ∧ len ≤ maxLen ∧ (∀ i (hi : i < l.length), l[i].size ≤ maxLen) ∧
      ∀ i (hi : i < l.length), ∃ b off, a = some ⟨b, off, none⟩ ∧ b < w.heap.size ∧ w.cell? ⟨b, off + i, none⟩ = some (.string l[i]) := by
  rcases h with ⟨rfl, rfl, rfl, rfl⟩ | ⟨x, rfl, hl, hm, hz, hc, hs⟩
  · exact ⟨[], rfl, by simp [maxLen], by simp, by simp⟩
  · refine ⟨zs.take len, by simp; omega, by omega, ?_, ?_⟩
    · intro i hi
      apply hs
      rw [List.getElem_take]
      exact List.getElem_mem _
    · intro i hi
      simp at hi
      have h1 := hc i (by omega)
      obtain ⟨b, off, spot⟩ := x
      have hspot : spot = none := by simpa [Addr.add] using World.cell?_spot (hc 0 (by omega))
      subst hspot
      have h2 : w.cell? ⟨b, off + i, none⟩ = some (.string (zs.getD i ByteArray.empty)) := by rw [← plain_add]; exact h1
      refine ⟨b, off, rfl, cell_lt h2, ?_⟩
      rw [h2, List.getElem_take]
      simp [List.getD, List.getElem?_eq_getElem (show i < zs.length by omega)]

theorem SumAt.kept {w w' : World} {b v : Nat} (h : SumAt w b v) (hk : w'.heap[b]? = w.heap[b]?) (hs : w.heap.size ≤ w'.heap.size) : SumAt w' b v :=
  ⟨by have := h.lt; omega, by rw [World.cell?_of_block (w := w) (a := ⟨b, 0, none⟩) hk]; exact h.cell, by rw [World.frozen?_of_block (w := w) (a := ⟨b, 0, none⟩) hk]; exact h.frozen⟩

theorem ownsRow_below {w w' : World} {base : Nat} {e : TypeId} {size : Nat} {v : Value} {n : Nat} {xs : List Value} (h : w.ownsRow base e size v n xs) (hb : Below w.heap.size w w') : w'.ownsRow base e size v n xs := by
  obtain ⟨h1, h2⟩ := h
  refine ⟨h1, ?_⟩
  rcases h2 with h2 | ⟨g, cap, cur, hv, hg, hh, r⟩
  · exact Or.inl h2
  · have hlt : g < w.heap.size := by
      rcases Nat.lt_or_ge g w.heap.size with h | h
      · exact h
      · simp [Array.getElem?_eq_none h] at hh
    exact Or.inr ⟨g, cap, cur, hv, hg, by rw [hb.block g hlt]; exact hh, r⟩

theorem of_owned (l : List ByteArray) (base : Nat) (v : Value) (w : World) (hl : l.length ≤ maxLen) (hz : ∀ i (h : i < l.length), l[i].size ≤ maxLen)
    (h : w.ownsRow base 9 1 v l.length (l.map Value.string)) :
    Calls Try.prog 11 #[v] w fun e w' => e = .returned (.int .u32 (Crc.crc (flat l) : Nat)) ∧ Below w.heap.size w w' := by
  have h0 := h
  rcases h.2 with ⟨rfl, hn⟩ | ⟨g, cap, cur, rfl, hb, hg, hnc, hcm, hcs, ht⟩
  · have : l = [] := List.length_eq_zero_iff.1 hn
    subst this
    exact of_nil w
  · refine of_some l g 0 cap w hl hz ?_ ?_
    · rcases Nat.lt_or_ge g w.heap.size with h | h
      · exact h
      · simp [Array.getElem?_eq_none h] at hg
    · intro i hi
      rw [Nat.zero_add, h0.cellAt i (by omega)]
      simp [hi]
end Go.Proofs.Ytphcbnbpbgmplaa
