/- A node in memory: its kind and three rows; what a call leaves of rows that are read; the contracts of a node's smallest calls. -/
import Derived.Test.YtochaiinofhdhaaCFew
import Derived.Test.YtochaiinofhdhaaDBase
import Derived.Laws.OwnMore
import Derived.Laws.CopyOwn
import Derived.Deep.RegionHeld3
namespace Go.Proofs.Ytochaiinofhdhaa
open Go.RowKit
set_option linter.unusedVariables false
set_option maxRecDepth 100000

def I9 (l : List Int) : List Value := l.map fun x => Value.int .i64 x
theorem I9_length (l : List Int) : (I9 l).length = l.length := by simp [I9]
theorem I9_append (a b : List Int) : I9 (a ++ b) = I9 a ++ I9 b := by simp [I9]
theorem I9_one (l : List Int) : ∀ u ∈ I9 l, u.oneCell' = true := by
  intro u hu
  simp [I9] at hu
  obtain ⟨x, _, rfl⟩ := hu
  rfl
theorem T9_one (l : List (List UInt8)) : ∀ u ∈ T9 l, u.oneCell' = true := by
  intro u hu
  simp [T9] at hu
  obtain ⟨x, _, rfl⟩ := hu
  rfl

/- A slice whose cells hold these values. -/
def Row (w : World) (v : Value) (l : List Value) : Prop :=
  ∃ a c, v = .slice a l.length c ∧ l.length ≤ c ∧ c ≤ maxLen ∧ (a = none → c = 0) ∧ ∀ i u, l[i]? = some u → ∃ b off, a = some ⟨b, off, none⟩ ∧ b < w.heap.size ∧ w.cell? ⟨b, off + i, none⟩ = some u

theorem Row.later {w w' : World} {v : Value} {l : List Value} (h : Row w v l) (hb : Below w.heap.size w w') : Row w' v l := by
  obtain ⟨a, c, e, h1, h2, h0, h3⟩ := h
  refine ⟨a, c, e, h1, h2, h0, fun i u hu => ?_⟩
  obtain ⟨b, off, ea, hlt, hc⟩ := h3 i u hu
  exact ⟨b, off, ea, by have := hb.size; omega, by rw [hb.cell (p := ⟨b, off + i, none⟩) hlt]; exact hc⟩
theorem Row.nil (w : World) : Row w (.slice none 0 0) [] := ⟨none, 0, rfl, Nat.le_refl _, by simp [maxLen], fun _ => rfl, fun i u h => by simp at h⟩
theorem Row.of_own {w : World} {base : Nat} {e : TypeId} {v : Value} {n : Nat} {xs : List Value} (h : w.ownsRow base e 1 v n xs) : Row w v xs := by
  have hl : xs.length = n := by simpa using h.1
  subst hl
  rcases h.2 with ⟨rfl, h0⟩ | ⟨g, cap, cur, rfl, hb, hh, hn, hm, hs, ht⟩
  · have : xs = [] := List.eq_nil_of_length_eq_zero h0
    subst this
    exact Row.nil w
  · refine ⟨_, cap, rfl, hn, hm, fun e => (by cases e), fun i u hu => ⟨g, 0, rfl, block_lt hh, ?_⟩⟩
    rw [Nat.zero_add]
    exact ownsRow_cell h rfl i u hu
theorem Row.texts {w : World} {a : Option Addr} {n c : Nat} {l : List (List UInt8)} (h : Row w (.slice a n c) (T9 l)) : n = l.length ∧ l.length ≤ c ∧ c ≤ maxLen ∧ Texts w a l := by
  obtain ⟨a', c', e, h1, h2, h0, h3⟩ := h
  injection e with e1 e2 e3
  subst e1 e2 e3
  rw [T9_length] at h1
  refine ⟨T9_length l, h1, h2, fun i hi => ?_⟩
  exact h3 i _ (by simp [T9, hi])
theorem Row.at {w : World} {a : Option Addr} {n c : Nat} {l : List Value} (h : Row w (.slice a n c) l) (i : Nat) (hi : i < l.length) : ∃ b off, a = some ⟨b, off, none⟩ ∧ b < w.heap.size ∧ w.cell? ⟨b, off + i, none⟩ = some (l[i]'hi) := by
  obtain ⟨a', c', e, h1, h2, h0, h3⟩ := h
  injection e with e1 e2 e3
  subst e1 e2 e3
  exact h3 i _ (List.getElem?_eq_getElem hi)
theorem Row.shape {w : World} {v : Value} {l : List Value} (h : Row w v l) : ∃ a c, v = .slice a l.length c ∧ l.length ≤ c ∧ c ≤ maxLen := by
  obtain ⟨a, c, e, h1, h2, _, _⟩ := h
  exact ⟨a, c, e, h1, h2⟩

/- A node: a leaf, or none; keys, values, kids. -/
structure Nd where
  leaf : Bool
  keys : List (List UInt8)
  vals : List (List UInt8)
  kids : List Int

structure NdAt (w : World) (v : Value) (n : Nd) : Prop where
  rows : ∃ k u d, v = .agg #[.bool n.leaf, k, u, d] ∧ Row w k (T9 n.keys) ∧ Row w u (T9 n.vals) ∧ Row w d (I9 n.kids)
theorem NdAt.later {w w' : World} {v : Value} {n : Nd} (h : NdAt w v n) (hb : Below w.heap.size w w') : NdAt w' v n := by
  obtain ⟨k, u, d, e, h1, h2, h3⟩ := h.rows
  exact ⟨k, u, d, e, h1.later hb, h2.later hb, h3.later hb⟩

def Nd.len (n : Nd) : Nat := if n.leaf then n.keys.length else n.kids.length
def Nd.over (n : Nd) : Bool := if n.leaf then decide (4 < n.keys.length) else decide (6 < n.kids.length)
def Nd.under (n : Nd) : Bool := if n.leaf then decide (n.keys.length < 2) else decide (n.kids.length < 3)

theorem below_box {w : World} (o : Obj) : Below w.heap.size w (w.alloc o) := (Below.refl _ _).alloc (Nat.le_refl _) _

theorem nlen_any {w : World} {v : Value} {n : Nd} (h : NdAt w v n) : Calls Try.prog 16 #[v] w fun e w' => e = .returned (.int .i64 ((n.len : Nat) : Int)) ∧ Below w.heap.size w w' := by
  obtain ⟨k, u, d, rfl, h1, h2, h3⟩ := h.rows
  obtain ⟨ka, kc, rfl, _⟩ := h1.shape
  obtain ⟨ua, uc, rfl, _⟩ := h2.shape
  obtain ⟨da, dc, rfl, _⟩ := h3.shape
  rw [T9_length, T9_length, I9_length]
  clear h h1 h2 h3
  obtain ⟨lf, ks, vs, ds⟩ := n
  unfold Nd.len
  cases lf
  all_goals
    go_enter Try.func16, Try.ntmps16
    go_wp2
    go_ret
    exact ⟨rfl, below_box _⟩

theorem nover_any {w : World} {v : Value} {n : Nd} (h : NdAt w v n) : Calls Try.prog 14 #[v] w fun e w' => e = .returned (.bool n.over) ∧ Below w.heap.size w w' := by
  have HL := hide (fun o => nlen_any (h.later (below_box (w := w) o)))
  obtain ⟨k, u, d, rfl, h1, h2, h3⟩ := h.rows
  clear h h1 h2 h3
  obtain ⟨lf, ks, vs, ds⟩ := n
  unfold Nd.over
  unfold Nd.len at HL
  cases lf
  all_goals
    dsimp only at HL ⊢
    go_enter Try.func14, Try.ntmps14
    go_wp2_with fail
    refine (unhide HL _).mono ?_
    rintro e w1 ⟨rfl, hb⟩
    have HB := hide ((below_box _).trans (hb.mono (by simp)))
    clear HL hb
    go_wp2
    go_ret
    refine ⟨ret_bool ?_, unhide HB⟩
    simp <;> omega
theorem nunder_any {w : World} {v : Value} {n : Nd} (h : NdAt w v n) : Calls Try.prog 36 #[v] w fun e w' => e = .returned (.bool n.under) ∧ Below w.heap.size w w' := by
  have HL := hide (fun o => nlen_any (h.later (below_box (w := w) o)))
  obtain ⟨k, u, d, rfl, h1, h2, h3⟩ := h.rows
  clear h h1 h2 h3
  obtain ⟨lf, ks, vs, ds⟩ := n
  unfold Nd.under
  unfold Nd.len at HL
  cases lf
  all_goals
    dsimp only at HL ⊢
    go_enter Try.func36, Try.ntmps36
    go_wp2_with fail
    refine (unhide HL _).mono ?_
    rintro e w1 ⟨rfl, hb⟩
    have HB := hide ((below_box _).trans (hb.mono (by simp)))
    clear HL hb
    go_wp2
    go_ret
    refine ⟨ret_bool ?_, unhide HB⟩
    simp <;> omega
end Go.Proofs.Ytochaiinofhdhaa
