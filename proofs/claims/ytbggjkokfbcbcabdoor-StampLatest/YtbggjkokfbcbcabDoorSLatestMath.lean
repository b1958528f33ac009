/- Plain mathematics: what two places of a device of three sectors hold behind the calls of StampLatest. -/
import Derived.Test.YtbggjkokfbcbcabDoorSLast
namespace Go.Proofs.YtbggjkokfbcbcabDoor
open Go.RowKit
set_option linter.unusedVariables false
set_option maxRecDepth 100000

theorem lay_cur : ∀ (r : List (Nat × List UInt8)) (l : List (List UInt8)) (k : Nat), k < l.length → (lay l r.reverse).getD k [] = ((r.find? (fun x => x.1 == k)).map (·.2)).getD (l.getD k [])
  | [], l, k, h => rfl
  | x :: r, l, k, h => by
    rw [List.reverse_cons, lay_snoc, List.find?_cons]
    by_cases e : x.1 = k
    · rw [show (x.1 == k) = true by simpa using e]
      have hl : k < (lay l r.reverse).length := by rw [lay_length]; exact h
      simp [List.getD, e, hl]
    · rw [show (x.1 == k) = false by simpa using e]
      have := lay_cur r l k h
      simp only [List.getD, List.getElem?_set, if_neg e] at this ⊢
      exact this

theorem parse_blank : Codec.parse (whole []) = (⟨0, 0, []⟩, 5) := by
  unfold Codec.parse
  rw [if_neg (by rw [whole_length]; decide), if_pos (by decide +kernel)]
theorem parse_none : Codec.parse (whole [110, 111, 110, 101]) = (⟨0, 0, []⟩, 5) := by
  unfold Codec.parse
  rw [if_neg (by rw [whole_length]; decide), if_pos (by decide +kernel)]

structure LD (m : Nat) (D : Dev) (x0 x2 : List UInt8) : Prop where
  len : D.L.length = 3
  down : D.down = false
  armed : D.armed = false
  left : D.left = 0
  calls : D.calls ≤ m
  wl : D.W.length ≤ m
  ok : D.Ok
  c0 : D.cur 0 = x0
  c2 : D.cur 2 = x2

section
variable {m : Nat} {D : Dev} {x0 x2 : List UInt8}
theorem LD.new : LD 0 (Dev.new 3) (whole []) (whole []) :=
  ⟨by simp [Dev.new], rfl, rfl, rfl, Nat.le_refl _, Nat.le_refl _, ⟨fun x hx => absurd hx List.not_mem_nil, by simp [Dev.new]⟩, rfl, rfl⟩
theorem LD.out (h : LD m D x0 x2) : ¬ D.out := by
  unfold Dev.out
  rw [h.down, h.armed]
  simp
theorem LD.begin (h : LD m D x0 x2) : D.begin = { D with calls := D.calls + 1 } := by
  unfold Dev.begin
  rw [if_neg h.out, h.armed]
  simp
theorem LD.mono (h : LD m D x0 x2) : LD (m + 1) D x0 x2 := ⟨h.len, h.down, h.armed, h.left, by have := h.calls; omega, by have := h.wl; omega, h.ok, h.c0, h.c2⟩
theorem whole_64 (T : List UInt8) (h : T.length = 64) : whole T = T := by
  rw [whole_long T (by omega), List.take_of_length_le (by omega)]
theorem LD.no (h : LD m D x0 x2) (i : Int) (h0 : 0 ≤ i) (h3 : i < 3) : ¬ D.no i := by unfold Dev.no; rw [h.len]; omega
theorem LD.writeE (h : LD m D x0 x2) (i : Int) (h0 : 0 ≤ i) (h3 : i < 3) (T : List UInt8) (hT : T.length = 64) : D.writeE i T = 0 := by
  unfold Dev.writeE
  rw [if_neg (by intro hx; rcases hx with hx | hx; exact h.no i h0 h3 hx; omega), if_neg h.out]
theorem LD.write_eq (h : LD m D x0 x2) (i : Int) (h0 : 0 ≤ i) (h3 : i < 3) (T : List UInt8) (hT : T.length = 64) : D.write i T = { D with calls := D.calls + 1, W := D.W ++ [(i.toNat, T)] } := by
  unfold Dev.write
  rw [if_neg (by intro hx; rcases hx with hx | hx; exact h.no i h0 h3 hx; omega), if_neg h.out, h.begin, whole_64 T hT]
theorem cur_snoc (D : Dev) (c i k : Nat) (T : List UInt8) : ({ D with calls := c, W := D.W ++ [(i, T)] } : Dev).cur k = if i = k then T else D.cur k := by
  unfold Dev.cur
  simp only [List.reverse_append, List.reverse_cons, List.reverse_nil, List.nil_append, List.singleton_append, List.find?_cons]
  by_cases e : i = k
  · rw [show (i == k) = true by simpa using e, if_pos e]; rfl
  · rw [show (i == k) = false by simpa using e, if_neg e]
theorem LD.write (h : LD m D x0 x2) (i : Nat) (h3 : i < 3) (T : List UInt8) (hT : T.length = 64) : LD (m + 1) (D.write (i : Int) T) (if i = 0 then T else x0) (if i = 2 then T else x2) := by
  rw [h.write_eq i (by omega) (by omega) T hT]
  refine ⟨h.len, h.down, h.armed, h.left, by have := h.calls; show D.calls + 1 ≤ _; omega, by have := h.wl; show (D.W ++ _).length ≤ _; rw [List.length_append]; show D.W.length + 1 ≤ _; omega, ⟨?_, h.ok.some⟩, ?_, ?_⟩
  · intro x hx
    rcases List.mem_append.1 hx with hx | hx
    · exact h.ok.has x hx
    · rw [List.mem_singleton.1 hx]
      show (i : Int).toNat < D.L.length
      rw [h.len]; omega
  · rw [cur_snoc, h.c0]; simp
  · rw [cur_snoc, h.c2]; simp
theorem LD.flush (h : LD m D x0 x2) : LD (m + 1) D.flush x0 x2 ∧ D.flush.W = [] ∧ D.flushE = 0 := by
  have e : D.flush = { D with calls := D.calls + 1, L := lay D.L D.W, W := [] } := by
    unfold Dev.flush
    rw [if_neg h.out, h.begin]
  have hc : ∀ k, k < 3 → (lay D.L D.W).getD k [] = D.cur k := fun k hk => by
    have := lay_cur D.W.reverse D.L k (by rw [h.len]; exact hk)
    rw [List.reverse_reverse] at this
    exact this
  refine ⟨?_, by rw [e], by unfold Dev.flushE; rw [if_neg h.out]⟩
  rw [e]
  refine ⟨by show (lay D.L D.W).length = 3; rw [lay_length]; exact h.len, h.down, h.armed, h.left, by have := h.calls; show D.calls + 1 ≤ _; omega, Nat.zero_le _, ⟨fun x hx => absurd hx List.not_mem_nil, by show 0 < (lay D.L D.W).length; rw [lay_length]; exact h.ok.some⟩, ?_, ?_⟩
  · rw [← h.c0, ← hc 0 (by omega)]; rfl
  · rw [← h.c2, ← hc 2 (by omega)]; rfl
theorem LD.spoil (h : LD m D x0 x2) (hW : D.W = []) (s : List UInt8) : LD m (D.spoil 2 s) x0 (whole s) := by
  have e : D.spoil 2 s = { D with L := D.L.set 2 (whole s) } := by
    unfold Dev.spoil
    rw [if_neg (h.no 2 (by omega) (by omega))]
    rfl
  have hc0 : D.L.getD 0 [] = x0 := by rw [← h.c0]; unfold Dev.cur; rw [hW]; rfl
  rw [e]
  refine ⟨by simpa using h.len, h.down, h.armed, h.left, h.calls, h.wl, ⟨fun x hx => by rw [show ({ D with L := D.L.set 2 (whole s) } : Dev).W = D.W from rfl, hW] at hx; exact absurd hx List.not_mem_nil, by simpa using h.ok.some⟩, ?_, ?_⟩
  · unfold Dev.cur; rw [show ({ D with L := D.L.set 2 (whole s) } : Dev).W = D.W from rfl, hW, ← hc0]; simp [List.getD]
  · unfold Dev.cur; rw [show ({ D with L := D.L.set 2 (whole s) } : Dev).W = D.W from rfl, hW]
    have := h.len
    simp [List.getD, this]
theorem LD.read0 (h : LD m D x0 x2) : D.read 0 = x0 := by unfold Dev.read; rw [if_neg (h.no 0 (by omega) (by omega)), if_neg (by rw [h.down]; decide)]; exact h.c0
theorem LD.read2 (h : LD m D x0 x2) : D.read 2 = x2 := by unfold Dev.read; rw [if_neg (h.no 2 (by omega) (by omega)), if_neg (by rw [h.down]; decide)]; exact h.c2
theorem LD.readE0 (h : LD m D x0 x2) : D.readE 0 = 0 := by unfold Dev.readE; rw [if_neg (h.no 0 (by omega) (by omega)), if_neg (by rw [h.down]; decide)]
theorem LD.readE2 (h : LD m D x0 x2) : D.readE 2 = 0 := by unfold Dev.readE; rw [if_neg (h.no 2 (by omega) (by omega)), if_neg (by rw [h.down]; decide)]
theorem LD.readE3 (h : LD m D x0 x2) : D.readE 3 = 4 := by unfold Dev.readE; rw [if_pos (by unfold Dev.no; rw [h.len]; omega)]
end
end Go.Proofs.YtbggjkokfbcbcabDoor
