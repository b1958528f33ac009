/- Texts that this proof needs, one behind the other: CIn2, COneMath, CRefTake, CRefTakeU, CRefTakeR, CPutsMath, CBack. -/
import Derived.Test.YteaiidcconggcaaDoorBundleC2
import Derived.Laws.DeepNot64
import Derived.Deep.RegionWith
/- The contracts of an In's further calls: whole numbers, numbers up to a limit, texts, the end; a new In. -/
namespace Go.Proofs.YteaiidcconggcaaDoor
open Go.RowKit
set_option linter.unusedVariables false
set_option maxRecDepth 100000

theorem u64_and_one (n : Nat) (h : n < 18446744073709551616) : bits .and .u64 (n : Int) 1 = ((n % 2 : Nat) : Int) := by
  have := u64_and_nat n 1 h (by omega)
  rw [Nat.and_one_is_mod] at this
  exact this

theorem not_half (n : Nat) (h : n < 18446744073709551616) : bits .xor .i64 (-1) ((n : Int) / 2) = -((n / 2 : Nat) : Int) - 1 := by
  have e := i64_not (n / 2) (by omega)
  rw [show ((n : Int) / 2) = ((n / 2 : Nat) : Int) from by simp, e]
  omega

end Go.Proofs.YteaiidcconggcaaDoor
/- Plain mathematics: what is taken as a number is that number's one spelling. No program is named here. -/
namespace Codec

theorem be_add (k c m : Nat) : be k (c * 256 ^ k + m) = be k m := by
  unfold be
  apply List.map_congr_left
  intro j hj
  simp at hj
  have e : c * 256 ^ k = 256 ^ (k - 1 - j) * (c * 256 ^ j * 256) := by
    have : 256 ^ k = 256 ^ (k - 1 - j) * 256 ^ j * 256 := by
      rw [← Nat.pow_add, ← Nat.pow_succ]; congr 1; omega
    rw [this]
    simp only [Nat.mul_assoc, Nat.mul_left_comm]
  rw [e, Nat.mul_add_div (Nat.pow_pos (by decide)), Nat.add_comm, Nat.add_mul_mod_self_right]

theorem be_val (d : List UInt8) : be d.length (val d) = d := by
  induction d with
  | nil => rfl
  | cons c r ih =>
    rw [List.length_cons, val_cons, be_cons, be_add, ih]
    have h := val_lt r
    have e : (c.toNat * 256 ^ r.length + val r) / 256 ^ r.length = c.toNat := by
      rw [Nat.mul_comm, Nat.mul_add_div (Nat.pow_pos (by decide)), Nat.div_eq_of_lt h, Nat.add_zero]
    rw [e, Nat.mod_eq_of_lt c.toNat_lt, UInt8.ofNat_toNat]

theorem blen_val (c : UInt8) (r : List UInt8) (hc : c.toNat ≠ 0) (hr : (c :: r).length ≤ 8) : blen (val (c :: r)) = (c :: r).length := by
  have h1 := val_lt (c :: r)
  have hlt : val (c :: r) < 18446744073709551616 := Nat.lt_of_lt_of_le h1 (Nat.le_trans (Nat.pow_le_pow_right (by decide) hr) (by decide))
  have h2 : ¬ (c :: r).length < blen (val (c :: r)) := by
    intro h
    have := (left_iff _ _ hlt).2 h
    rw [Nat.div_eq_of_lt h1] at this
    omega
  have h3 : r.length < blen (val (c :: r)) := by
    apply (left_iff _ _ hlt).1
    apply Nat.div_pos _ (Nat.pow_pos (by decide))
    rw [val_cons]
    have : 1 * 256 ^ r.length ≤ c.toNat * 256 ^ r.length := Nat.mul_le_mul_right _ (by omega)
    omega
  simp only [List.length_cons] at *
  omega

theorem enc_val (c : UInt8) (r : List UInt8) (hc : c.toNat ≠ 0) (hr : (c :: r).length ≤ 8) : enc (val (c :: r)) = UInt8.ofNat (c :: r).length :: (c :: r) := by
  unfold enc
  rw [blen_val c r hc hr, be_val]

theorem fail_err (c : Int) (l : List UInt8) (hc : c ≠ 0) : fail c (l, 0) = ([], c) := by simp [fail, hc]

theorem enc_zero : enc 0 = [0] := by decide

/- Taken without an error: it was the number's bytes. -/
theorem takeU_one (l : List UInt8) : ((takeU (l, 0)).2.2 ≠ 0 → (takeU (l, 0)).1 = 0) ∧ ((takeU (l, 0)).2.2 = 0 → l = enc (takeU (l, 0)).1 ++ (takeU (l, 0)).2.1) := by
  cases l with
  | nil =>
    have e : takeU ([], 0) = (0, ([], 1)) := by decide
    rw [e]
    exact ⟨fun _ => rfl, fun h => by simp at h⟩
  | cons k r =>
    have t1 : take 1 (k :: r, 0) = ([k], (r, 0)) := by simp [take]
    by_cases hk : 8 < k.toNat
    · have s1 : size (k :: r, 0) = (0, ([], 2)) := by unfold size; rw [t1]; dsimp only; rw [if_pos hk, fail_err 2 r (by decide)]
      have d1 : digits (k :: r, 0) = ([], ([], 2)) := by unfold digits; rw [s1]; rfl
      have e : takeU (k :: r, 0) = (0, ([], 2)) := by unfold takeU; rw [d1]
      rw [e]
      exact ⟨fun _ => rfl, fun h => by simp at h⟩
    · have s1 : size (k :: r, 0) = (k.toNat, (r, 0)) := by unfold size; rw [t1]; dsimp only; rw [if_neg hk]
      by_cases hr : k.toNat ≤ r.length
      · have d1 : digits (k :: r, 0) = (r.take k.toNat, (r.drop k.toNat, 0)) := by unfold digits; rw [s1]; simp [take, hr]
        have hlen : (r.take k.toNat).length = k.toNat := by simp; omega
        have hcat : r = r.take k.toNat ++ r.drop k.toNat := (List.take_append_drop _ _).symm
        generalize r.take k.toNat = d at *
        generalize r.drop k.toNat = rest at *
        cases d with
        | nil =>
          have e : takeU (k :: r, 0) = (0, (rest, 0)) := by unfold takeU; rw [d1]
          rw [e]
          refine ⟨fun h => rfl, fun _ => ?_⟩
          have hk0 : k = 0 := UInt8.toNat_inj.1 (by simpa using hlen.symm)
          show k :: r = enc 0 ++ rest
          rw [enc_zero, hk0, hcat]
          simp
        | cons c q =>
          by_cases hc : c.toNat = 0
          · have e : takeU (k :: r, 0) = (0, ([], 2)) := by unfold takeU; rw [d1]; dsimp only; rw [if_pos hc, fail_err 2 _ (by decide)]
            rw [e]
            exact ⟨fun _ => rfl, fun h => by simp at h⟩
          · have e : takeU (k :: r, 0) = (val (c :: q), (rest, 0)) := by unfold takeU; rw [d1]; dsimp only; rw [if_neg hc]
            rw [e]
            refine ⟨fun h => absurd rfl h, fun _ => ?_⟩
            show k :: r = enc (val (c :: q)) ++ rest
            rw [enc_val c q hc (by omega), hlen, UInt8.ofNat_toNat, hcat]
            rfl
      · have d1 : digits (k :: r, 0) = ([], ([], 1)) := by unfold digits; rw [s1]; simp [take, hr, fail]
        have e : takeU (k :: r, 0) = (0, ([], 1)) := by unfold takeU; rw [d1]
        rw [e]
        exact ⟨fun _ => rfl, fun h => by simp at h⟩

end Codec
/- The contracts of the reference's take, TakeU, TakeI, TakeN, TakeS, Fail, End: the same plain functions, as long as nothing is left beside an error. -/
namespace Go.Proofs.YteaiidcconggcaaDoor
open Go.RowKit
set_option linter.unusedVariables false
set_option maxRecDepth 100000

theorem belowCells {W w1 : World} (hb : Below W.heap.size W w1) : (∀ b o, b < W.heap.size → w1.cell? ⟨b, o, none⟩ = W.cell? ⟨b, o, none⟩) ∧ (∀ b o, b < W.heap.size → w1.frozen? ⟨b, o, none⟩ = W.frozen? ⟨b, o, none⟩) :=
  ⟨fun b o h => hb.cell (p := ⟨b, o, none⟩) h, fun b o h => hb.frozen (p := ⟨b, o, none⟩) h⟩

/- Two boxes of two cells, and a call behind them that leaves them as they are. -/
structure Two (w w1 : World) (a0 a1 b0 b1 : Value) : Prop where
  c0 : w1.cell? ⟨w.heap.size, 0, none⟩ = some a0
  c1 : w1.cell? ⟨w.heap.size, 1, none⟩ = some a1
  d0 : w1.cell? ⟨w.heap.size + 1, 0, none⟩ = some b0
  d1 : w1.cell? ⟨w.heap.size + 1, 1, none⟩ = some b1
  f0 : w1.frozen? ⟨w.heap.size, 0, none⟩ = false
  f1 : w1.frozen? ⟨w.heap.size, 1, none⟩ = false
  g0 : w1.frozen? ⟨w.heap.size + 1, 0, none⟩ = false
  g1 : w1.frozen? ⟨w.heap.size + 1, 1, none⟩ = false
  size : w.heap.size + 2 ≤ w1.heap.size
  below : Below w.heap.size w w1
theorem two_boxes {w w1 : World} {a0 a1 b0 b1 : Value} {t u : TypeId} (hb : Below ((w.alloc (Obj.cells #[a0, a1] t)).alloc (Obj.cells #[b0, b1] u)).heap.size ((w.alloc (Obj.cells #[a0, a1] t)).alloc (Obj.cells #[b0, b1] u)) w1) : Two w w1 a0 a1 b0 b1 := by
  refine ⟨?_, ?_, ?_, ?_, ?_, ?_, ?_, ?_, ?_, ?_⟩
  · rw [hb.cell (p := ⟨w.heap.size, 0, none⟩) (by simp; omega)]; simp
  · rw [hb.cell (p := ⟨w.heap.size, 1, none⟩) (by simp; omega)]; simp
  · rw [hb.cell (p := ⟨w.heap.size + 1, 0, none⟩) (by simp)]; simp
  · rw [hb.cell (p := ⟨w.heap.size + 1, 1, none⟩) (by simp)]; simp
  · rw [hb.frozen (p := ⟨w.heap.size, 0, none⟩) (by simp; omega)]; simp
  · rw [hb.frozen (p := ⟨w.heap.size, 1, none⟩) (by simp; omega)]; simp
  · rw [hb.frozen (p := ⟨w.heap.size + 1, 0, none⟩) (by simp)]; simp
  · rw [hb.frozen (p := ⟨w.heap.size + 1, 1, none⟩) (by simp)]; simp
  · have := hb.size; simp at this; omega
  · exact (((Below.refl _ _).alloc (Nat.le_refl _) _).alloc (by simp) _).trans (hb.mono (by simp; omega))
theorem Two.later {w w1 w2 : World} {a0 a1 b0 b1 : Value} (h : Two w w1 a0 a1 b0 b1) (hb : Below w1.heap.size w1 w2) : Two w w2 a0 a1 b0 b1 := by
  have hs := h.size
  refine ⟨?_, ?_, ?_, ?_, ?_, ?_, ?_, ?_, ?_, ?_⟩
  · rw [hb.cell (p := ⟨w.heap.size, 0, none⟩) (by simp; omega)]; exact h.c0
  · rw [hb.cell (p := ⟨w.heap.size, 1, none⟩) (by simp; omega)]; exact h.c1
  · rw [hb.cell (p := ⟨w.heap.size + 1, 0, none⟩) (by simp; omega)]; exact h.d0
  · rw [hb.cell (p := ⟨w.heap.size + 1, 1, none⟩) (by simp; omega)]; exact h.d1
  · rw [hb.frozen (p := ⟨w.heap.size, 0, none⟩) (by simp; omega)]; exact h.f0
  · rw [hb.frozen (p := ⟨w.heap.size, 1, none⟩) (by simp; omega)]; exact h.f1
  · rw [hb.frozen (p := ⟨w.heap.size + 1, 0, none⟩) (by simp; omega)]; exact h.g0
  · rw [hb.frozen (p := ⟨w.heap.size + 1, 1, none⟩) (by simp; omega)]; exact h.g1
  · have := hb.size; omega
  · exact h.below.trans (hb.mono (by omega))
theorem Two.put {w w1 : World} {a0 a1 b0 b1 : Value} (h : Two w w1 a0 a1 b0 b1) (x y : Value) : Two w ((w1.setCell ⟨w.heap.size, 0, none⟩ x).setCell ⟨w.heap.size, 1, none⟩ y) x y b0 b1 := by
  have hs := h.size
  have c0 := h.c0
  have c1 := h.c1
  have d0 := h.d0
  have d1 := h.d1
  have f0 := h.f0
  have f1 := h.f1
  have g0 := h.g0
  have g1 := h.g1
  refine ⟨?_, ?_, ?_, ?_, ?_, ?_, ?_, ?_, ?_, ?_⟩
  · simp [World.cell?_setCell_same _ _ _ c0, World.cell?_setCell_other]
  · have k1 : (w1.setCell ⟨w.heap.size, 0, none⟩ x).cell? ⟨w.heap.size, 1, none⟩ = some a1 := by rw [World.cell?_setCell_other _ _ _ _ (by simp)]; exact c1
    rw [World.cell?_setCell_same _ _ _ k1]
  · rw [World.cell?_setCell_other _ _ _ _ (by simp), World.cell?_setCell_other _ _ _ _ (by simp)]; exact d0
  · rw [World.cell?_setCell_other _ _ _ _ (by simp), World.cell?_setCell_other _ _ _ _ (by simp)]; exact d1
  · rw [World.frozen?_setCell, World.frozen?_setCell]; exact f0
  · rw [World.frozen?_setCell, World.frozen?_setCell]; exact f1
  · rw [World.frozen?_setCell, World.frozen?_setCell]; exact g0
  · rw [World.frozen?_setCell, World.frozen?_setCell]; exact g1
  · simpa using hs
  · exact (h.below.setCell (p := ⟨w.heap.size, 0, none⟩) (Nat.le_refl _) _).setCell (p := ⟨w.heap.size, 1, none⟩) (Nat.le_refl _) _

theorem Two.out {w w1 : World} {a0 a1 b0 b1 : Value} (h : Two w w1 a0 a1 b0 b1) (x y : Value) : Two w ((w1.setCell ⟨w.heap.size + 1, 0, none⟩ x).setCell ⟨w.heap.size + 1, 1, none⟩ y) a0 a1 x y := by
  have hs := h.size
  have c0 := h.c0
  have c1 := h.c1
  have d0 := h.d0
  have d1 := h.d1
  have f0 := h.f0
  have f1 := h.f1
  have g0 := h.g0
  have g1 := h.g1
  refine ⟨?_, ?_, ?_, ?_, ?_, ?_, ?_, ?_, ?_, ?_⟩
  · rw [World.cell?_setCell_other _ _ _ _ (by simp), World.cell?_setCell_other _ _ _ _ (by simp)]; exact c0
  · rw [World.cell?_setCell_other _ _ _ _ (by simp), World.cell?_setCell_other _ _ _ _ (by simp)]; exact c1
  · simp [World.cell?_setCell_same _ _ _ d0, World.cell?_setCell_other]
  · have k1 : (w1.setCell ⟨w.heap.size + 1, 0, none⟩ x).cell? ⟨w.heap.size + 1, 1, none⟩ = some b1 := by rw [World.cell?_setCell_other _ _ _ _ (by simp)]; exact d1
    rw [World.cell?_setCell_same _ _ _ k1]
  · rw [World.frozen?_setCell, World.frozen?_setCell]; exact f0
  · rw [World.frozen?_setCell, World.frozen?_setCell]; exact f1
  · rw [World.frozen?_setCell, World.frozen?_setCell]; exact g0
  · rw [World.frozen?_setCell, World.frozen?_setCell]; exact g1
  · simpa using hs
  · exact (h.below.setCell (p := ⟨w.heap.size + 1, 0, none⟩) (Nat.le_succ _) _).setCell (p := ⟨w.heap.size + 1, 1, none⟩) (Nat.le_succ _) _
theorem Two.drew {w w1 : World} {a0 a1 b0 b1 : Value} (h : Two w w1 a0 a1 b0 b1) : Two w w1.drew a0 a1 b0 b1 := ⟨h.c0, h.c1, h.d0, h.d1, h.f0, h.f1, h.g0, h.g1, h.size, h.below.drew⟩

/- Beside an error nothing is left. -/
def Inv (s : Codec.St) : Prop := s.2 ≠ 0 → s.1 = []
def InV (s : Codec.St) : Value := .agg #[.string (S s.1), .int .i64 s.2]

/- The ways of a number's taking. -/
theorem takeU_err (er : Int) (h : er ≠ 0) : Codec.takeU ([], er) = (0, ([], er)) ∧ Codec.take 1 ([], er) = ([], ([], er)) := by
  have t1 : Codec.take 1 ([], er) = ([], ([], er)) := by simp [Codec.take, Codec.fail, h]
  have s1 : Codec.size ([], er) = (0, ([], er)) := by unfold Codec.size; rw [t1]
  have d1 : Codec.digits ([], er) = ([], ([], er)) := by unfold Codec.digits; rw [s1]; simp [Codec.take]
  exact ⟨by unfold Codec.takeU; rw [d1], t1⟩
theorem takeU_none : Codec.takeU ([], 0) = (0, ([], 1)) ∧ Codec.take 1 ([], 0) = ([], ([], 1)) := by decide
theorem takeU_first (k : UInt8) (r : List UInt8) : Codec.take 1 (k :: r, 0) = ([k], (r, 0)) := by simp [Codec.take]
theorem takeU_big (k : UInt8) (r : List UInt8) (hk : 8 < k.toNat) : Codec.takeU (k :: r, 0) = (0, ([], 2)) := by
  have s1 : Codec.size (k :: r, 0) = (0, ([], 2)) := by unfold Codec.size; rw [takeU_first]; dsimp only; rw [if_pos hk, Codec.fail_err 2 r (by decide)]
  have d1 : Codec.digits (k :: r, 0) = ([], ([], 2)) := by unfold Codec.digits; rw [s1]; rfl
  unfold Codec.takeU; rw [d1]
theorem digits_first (k : UInt8) (r : List UInt8) (hk : ¬ 8 < k.toNat) : Codec.digits (k :: r, 0) = Codec.take k.toNat (r, 0) := by
  have s1 : Codec.size (k :: r, 0) = (k.toNat, (r, 0)) := by unfold Codec.size; rw [takeU_first]; dsimp only; rw [if_neg hk]
  unfold Codec.digits; rw [s1]
theorem takeU_nil (k : UInt8) (r : List UInt8) (st : Codec.St) (hk : ¬ 8 < k.toNat) (h : Codec.take k.toNat (r, 0) = ([], st)) : Codec.takeU (k :: r, 0) = (0, st) := by
  have d1 := digits_first k r hk
  rw [h] at d1
  unfold Codec.takeU
  rw [d1]
theorem takeU_cons (k : UInt8) (r : List UInt8) (c : UInt8) (q : List UInt8) (st : Codec.St) (hk : ¬ 8 < k.toNat) (h : Codec.take k.toNat (r, 0) = (c :: q, st)) :
    Codec.takeU (k :: r, 0) = if c.toNat = 0 then (0, Codec.fail 2 st) else (Codec.val (c :: q), st) := by
  have d1 := digits_first k r hk
  rw [h] at d1
  unfold Codec.takeU
  rw [d1]

end Go.Proofs.YteaiidcconggcaaDoor
/- The contract of the reference's TakeU. -/
namespace Go.Proofs.YteaiidcconggcaaDoor
open Go.RowKit
set_option linter.unusedVariables false
set_option maxRecDepth 100000

theorem take_cons {n : Nat} {r q : List UInt8} {c : UInt8} {st : Codec.St} (h : Codec.take n (r, 0) = (c :: q, st)) : st.2 = 0 := by
  unfold Codec.take at h
  split at h
  · injection h with h1 h2
    rw [← h2]
  · injection h with h1 h2
    cases h1
theorem take_len {n : Nat} {s st : Codec.St} {d : List UInt8} (h : Codec.take n s = (d, st)) : d.length ≤ n ∧ st.1.length ≤ s.1.length := by
  have := Codec.take_length n s
  rw [h] at this
  exact this

theorem wrap_byte (k : UInt8) : IntKind.i64.wrap (k.toNat : Int) = (k.toNat : Int) := by
  have := k.toNat_lt
  rw [IntKind.wrap_i64]; omega

theorem wrap_join (v : Nat) (b : UInt8) (h : v < 72057594037927936) : IntKind.u64.wrap ((v : Int) * 256 + IntKind.u64.wrap (b.toNat : Int)) = ((v * 256 + b.toNat : Nat) : Int) := by
  have := b.toNat_lt
  rw [IntKind.wrap_u64, IntKind.wrap_u64]; omega

end Go.Proofs.YteaiidcconggcaaDoor
/- The contracts of the reference's TakeI, TakeN, TakeS, End; and that nothing is left beside an error, behind any of them. -/
namespace Go.Proofs.YteaiidcconggcaaDoor
open Go.RowKit
set_option linter.unusedVariables false
set_option maxRecDepth 100000

theorem Inv.fail {s : Codec.St} (h : Inv s) (c : Int) : Inv (Codec.fail c s) := by
  unfold Codec.fail
  split
  · intro _; rfl
  · exact h
theorem Inv.take {s : Codec.St} (h : Inv s) (n : Nat) : Inv (Codec.take n s).2 := by
  unfold Codec.take
  split
  · intro he
    have := h he
    simp [this]
  · exact h.fail 1
theorem Inv.size {s : Codec.St} (h : Inv s) : Inv (Codec.size s).2 := by
  unfold Codec.size
  split
  · exact h.take 1
  · split
    · exact (h.take 1).fail 2
    · exact h.take 1
theorem Inv.digits {s : Codec.St} (h : Inv s) : Inv (Codec.digits s).2 := by
  unfold Codec.digits
  exact h.size.take _
theorem Inv.takeU {s : Codec.St} (h : Inv s) : Inv (Codec.takeU s).2 := by
  unfold Codec.takeU
  split
  · exact h.digits
  · split
    · exact h.digits.fail 2
    · exact h.digits
theorem Inv.takeI {s : Codec.St} (h : Inv s) : Inv (Codec.takeI s).2 := h.takeU
theorem Inv.takeN {s : Codec.St} (h : Inv s) (m : Int) : Inv (Codec.takeN m s).2 := by
  unfold Codec.takeN
  split
  · exact h.takeU
  · exact h.takeU.fail 3
theorem Inv.takeS {s : Codec.St} (h : Inv s) (m : Int) : Inv (Codec.takeS m s).2 := (h.takeN m).take _
theorem takeN_length (m : Int) (s : Codec.St) : (Codec.takeN m s).2.1.length ≤ s.1.length := by
  have h := Codec.takeU_length s
  unfold Codec.takeN
  split
  · exact h
  · exact Nat.le_trans (Codec.fail_length 3 _) h
theorem takeS_length (m : Int) (s : Codec.St) : (Codec.takeS m s).2.1.length ≤ s.1.length := Nat.le_trans (Codec.take_length _ _).2 (takeN_length m s)

end Go.Proofs.YteaiidcconggcaaDoor
/- Plain mathematics: numbers, whole numbers and texts there and back. No program is named here. -/
namespace Codec

def fold (k : Int) : Nat := if 0 ≤ k then (2 * k).toNat else (-2 * k - 1).toNat

theorem fold_lt (k : Int) (h1 : -9223372036854775808 ≤ k) (h2 : k ≤ 9223372036854775807) : fold k < 18446744073709551616 := by
  unfold fold; split <;> omega
theorem unfold_fold (k : Int) : unfold (fold k) = k := by
  unfold unfold fold
  by_cases h : 0 ≤ k
  · rw [if_pos h, if_neg (by omega)]; omega
  · rw [if_neg h, if_pos (by omega)]; omega

theorem takeU_enc (n : Nat) (rest : List UInt8) (hn : n < 18446744073709551616) : takeU (enc n ++ rest, 0) = (n, (rest, 0)) := by
  have h8 := blen_le n hn
  have hb : (UInt8.ofNat (blen n)).toNat = blen n := by rw [UInt8.toNat_ofNat']; omega
  have t1 : take 1 (enc n ++ rest, 0) = ([UInt8.ofNat (blen n)], (be (blen n) n ++ rest, 0)) := by simp [take, enc]
  have s1 : size (enc n ++ rest, 0) = (blen n, (be (blen n) n ++ rest, 0)) := by
    unfold size; rw [t1]; dsimp only; rw [if_neg (by omega), hb]
  have d1 : digits (enc n ++ rest, 0) = (be (blen n) n, (rest, 0)) := by
    unfold digits; rw [s1]
    have hl := be_length (blen n) n
    have hle : blen n ≤ (be (blen n) n ++ rest).length := by rw [List.length_append, hl]; omega
    simp only [take, if_pos hle]
    rw [List.take_left' hl, List.drop_left' hl]
  have hv := val_be_blen n hn
  by_cases h0 : n = 0
  · have e : be (blen n) n = [] := by rw [h0, blen_zero]; rfl
    unfold takeU; rw [d1, e, h0]
  · obtain ⟨h1, h2⟩ := blen_ge n hn h0
    obtain ⟨k, hk⟩ : ∃ k, blen n = k + 1 := ⟨blen n - 1, by omega⟩
    have e : be (blen n) n = UInt8.ofNat (n / 256 ^ k % 256) :: be k n := by rw [hk, be_cons]
    unfold takeU
    rw [d1]
    have hne : (UInt8.ofNat (n / 256 ^ k % 256)).toNat ≠ 0 := by
      rw [byte_of]
      have hlt := blen_lt n hn
      rw [hk, Nat.pow_succ] at hlt
      have : n / 256 ^ k < 256 := Nat.div_lt_of_lt_mul hlt
      rw [Nat.mod_eq_of_lt this]
      have : 0 < n / 256 ^ k := by
        rw [hk] at h2
        exact Nat.div_pos h2 (Nat.pow_pos (by decide))
      omega
    rw [hv]
    rw [e]
    dsimp only
    rw [if_neg hne]

theorem takeI_enc (k : Int) (rest : List UInt8) (h1 : -9223372036854775808 ≤ k) (h2 : k ≤ 9223372036854775807) : takeI (enc (fold k) ++ rest, 0) = (k, (rest, 0)) := by
  unfold takeI
  rw [takeU_enc _ _ (fold_lt k h1 h2)]
  dsimp only
  rw [unfold_fold]

def encS (s : List UInt8) : List UInt8 := enc s.length ++ s

theorem takeS_enc (s rest : List UInt8) (hs : s.length ≤ 40) : takeS 40 (encS s ++ rest, 0) = (s, (rest, 0)) := by
  have e : takeN 40 (encS s ++ rest, 0) = (s.length, (s ++ rest, 0)) := by
    unfold takeN encS
    rw [List.append_assoc, takeU_enc _ _ (by omega)]
    dsimp only
    rw [if_pos (by omega)]
  unfold takeS
  rw [e]
  simp [take]

theorem enc_short (n : Nat) (h : n < 18446744073709551616) : (enc n).length ≤ 9 := by
  have := blen_le n h
  rw [enc_length]; omega

end Codec
/- What is read is written the same, and what is written is read the same: plain functions of an In. -/
namespace Go.Proofs.YteaiidcconggcaaDoor
open Go.RowKit
set_option linter.unusedVariables false
set_option maxRecDepth 100000

theorem takeN_most (m : Nat) (s : Codec.St) : (Codec.takeN (m : Int) s).1 ≤ m := by
  unfold Codec.takeN
  split
  · rename_i h
    have : (max (m : Int) 0).toNat = m := by omega
    rwa [this] at h
  · exact Nat.zero_le _
theorem takeI_bounds (s : Codec.St) : -9223372036854775808 ≤ (Codec.takeI s).1 ∧ (Codec.takeI s).1 ≤ 9223372036854775807 := Codec.unfold_bounds _ (Codec.takeU_lt s)
theorem takeU_stuck (e : Int) (he : e ≠ 0) : Codec.takeU ([], e) = (0, ([], e)) := by
  have hf : Codec.fail 1 ([], e) = ([], e) := by simp [Codec.fail, he]
  have h1 : Codec.take 1 ([], e) = ([], ([], e)) := by simp [Codec.take, hf]
  have h2 : Codec.size ([], e) = (0, ([], e)) := by unfold Codec.size; rw [h1]
  have h3 : Codec.digits ([], e) = ([], ([], e)) := by unfold Codec.digits; rw [h2]; simp [Codec.take]
  unfold Codec.takeU
  rw [h3]
theorem takeS_stuck {s : Codec.St} (hi : Inv s) (he : s.2 ≠ 0) (m : Int) : (Codec.takeS m s).2 = s := by
  obtain ⟨l, e⟩ := s
  have hl : l = [] := hi he
  subst hl
  have hu := takeU_stuck e he
  have hn : Codec.takeN m ([], e) = (0, ([], e)) := by
    unfold Codec.takeN
    rw [hu]
    simp
  unfold Codec.takeS
  rw [hn]
  simp [Codec.take]
theorem end_zero {s : Codec.St} (h : (Codec.endOf s).2 = 0) : s.2 = 0 := by
  unfold Codec.endOf at h
  split at h
  · unfold Codec.fail at h
    split at h
    · cases h
    · exact h
  · exact h
theorem fail_zero {c : Int} {s : Codec.St} (h : (Codec.fail c s).2 = 0) : s.2 = 0 := by
  unfold Codec.fail at h
  split at h
  · rename_i h1; exact h1.1
  · exact h
theorem take_zero {n : Nat} {s : Codec.St} (h : (Codec.take n s).2.2 = 0) : s.2 = 0 := by
  unfold Codec.take at h
  split at h
  · exact h
  · exact fail_zero h
theorem size_zero {s : Codec.St} (h : (Codec.size s).2.2 = 0) : s.2 = 0 := by
  unfold Codec.size at h
  split at h
  · exact take_zero h
  · split at h
    · exact take_zero (fail_zero h)
    · exact take_zero h
theorem takeU_zero {s : Codec.St} (h : (Codec.takeU s).2.2 = 0) : s.2 = 0 := by
  unfold Codec.takeU at h
  have hd : (Codec.digits s).2.2 = 0 → s.2 = 0 := fun h => by
    unfold Codec.digits at h
    exact size_zero (take_zero h)
  split at h
  · exact hd h
  · split at h
    · exact hd (fail_zero h)
    · exact hd h
theorem takeN_zero {m : Int} {s : Codec.St} (h : (Codec.takeN m s).2.2 = 0) : s.2 = 0 := by
  unfold Codec.takeN at h
  split at h
  · exact takeU_zero h
  · exact takeU_zero (fail_zero h)
theorem takeS_zero {m : Int} {s : Codec.St} (h : (Codec.takeS m s).2.2 = 0) : s.2 = 0 := by
  unfold Codec.takeS at h
  exact takeN_zero (take_zero h)
theorem fail_not {c : Int} {s : Codec.St} (hc : c ≠ 0) : (Codec.fail c s).2 ≠ 0 := by
  unfold Codec.fail
  by_cases h : s.2 = 0
  · rw [if_pos ⟨h, hc⟩]; exact hc
  · rw [if_neg (fun x => h x.1)]; exact h
theorem takeU_back {s : Codec.St} (h : (Codec.takeU s).2.2 = 0) : s.1 = Codec.enc (Codec.takeU s).1 ++ (Codec.takeU s).2.1 := by
  have h0 := takeU_zero h
  obtain ⟨l, e⟩ := s
  dsimp only at h0
  subst h0
  exact (Codec.takeU_one l).2 h
theorem takeN_back {m : Int} {s : Codec.St} (h : (Codec.takeN m s).2.2 = 0) : s.1 = Codec.enc (Codec.takeN m s).1 ++ (Codec.takeN m s).2.1 := by
  by_cases hm : (Codec.takeU s).1 ≤ (max m 0).toNat
  · have e : Codec.takeN m s = Codec.takeU s := by unfold Codec.takeN; rw [if_pos hm]
    rw [e] at h ⊢
    exact takeU_back h
  · have e : Codec.takeN m s = (0, Codec.fail 3 (Codec.takeU s).2) := by unfold Codec.takeN; rw [if_neg hm]
    rw [e] at h
    exact absurd h (fail_not (by decide))
theorem fold_unfold (n : Nat) : Codec.fold (Codec.unfold n) = n := by
  unfold Codec.unfold
  split
  · unfold Codec.fold
    rw [if_neg (by omega)]
    omega
  · unfold Codec.fold
    rw [if_pos (by omega)]
    omega
theorem takeI_back {s : Codec.St} (h : (Codec.takeI s).2.2 = 0) : s.1 = Codec.enc (Codec.fold (Codec.takeI s).1) ++ (Codec.takeI s).2.1 := by
  have e := takeU_back (s := s) h
  show s.1 = Codec.enc (Codec.fold (Codec.unfold (Codec.takeU s).1)) ++ (Codec.takeU s).2.1
  rw [fold_unfold]
  exact e
theorem takeS_back {m : Int} {s : Codec.St} (h : (Codec.takeS m s).2.2 = 0) : s.1 = Codec.encS (Codec.takeS m s).1 ++ (Codec.takeS m s).2.1 := by
  have hn : (Codec.takeN m s).2.2 = 0 := by unfold Codec.takeS at h; exact take_zero h
  have e := takeN_back hn
  unfold Codec.takeS at h ⊢
  generalize (Codec.takeN m s).1 = n at *
  generalize (Codec.takeN m s).2 = t at *
  by_cases hl : n ≤ t.1.length
  · have e2 : Codec.take n t = (t.1.take n, (t.1.drop n, t.2)) := by unfold Codec.take; rw [if_pos hl]
    rw [e2]
    unfold Codec.encS
    have e3 : (t.1.take n).length = n := by simp; omega
    dsimp only
    rw [e3, List.append_assoc, List.take_append_drop]
    exact e
  · have e2 : Codec.take n t = ([], Codec.fail 1 t) := by unfold Codec.take; rw [if_neg hl]
    rw [e2] at h
    exact absurd h (fail_not (by decide))
theorem takeI_zero {s : Codec.St} (h : (Codec.takeI s).2.2 = 0) : s.2 = 0 := by
  unfold Codec.takeI at h
  exact takeU_zero h
theorem end_none {s : Codec.St} (h : (Codec.endOf s).2 = 0) : s.1 = [] := by
  unfold Codec.endOf at h
  split at h
  · exact absurd h (fail_not (by decide))
  · rename_i h1
    exact List.eq_nil_of_length_eq_zero (by omega)
theorem takeN_enc' (m n : Nat) (rest : List UInt8) (hn : n ≤ m) (hm : m ≤ 1000) : Codec.takeN (m : Int) (Codec.enc n ++ rest, 0) = (n, (rest, 0)) := by
  unfold Codec.takeN
  rw [Codec.takeU_enc n rest (by omega)]
  dsimp only
  rw [if_pos (by omega)]
theorem takeS_enc' (m : Nat) (s rest : List UInt8) (hs : s.length ≤ m) (hm : m ≤ 1000) : Codec.takeS (m : Int) (Codec.encS s ++ rest, 0) = (s, (rest, 0)) := by
  have e : Codec.takeN (m : Int) (Codec.encS s ++ rest, 0) = (s.length, (s ++ rest, 0)) := by
    unfold Codec.encS
    rw [List.append_assoc]
    exact takeN_enc' m s.length (s ++ rest) hs hm
  unfold Codec.takeS
  rw [e]
  simp [Codec.take]
end Go.Proofs.YteaiidcconggcaaDoor
