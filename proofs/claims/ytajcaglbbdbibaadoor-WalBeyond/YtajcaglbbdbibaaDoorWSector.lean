/- The contract of a record's sector. -/
import Derived.Test.YtajcaglbbdbibaaDoorWCalls
namespace Go.Proofs.YtajcaglbbdbibaaDoor
open Go.RowKit
set_option linter.unusedVariables false
set_option maxRecDepth 100000

def RC (r : Codec.Rec) : Value := .agg #[.int .i64 (r.first : Int), .int .i64 (r.last : Int), .string (S r.text)]
theorem S_cut (l : List UInt8) (a b : Nat) : (S l).extract a b = S ((l.drop a).take (b - a)) := by
  apply ByteArray.ext
  apply Array.ext'
  simp [S]
theorem S_piece (s : List UInt8) (j : Nat) (h : 44 * j ≤ s.length) : (S s).extract (44 * j) (min (44 * j + 44) s.length) = S (Codec.piece s j) := by
  rw [S_cut]
  unfold Codec.piece
  congr 1
  by_cases h1 : 44 * j + 44 ≤ s.length
  · rw [Nat.min_eq_left h1, show 44 * j + 44 - 44 * j = 44 by omega]
  · rw [Nat.min_eq_right (by omega), List.take_of_length_le (by rw [List.length_drop]; exact Nat.le_refl _), List.take_of_length_le (by rw [List.length_drop]; omega)]

set_option maxHeartbeats 1600000 in
theorem sector_any (s : List UInt8) (x j : Nat) (w : World) (hj : j < Codec.cost s.length) (hx : x ≤ 1099511627776) (hs : s.length ≤ 1099511627776) :
    Calls Tryd.prog 28 #[.agg #[.int .i64 (x : Int), .int .i64 ((x + Codec.cost s.length - 1 : Nat) : Int), .string (S s)], .int .i64 ((x + j : Nat) : Int)] w fun e w' => e = .returned (SV (Codec.sec s x j)) ∧ Below w.heap.size w w' := by
  have hlow : 44 * j ≤ s.length := by
    by_cases h : 1 < Codec.cost s.length
    · have := Codec.cost_low s.length h; omega
    · omega
  have hbig : Codec.cost s.length ≤ s.length + 1 := Codec.cost_le _ _ (by omega) (by omega)
  have hsz : (S s).size = s.length := rfl
  have hcut := S_piece s j hlow
  have hmk : Codec.mk s j = (if j = 0 then 1 else 0) + (if j + 1 = Codec.cost s.length then 2 else 0) := rfl
  unfold SV Codec.sec
  dsimp only
  generalize Codec.piece s j = p at *
  generalize Codec.mk s j = m at *
  generalize Codec.cost s.length = c at *
  obtain ⟨q, hq⟩ : ∃ q, x + c - 1 = q := ⟨_, rfl⟩
  obtain ⟨a, ha⟩ : ∃ a, x + j = a := ⟨_, rfl⟩
  obtain ⟨n, hn⟩ : ∃ n, s.length = n := ⟨_, rfl⟩
  rw [hq, ha]
  rw [hn] at hcut hlow hbig hs hsz
  obtain ⟨y, hy⟩ : ∃ y, 44 * j = y := ⟨_, rfl⟩
  rw [hy] at hcut hlow
  have HMK := hide hmk
  have hX : (S s).extract y (min ((y : Int) + 44) (n : Int)).toNat = S p := by
    rw [← hcut, show (min ((y : Int) + 44) (n : Int)).toNat = min (y + 44) n by omega]
  have HX := hide hX
  have o1 : bits BinOp.or IntKind.u8 0 1 = 1 := rfl
  have o2 : bits BinOp.or IntKind.u8 0 2 = 2 := rfl
  have o3 : bits BinOp.or IntKind.u8 1 2 = 3 := rfl
  clear hX hcut hn hmk
  by_cases h1 : j = 0
  · subst h1
    have hax : a = x := by omega
    have hy0 : y = 0 := by omega
    rw [if_pos rfl] at HMK
    subst hax hy0
    obtain ⟨z, hz⟩ : ∃ z : Nat, min (44 : Int) (n : Int) = (z : Int) := ⟨(min (44 : Int) (n : Int)).toNat, by omega⟩
    have HX0 : Hid ((S s).extract 0 z = S p) := by
      have := unhide HX
      rw [show ((0 : Nat) : Int) + 44 = 44 from rfl, hz, Int.toNat_natCast] at this
      exact this
    have hz2 : (z : Int) ≤ (n : Int) := by omega
    by_cases h2 : 0 + 1 = c
    · rw [if_pos h2] at HMK
      have hqx : q = a := by omega
      subst hqx
      clear h2 hq ha hj hlow hy
      go_enter Tryd.func28, Tryd.ntmps28
      go_wp2_with fail
      rw [unhide HMK, ← unhide HX0]
      exact bodyPost_ret (v := .agg #[.int .i64 (q : Int), .int .u8 3, .string ((S s).extract 0 z)]) (by simp [results, Tryd.results28, go_sem]) rfl ⟨rfl, (((Below.refl _ _).alloc (Nat.le_refl _) _).alloc (by simp) _).alloc (by simp; omega) _⟩
    · rw [if_neg h2] at HMK
      have hne : ¬ (a : Int) = (q : Int) := by omega
      clear h2 hq ha hj hlow hy
      go_enter Tryd.func28, Tryd.ntmps28
      go_wp2_with fail
      rw [unhide HMK, ← unhide HX0]
      exact bodyPost_ret (v := .agg #[.int .i64 (a : Int), .int .u8 1, .string ((S s).extract 0 z)]) (by simp [results, Tryd.results28, go_sem]) rfl ⟨rfl, (((Below.refl _ _).alloc (Nat.le_refl _) _).alloc (by simp) _).alloc (by simp; omega) _⟩
  · rw [if_neg h1] at HMK
    have hne1 : ¬ (a : Int) = (x : Int) := by omega
    have e1 : wrap64 ((a : Int) - (x : Int)) = (j : Int) := by unfold wrap64; omega
    have e2 : wrap64 ((j : Int) * 44) = (y : Int) := by unfold wrap64; omega
    have e3 : wrap64 ((y : Int) + 44) = (y : Int) + 44 := by unfold wrap64; omega
    obtain ⟨z, hz⟩ : ∃ z : Nat, min ((y : Int) + 44) (n : Int) = (z : Int) := ⟨(min ((y : Int) + 44) (n : Int)).toNat, by omega⟩
    rw [hz, Int.toNat_natCast] at HX
    have hz1 : (y : Int) ≤ (z : Int) := by omega
    have hz2 : (z : Int) ≤ (n : Int) := by omega
    by_cases h2 : j + 1 = c
    · rw [if_pos h2] at HMK
      have hqx : q = a := by omega
      subst hqx
      clear h2 hq ha hj hlow h1 hbig hy
      go_enter Tryd.func28, Tryd.ntmps28
      go_wp2_with fail
      rw [unhide HMK, ← unhide HX]
      exact bodyPost_ret (v := .agg #[.int .i64 (q : Int), .int .u8 2, .string ((S s).extract y z)]) (by simp [results, Tryd.results28, go_sem]) rfl ⟨rfl, (((Below.refl _ _).alloc (Nat.le_refl _) _).alloc (by simp) _).alloc (by simp; omega) _⟩
    · rw [if_neg h2] at HMK
      have hne : ¬ (a : Int) = (q : Int) := by omega
      clear h2 hq ha hj hlow h1 hbig hy
      go_enter Tryd.func28, Tryd.ntmps28
      go_wp2_with fail
      rw [unhide HMK, ← unhide HX]
      exact bodyPost_ret (v := .agg #[.int .i64 (a : Int), .int .u8 0, .string ((S s).extract y z)]) (by simp [results, Tryd.results28, go_sem]) rfl ⟨rfl, (((Below.refl _ _).alloc (Nat.le_refl _) _).alloc (by simp) _).alloc (by simp; omega) _⟩
end Go.Proofs.YtajcaglbbdbibaaDoor
