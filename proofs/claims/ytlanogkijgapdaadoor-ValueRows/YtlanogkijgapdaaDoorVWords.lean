/- The types' words: Word, Kind, New. -/
import Derived.Test.YtlanogkijgapdaaDoorVBase
import Derived.Test.YtlanogkijgapdaaDoorALess
namespace Go.Proofs.YtlanogkijgapdaaDoor
open Go.RowKit
set_option linter.unusedVariables false
set_option maxRecDepth 100000

def words : List (List UInt8) := [[], [114, 101, 103, 105, 115, 116, 101, 114], [99, 111, 117, 110, 116, 101, 114], [97, 99, 99, 111, 117, 110, 116], [115, 101, 116], [100, 105, 114, 101, 99, 116, 111, 114, 121], [113, 117, 101, 117, 101], [115, 101, 109, 105, 113, 117, 101, 117, 101]]
/- The program's table lies in its block. -/
def WD (w : World) : Prop := ∀ k, (h : k < words.length) → w.cell? ⟨0, k, none⟩ = some (.string (S (words[k]'h)))
theorem WD.pos {w : World} (h : WD w) : 0 < w.heap.size := cell_lt (h 0 (by decide))
theorem WD.later {w w' : World} (h : WD w) (hb : Below w.heap.size w w') : WD w' := fun k hk => by
  rw [hb.cell (p := ⟨0, k, none⟩) h.pos]; exact h k hk

def wordOf (kind : Int) : List UInt8 := if kind < 0 ∨ 8 ≤ kind then [] else words.getD kind.toNat []

theorem word_any {w : World} (hw : WD w) (kind : Int) : Calls Tryd.prog 30 #[.int .i64 kind] w fun e w' => e = .returned (.string (S (wordOf kind))) ∧ w' = w := by
  unfold wordOf
  by_cases h0 : kind < 0
  · rw [if_pos (Or.inl h0)]
    go_enter Tryd.func30, Tryd.ntmps30
    go_wp2
    go_ret
    exact ⟨rfl, rfl⟩
  by_cases h8 : 8 ≤ kind
  · rw [if_pos (Or.inr h8)]
    go_enter Tryd.func30, Tryd.ntmps30
    go_wp2
    go_ret
    exact ⟨rfl, rfl⟩
  rw [if_neg (by omega)]
  obtain ⟨k, rfl⟩ : ∃ k : Nat, kind = (k : Int) := ⟨kind.toNat, by omega⟩
  rw [Int.toNat_natCast]
  have hk : k < words.length := by show k < 8; omega
  have hc := hw k hk
  have hg : words.getD k [] = words[k]'hk := by simp [List.getD, hk]
  rw [hg]
  generalize words[k]'hk = x at *
  have hk0 : (0 : Int) ≤ (k : Int) := by omega
  have hk8 : (k : Int) < 8 := by omega
  clear hg hw hk
  go_enter Tryd.func30, Tryd.ntmps30
  go_wp2
  go_ret
  exact ⟨rfl, rfl⟩

def kindFrom : Nat → List (List UInt8) → List UInt8 → Int
  | _, [], _ => 0
  | k, x :: r, y => if x = y then (k : Int) else kindFrom (k + 1) r y
def kindOf (y : List UInt8) : Int := kindFrom 0 words y
theorem kindFrom_step (k : Nat) (hk : k < words.length) (y : List UInt8) : kindFrom k (words.drop k) y = if words[k]'hk = y then (k : Int) else kindFrom (k + 1) (words.drop (k + 1)) y := by
  rw [List.drop_eq_getElem_cons hk]; rfl

set_option maxHeartbeats 3200000 in
theorem kind_any {w : World} (hw : WD w) (y : List UInt8) : Calls Tryd.prog 31 #[.string (S y)] w fun e w' => e = .returned (.int .i64 (kindOf y)) ∧ w' = w := by
  have c0 := hw 0 (by decide)
  have c1 := hw 1 (by decide)
  have c2 := hw 2 (by decide)
  have c3 := hw 3 (by decide)
  have c4 := hw 4 (by decide)
  have c5 := hw 5 (by decide)
  have c6 := hw 6 (by decide)
  have c7 := hw 7 (by decide)
  have HST := hide (fun (k : Nat) (hk : k < words.length) => kindFrom_step k hk y)
  have HEQ := hide (fun (a : List UInt8) => S_eq a y)
  have HK : Hid (kindOf y = kindFrom 0 (words.drop 0) y) := rfl
  have HE : Hid (kindFrom 8 (words.drop 8) y = 0) := rfl
  obtain ⟨R, hR⟩ : ∃ R, kindOf y = R := ⟨_, rfl⟩
  rw [hR] at HK ⊢
  clear hw hR
  obtain ⟨x0, e0⟩ : ∃ x, words[0]'(by decide) = x := ⟨_, rfl⟩
  obtain ⟨x1, e1⟩ : ∃ x, words[1]'(by decide) = x := ⟨_, rfl⟩
  obtain ⟨x2, e2⟩ : ∃ x, words[2]'(by decide) = x := ⟨_, rfl⟩
  obtain ⟨x3, e3⟩ : ∃ x, words[3]'(by decide) = x := ⟨_, rfl⟩
  obtain ⟨x4, e4⟩ : ∃ x, words[4]'(by decide) = x := ⟨_, rfl⟩
  obtain ⟨x5, e5⟩ : ∃ x, words[5]'(by decide) = x := ⟨_, rfl⟩
  obtain ⟨x6, e6⟩ : ∃ x, words[6]'(by decide) = x := ⟨_, rfl⟩
  obtain ⟨x7, e7⟩ : ∃ x, words[7]'(by decide) = x := ⟨_, rfl⟩
  rw [e0] at c0
  rw [e1] at c1
  rw [e2] at c2
  rw [e3] at c3
  rw [e4] at c4
  rw [e5] at c5
  rw [e6] at c6
  rw [e7] at c7
  have HE0 := hide e0
  have HE1 := hide e1
  have HE2 := hide e2
  have HE3 := hide e3
  have HE4 := hide e4
  have HE5 := hide e5
  have HE6 := hide e6
  have HE7 := hide e7
  clear e0 e1 e2 e3 e4 e5 e6 e7
  go_enter Tryd.func31, Tryd.ntmps31
  go_wp2_with fail
  clear c0 c1 c2 c3 c4 c5 c6 c7
  go_loopw [6] (fun i wr => ∃ k : Nat, k ≤ 8 ∧ i = .int .i64 k ∧ R = kindFrom k (words.drop k) y ∧ wr = w) (fun i _ => 8 - (intOf i).toNat)
  case atStart => exact ⟨0, Nat.zero_le _, rfl, unhide HK, rfl⟩
  case round =>
    obtain ⟨k, hk, rfl, hRk, hww⟩ := hrel
    have hww' := hww.symm
    subst hww'
    clear hww HK
    by_cases hk8 : k = 8
    · subst hk8
      rw [unhide HE] at hRk
      subst hRk
      go_wp2_with fail
      go_ret
      exact ⟨rfl, rfl⟩
    have hkl : k < words.length := by show k < 8; omega
    have hst := unhide HST k hkl
    rw [hst] at hRk
    have HRK := hide hRk
    have HQ := hide (unhide HEQ (words[k]'hkl))
    clear hst hRk HST HEQ HE
    have hk7 : k = 0 ∨ k = 1 ∨ k = 2 ∨ k = 3 ∨ k = 4 ∨ k = 5 ∨ k = 6 ∨ k = 7 := by omega
    rcases hk7 with rfl | rfl | rfl | rfl | rfl | rfl | rfl | rfl
    · rw [unhide HE0] at HQ HRK
      have hq := unhide HQ
      have hix : ∀ w, (Instr.index 91 (.agg #[.string (S x0), .string (S x1), .string (S x2), .string (S x3), .string (S x4), .string (S x5), .string (S x6), .string (S x7)]) (.int .i64 0)).run Tryd.prog w = .ok (.string (S x0)) w := fun _ => by kernel_rfl
      clear HE0 HE1 HE2 HE3 HE4 HE5 HE6 HE7 HQ
      by_cases hxy : x0 = y
      · rw [decide_eq_true hxy] at hq
        rw [if_pos hxy] at HRK
        have hR := unhide HRK
        subst hR
        clear hxy HRK
        go_wp2_with fail
        go_ret
        exact ⟨rfl, rfl⟩
      · rw [decide_eq_false hxy] at hq
        rw [if_neg hxy] at HRK
        clear hxy
        go_wp2_with fail
        go_roundw
        case rel => exact ⟨1, by omega, by go_num, unhide HRK, by trivial⟩
        case measure => simp [intOf]
    · rw [unhide HE1] at HQ HRK
      have hq := unhide HQ
      have hix : ∀ w, (Instr.index 91 (.agg #[.string (S x0), .string (S x1), .string (S x2), .string (S x3), .string (S x4), .string (S x5), .string (S x6), .string (S x7)]) (.int .i64 1)).run Tryd.prog w = .ok (.string (S x1)) w := fun _ => by kernel_rfl
      clear HE0 HE1 HE2 HE3 HE4 HE5 HE6 HE7 HQ
      by_cases hxy : x1 = y
      · rw [decide_eq_true hxy] at hq
        rw [if_pos hxy] at HRK
        have hR := unhide HRK
        subst hR
        clear hxy HRK
        go_wp2_with fail
        go_ret
        exact ⟨rfl, rfl⟩
      · rw [decide_eq_false hxy] at hq
        rw [if_neg hxy] at HRK
        clear hxy
        go_wp2_with fail
        go_roundw
        case rel => exact ⟨2, by omega, by go_num, unhide HRK, by trivial⟩
        case measure => simp [intOf]
    · rw [unhide HE2] at HQ HRK
      have hq := unhide HQ
      have hix : ∀ w, (Instr.index 91 (.agg #[.string (S x0), .string (S x1), .string (S x2), .string (S x3), .string (S x4), .string (S x5), .string (S x6), .string (S x7)]) (.int .i64 2)).run Tryd.prog w = .ok (.string (S x2)) w := fun _ => by kernel_rfl
      clear HE0 HE1 HE2 HE3 HE4 HE5 HE6 HE7 HQ
      by_cases hxy : x2 = y
      · rw [decide_eq_true hxy] at hq
        rw [if_pos hxy] at HRK
        have hR := unhide HRK
        subst hR
        clear hxy HRK
        go_wp2_with fail
        go_ret
        exact ⟨rfl, rfl⟩
      · rw [decide_eq_false hxy] at hq
        rw [if_neg hxy] at HRK
        clear hxy
        go_wp2_with fail
        go_roundw
        case rel => exact ⟨3, by omega, by go_num, unhide HRK, by trivial⟩
        case measure => simp [intOf]
    · rw [unhide HE3] at HQ HRK
      have hq := unhide HQ
      have hix : ∀ w, (Instr.index 91 (.agg #[.string (S x0), .string (S x1), .string (S x2), .string (S x3), .string (S x4), .string (S x5), .string (S x6), .string (S x7)]) (.int .i64 3)).run Tryd.prog w = .ok (.string (S x3)) w := fun _ => by kernel_rfl
      clear HE0 HE1 HE2 HE3 HE4 HE5 HE6 HE7 HQ
      by_cases hxy : x3 = y
      · rw [decide_eq_true hxy] at hq
        rw [if_pos hxy] at HRK
        have hR := unhide HRK
        subst hR
        clear hxy HRK
        go_wp2_with fail
        go_ret
        exact ⟨rfl, rfl⟩
      · rw [decide_eq_false hxy] at hq
        rw [if_neg hxy] at HRK
        clear hxy
        go_wp2_with fail
        go_roundw
        case rel => exact ⟨4, by omega, by go_num, unhide HRK, by trivial⟩
        case measure => simp [intOf]
    · rw [unhide HE4] at HQ HRK
      have hq := unhide HQ
      have hix : ∀ w, (Instr.index 91 (.agg #[.string (S x0), .string (S x1), .string (S x2), .string (S x3), .string (S x4), .string (S x5), .string (S x6), .string (S x7)]) (.int .i64 4)).run Tryd.prog w = .ok (.string (S x4)) w := fun _ => by kernel_rfl
      clear HE0 HE1 HE2 HE3 HE4 HE5 HE6 HE7 HQ
      by_cases hxy : x4 = y
      · rw [decide_eq_true hxy] at hq
        rw [if_pos hxy] at HRK
        have hR := unhide HRK
        subst hR
        clear hxy HRK
        go_wp2_with fail
        go_ret
        exact ⟨rfl, rfl⟩
      · rw [decide_eq_false hxy] at hq
        rw [if_neg hxy] at HRK
        clear hxy
        go_wp2_with fail
        go_roundw
        case rel => exact ⟨5, by omega, by go_num, unhide HRK, by trivial⟩
        case measure => simp [intOf]
    · rw [unhide HE5] at HQ HRK
      have hq := unhide HQ
      have hix : ∀ w, (Instr.index 91 (.agg #[.string (S x0), .string (S x1), .string (S x2), .string (S x3), .string (S x4), .string (S x5), .string (S x6), .string (S x7)]) (.int .i64 5)).run Tryd.prog w = .ok (.string (S x5)) w := fun _ => by kernel_rfl
      clear HE0 HE1 HE2 HE3 HE4 HE5 HE6 HE7 HQ
      by_cases hxy : x5 = y
      · rw [decide_eq_true hxy] at hq
        rw [if_pos hxy] at HRK
        have hR := unhide HRK
        subst hR
        clear hxy HRK
        go_wp2_with fail
        go_ret
        exact ⟨rfl, rfl⟩
      · rw [decide_eq_false hxy] at hq
        rw [if_neg hxy] at HRK
        clear hxy
        go_wp2_with fail
        go_roundw
        case rel => exact ⟨6, by omega, by go_num, unhide HRK, by trivial⟩
        case measure => simp [intOf]
    · rw [unhide HE6] at HQ HRK
      have hq := unhide HQ
      have hix : ∀ w, (Instr.index 91 (.agg #[.string (S x0), .string (S x1), .string (S x2), .string (S x3), .string (S x4), .string (S x5), .string (S x6), .string (S x7)]) (.int .i64 6)).run Tryd.prog w = .ok (.string (S x6)) w := fun _ => by kernel_rfl
      clear HE0 HE1 HE2 HE3 HE4 HE5 HE6 HE7 HQ
      by_cases hxy : x6 = y
      · rw [decide_eq_true hxy] at hq
        rw [if_pos hxy] at HRK
        have hR := unhide HRK
        subst hR
        clear hxy HRK
        go_wp2_with fail
        go_ret
        exact ⟨rfl, rfl⟩
      · rw [decide_eq_false hxy] at hq
        rw [if_neg hxy] at HRK
        clear hxy
        go_wp2_with fail
        go_roundw
        case rel => exact ⟨7, by omega, by go_num, unhide HRK, by trivial⟩
        case measure => simp [intOf]
    · rw [unhide HE7] at HQ HRK
      have hq := unhide HQ
      have hix : ∀ w, (Instr.index 91 (.agg #[.string (S x0), .string (S x1), .string (S x2), .string (S x3), .string (S x4), .string (S x5), .string (S x6), .string (S x7)]) (.int .i64 7)).run Tryd.prog w = .ok (.string (S x7)) w := fun _ => by kernel_rfl
      clear HE0 HE1 HE2 HE3 HE4 HE5 HE6 HE7 HQ
      by_cases hxy : x7 = y
      · rw [decide_eq_true hxy] at hq
        rw [if_pos hxy] at HRK
        have hR := unhide HRK
        subst hR
        clear hxy HRK
        go_wp2_with fail
        go_ret
        exact ⟨rfl, rfl⟩
      · rw [decide_eq_false hxy] at hq
        rw [if_neg hxy] at HRK
        clear hxy
        go_wp2_with fail
        go_roundw
        case rel => exact ⟨8, by omega, by go_num, unhide HRK, by trivial⟩
        case measure => simp [intOf]
end Go.Proofs.YtlanogkijgapdaaDoor
