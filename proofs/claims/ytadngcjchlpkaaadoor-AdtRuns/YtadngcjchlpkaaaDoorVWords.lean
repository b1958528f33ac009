/- The types' words: Word, Kind, New. -/
import Derived.Test.YtadngcjchlpkaaaDoorVBase
import Derived.Test.YtadngcjchlpkaaaDoorALess
namespace Go.Proofs.YtadngcjchlpkaaaDoor
open Go.RowKit
set_option linter.unusedVariables false
set_option maxRecDepth 100000

def words : List (List UInt8) := [[], [114, 101, 103, 105, 115, 116, 101, 114], [99, 111, 117, 110, 116, 101, 114], [97, 99, 99, 111, 117, 110, 116], [115, 101, 116], [100, 105, 114, 101, 99, 116, 111, 114, 121], [113, 117, 101, 117, 101], [115, 101, 109, 105, 113, 117, 101, 117, 101]]
/- The program's table lies in its block. -/
def WD (w : World) : Prop := ∀ k, (h : k < words.length) → w.cell? ⟨0, k, none⟩ = some (.string (S (words[k]'h)))
theorem WD.pos {w : World} (h : WD w) : 0 < w.heap.size := cell_lt (h 0 (by decide))
theorem WD.later {w w' : World} (h : WD w) (hb : Below w.heap.size w w') : WD w' := fun k hk => by
  rw [hb.cell (p := ⟨0, k, none⟩) h.pos]; exact h k hk

def wordOf (kind : Int) : List UInt8 := if kind < 0 ∨ 8 ≤ kind then [] else words.getD kind.toNat []

theorem word_any {w : World} (hw : WD w) (kind : Int) : Calls Tryd.prog 55 #[.int .i64 kind] w fun e w' => e = .returned (.string (S (wordOf kind))) ∧ w' = w := by
  unfold wordOf
  by_cases h0 : kind < 0
  · rw [if_pos (Or.inl h0)]
    go_enter Tryd.func55, Tryd.ntmps55
    go_wp2
    go_ret
    exact ⟨rfl, rfl⟩
  by_cases h8 : 8 ≤ kind
  · rw [if_pos (Or.inr h8)]
    go_enter Tryd.func55, Tryd.ntmps55
    go_wp2
    go_ret
    exact ⟨rfl, rfl⟩
  rw [if_neg (by omega)]
  obtain ⟨k, rfl⟩ : ∃ k : Nat, kind = (k : Int) := ⟨kind.toNat, by omega⟩
  rw [Int.toNat_natCast]
  have hk : k < words.length := by show k < 8; omega
  have hc := hw k hk
  have hg : words.getD k [] = words[k]'hk := by simp [List.getD, hk]
  rw [hg]
  generalize words[k]'hk = x at *
  have hk0 : (0 : Int) ≤ (k : Int) := by omega
  have hk8 : (k : Int) < 8 := by omega
  clear hg hw hk
  go_enter Tryd.func55, Tryd.ntmps55
  go_wp2
  go_ret
  exact ⟨rfl, rfl⟩

def kindFrom : Nat → List (List UInt8) → List UInt8 → Int
  | _, [], _ => 0
  | k, x :: r, y => if x = y then (k : Int) else kindFrom (k + 1) r y
def kindOf (y : List UInt8) : Int := kindFrom 0 words y
theorem kindFrom_step (k : Nat) (hk : k < words.length) (y : List UInt8) : kindFrom k (words.drop k) y = if words[k]'hk = y then (k : Int) else kindFrom (k + 1) (words.drop (k + 1)) y := by
  rw [List.drop_eq_getElem_cons hk]; rfl

end Go.Proofs.YtadngcjchlpkaaaDoor
