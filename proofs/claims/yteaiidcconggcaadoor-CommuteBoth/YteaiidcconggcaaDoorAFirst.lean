/- The first of numbers that isn't 0. -/
import Derived.Test.YteaiidcconggcaaDoorBundleC1
namespace Go.Proofs.YteaiidcconggcaaDoor
set_option linter.unusedVariables false
set_option maxRecDepth 100000

/- The first of numbers that isn't 0. -/
def first (f : Nat → Int) : Nat → Int
  | 0 => 0
  | m + 1 => if first f m ≠ 0 then first f m else f m
theorem first_next {f : Nat → Int} {k : Nat} (h : first f k = 0) (hk : f k = 0) : first f (k + 1) = 0 := by
  unfold first
  rw [if_neg (by simpa using h)]
  exact hk
theorem first_stop {f : Nat → Int} {k m : Nat} (h : first f k = 0) (hk : f k ≠ 0) (hm : k < m) : first f m = f k := by
  induction m with
  | zero => omega
  | succ m ih =>
    unfold first
    by_cases e : k = m
    · subst e
      rw [if_neg (by simpa using h)]
    · rw [ih (by omega), if_pos hk]
theorem first_zero {f : Nat → Int} {m : Nat} (h : ∀ k, k < m → f k = 0) : first f m = 0 := by
  induction m with
  | zero => rfl
  | succ m ih => exact first_next (ih fun k hk => h k (by omega)) (h m (by omega))
theorem first_all {f : Nat → Int} {m : Nat} (h : first f m = 0) : ∀ k, k < m → f k = 0 := by
  induction m with
  | zero => intro k hk; omega
  | succ m ih =>
    unfold first at h
    split at h
    · rename_i hne; exact absurd h hne
    · rename_i hz
      intro k hk
      by_cases e : k = m
      · subst e; exact h
      · exact ih (by simpa using hz) k (by omega)
theorem first_congr {f g : Nat → Int} {m : Nat} (h : ∀ k, k < m → f k = g k) : first f m = first g m := by
  induction m with
  | zero => rfl
  | succ m ih =>
    unfold first
    rw [ih fun k hk => h k (by omega), h m (by omega)]
end Go.Proofs.YteaiidcconggcaaDoor
