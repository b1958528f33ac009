/- Plain mathematics: texts in their order: one of three, and on from one to the next. -/
import Derived.Test.YteaiidcconggcaaDoorBundleC3
namespace Codec
open Go

theorem ltt_trans (a b c : List UInt8) (h1 : lt a b = true) (h2 : lt b c = true) : lt a c = true := by
  induction a generalizing b c with
  | nil =>
    cases c with
    | nil => rw [lt_any_nil] at h2; exact absurd h2 (by decide)
    | cons z c => rfl
  | cons x a ih =>
    cases b with
    | nil => rw [lt_any_nil] at h1; exact absurd h1 (by decide)
    | cons y b =>
      cases c with
      | nil => rw [lt_any_nil] at h2; exact absurd h2 (by decide)
      | cons z c =>
        rcases u8_tri x y with hxy | hxy | hxy
        · rcases u8_tri y z with hyz | hyz | hyz
          · exact lt_less _ _ _ _ ((u8_lt _ _).2 (by have := (u8_lt _ _).1 hxy; have := (u8_lt _ _).1 hyz; omega))
          · subst hyz; exact lt_less _ _ _ _ hxy
          · rw [lt_more y z b c hyz] at h2; exact absurd h2 (by decide)
        · subst hxy
          rw [lt_same] at h1
          rcases u8_tri x z with hyz | hyz | hyz
          · exact lt_less _ _ _ _ hyz
          · subst hyz
            rw [lt_same] at h2 ⊢
            exact ih b c h1 h2
          · rw [lt_more x z b c hyz] at h2; exact absurd h2 (by decide)
        · rw [lt_more x y a b hxy] at h1; exact absurd h1 (by decide)
theorem ltt_or (a b : List UInt8) : lt a b = true ∨ a = b ∨ lt b a = true := by
  cases h1 : lt a b
  · cases h2 : lt b a
    · exact Or.inr (Or.inl (lt_total a b h1 h2))
    · exact Or.inr (Or.inr rfl)
  · exact Or.inl rfl
end Codec
