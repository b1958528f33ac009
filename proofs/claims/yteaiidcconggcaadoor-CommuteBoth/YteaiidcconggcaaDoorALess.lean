/- Texts that are held against each other, as bytes. -/
import Derived.Test.YteaiidcconggcaaDoorBundleC2
import Derived.Test.YteaiidcconggcaaDoorBundleC3
namespace Go.Proofs.YteaiidcconggcaaDoor
set_option linter.unusedVariables false
set_option maxRecDepth 100000

theorem S_lt (a b : List UInt8) : Op.bytesLess (S a).toList (S b).toList = Codec.lt a b := by rw [S_list, S_list]; rfl
theorem S_le (a b : List UInt8) : (Op.bytesLess (S a).toList (S b).toList || (S a).toList == (S b).toList) = !Codec.lt b a := by
  rw [S_lt, S_list, S_list]
  cases h1 : Codec.lt a b
  · cases h2 : Codec.lt b a
    · have := Codec.lt_total a b h1 h2
      subst this
      simp
    · simp
      intro e
      subst e
      rw [h1] at h2
      exact absurd h2 (by decide)
  · rw [Codec.lt_asym a b h1]
    simp
theorem S_gt (a b : List UInt8) : (!(Op.bytesLess (S a).toList (S b).toList || (S a).toList == (S b).toList)) = Codec.lt b a := by rw [S_le]; simp
theorem S_eq (a b : List UInt8) : ((S a).toList == (S b).toList) = decide (a = b) := by
  rw [S_list, S_list]
  by_cases h : a = b
  · subst h; simp
  · rw [decide_eq_false h]
    simpa using h
end Go.Proofs.YteaiidcconggcaaDoor
