/- Small facts on 32 bits as the walk spells them, and the contract of crc's eight steps: the Go function answers what the plain function does. -/
import Derived.Test.YtajcaglbbdbibaaDoorCBase
import Derived.Test.YtajcaglbbdbibaaDoorKMath
import Derived.WalkKit
import Derived.WalkSpells
import Derived.WalkLawsBesides
import Derived.Laws.BitsAllLaws
namespace Go.Proofs.YtajcaglbbdbibaaDoor
open Go.RowKit
set_option linter.unusedVariables false
set_option maxRecDepth 100000


theorem and_one (m : Nat) (h : m < 4294967296) : bits .and .u32 (m : Int) 1 = ((m % 2 : Nat) : Int) := by
  have := u32_and_nat m 1 h (by omega)
  rw [Nat.and_one_is_mod] at this
  exact this

theorem xor_poly (m : Nat) (h : m < 4294967296) : bits .xor .u32 (m : Int) 3988292384 = ((m ^^^ Crc.poly : Nat) : Int) :=
  u32_xor_nat m Crc.poly h Crc.poly_lt

set_option maxHeartbeats 400000 in
theorem eight_any (n : Nat) (w : World) (hn : n < 4294967296) :
    Calls Tryd.prog 82 #[.int .u32 n] w fun e w' => e = .returned (.int .u32 (Crc.steps 8 n : Nat)) ∧ w' = w := by
  go_enter Tryd.func82, Tryd.ntmps82
  go_wp2
  go_loop [0, 4] (fun x i => ∃ k : Nat, k ≤ 8 ∧ i = .int .i64 k ∧ x = .int .u32 (Crc.steps k n : Nat)) (fun _ i => 8 - (intOf i).toNat)
  case atStart => exact ⟨0, Nat.zero_le _, rfl, rfl⟩
  case round =>
    obtain ⟨k, hk, rfl, rfl⟩ := hrel
    have hm := Crc.steps_lt k hn
    by_cases hlt : k < 8
    · generalize hmm : Crc.steps k n = m at *
      have HM : Hid (Crc.steps k n = m) := hmm
      clear hmm
      have h1 := and_one m hm
      have hd : m / 2 < 4294967296 := by omega
      have h2 : bits .xor .u32 ((m : Int) / 2) 3988292384 = ((m / 2 ^^^ Crc.poly : Nat) : Int) := xor_poly (m / 2) hd
      have hs := Crc.steps_succ k n
      rw [HM.out] at hs
      rcases Nat.mod_two_eq_zero_or_one m with ho | ho
      · rw [ho] at h1
        rw [Crc.step_even ho] at hs
        have HS := hide hs
        clear hs ho
        go_wp2
        exact ⟨⟨k + 1, by omega, by go_num, by rw [unhide HS]; go_num⟩, by simp [intOf]; omega⟩
      · rw [ho] at h1
        rw [Crc.step_odd ho] at hs
        have HS := hide hs
        clear hs ho
        go_wp2
        exact ⟨⟨k + 1, by omega, by go_num, by rw [unhide HS]⟩, by simp [intOf]; omega⟩
    · have : k = 8 := by omega
      subst this
      go_wp2
      go_ret
      exact ⟨rfl, rfl⟩
end Go.Proofs.YtajcaglbbdbibaaDoor
