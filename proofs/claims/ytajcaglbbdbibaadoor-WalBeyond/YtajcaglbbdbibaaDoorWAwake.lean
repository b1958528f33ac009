/- The answers that the log's statements ask for first. -/
import Derived.Test.YtajcaglbbdbibaaDoorWAppend2
import Derived.Test.YtajcaglbbdbibaaDoorWDevMath
namespace Go.Proofs.YtajcaglbbdbibaaDoor
open Go.RowKit
set_option linter.unusedVariables false
set_option maxRecDepth 100000

def Z100 : List UInt8 := List.replicate 100 0
theorem Z100_length : Z100.length = 100 := List.length_replicate
def D7 : Dev := { Dev.new 24 with W := wlist 1 10 Z100 7 3 0, calls := 3 }
theorem awake_dev : Dev.puts 1 10 Z100 7 (Codec.cost Z100.length) 0 (Dev.new 24) = (D7, 0) := by
  rw [show Codec.cost Z100.length = 3 by rw [Z100_length]; rfl, puts_on 1 10 Z100 7 (by omega) 3 0 (Dev.new 24) rfl rfl (by simp [Dev.new]) (by omega)]
  simp [Dev.new, D7]
theorem awake_cur : D7.cur 8 = Codec.secText (Codec.sec Z100 7 0) := by
  unfold Dev.cur D7
  simp only [wlist, place]
  rfl
theorem awake_read : D7.read 8 = Codec.secText (Codec.sec Z100 7 0) ∧ D7.readE 8 = 0 := by
  have hno : ¬ D7.no 8 := by unfold Dev.no D7; simp [Dev.new]
  unfold Dev.read Dev.readE
  rw [if_neg hno, if_neg hno, if_neg (by unfold D7; simp [Dev.new]), if_neg (by unfold D7; simp [Dev.new])]
  exact ⟨awake_cur, rfl⟩
theorem awake_parse : Codec.parse (D7.read 8) = (Codec.sec Z100 7 0, 0) := by
  rw [awake_read.1]
  exact Codec.parse_text _ (Codec.sec_ok Z100 7 0 (by omega)) (Codec.piece_length _ _) (by show 1 ≤ 7 + 0; omega)
end Go.Proofs.YtajcaglbbdbibaaDoor
