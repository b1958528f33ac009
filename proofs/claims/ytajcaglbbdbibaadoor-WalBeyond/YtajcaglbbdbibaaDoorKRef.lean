/- The contracts of Cut and of the reference's sum: the reference's sum is the same plain function. -/
import Derived.Test.YtajcaglbbdbibaaDoorKOf
import Derived.Laws.BytesArg
namespace Go.Proofs.YtajcaglbbdbibaaDoor
open Go.RowKit
set_option linter.unusedVariables false
set_option maxRecDepth 100000

/- A round of the reference: the number and the byte, each halved. -/
theorem ref_step (n c : Nat) : ((if (n + c) % 2 = 1 then n / 2 ^^^ Crc.poly else n / 2) ^^^ c / 2) = Crc.step (n ^^^ c) := by
  have hm := Crc.xor_mod_two n c
  have hd := Crc.xor_div_two n c
  by_cases h : (n + c) % 2 = 1
  · rw [if_pos h, Crc.step_odd (by omega), hd, Nat.xor_assoc, Nat.xor_assoc, Nat.xor_comm Crc.poly]
  · rw [if_neg h, Crc.step_even (by omega), hd]

theorem four_back (w : World) (a b c d : Int) :
    (convert 58 9 (.slice (some ⟨w.heap.size, 0, none⟩) 4 4)).run Tryd.prog (w.alloc (.cells #[.int .u8 a, .int .u8 b, .int .u8 c, .int .u8 d] 5)) =
      .ok (.string (strOfNums [a, b, c, d])) (w.alloc (.cells #[.int .u8 a, .int .u8 b, .int .u8 c, .int .u8 d] 5)) := by
  refine run_convert_bytes_arg _ 58 5 under37 under5 w.heap.size 0 4 4 [a, b, c, d] rfl ?_ 9 under9
  intro i hi
  obtain rfl | rfl | rfl | rfl : i = 0 ∨ i = 1 ∨ i = 2 ∨ i = 3 := by omega
  all_goals simp

def four (n : Nat) : ByteArray := strOfNums [(n : Int) % 256, (n : Int) / 256 % 256, (n : Int) / 65536 % 256, (n : Int) / 16777216]

set_option maxHeartbeats 400000 in
theorem bytes_any (n : Nat) (w : World) (hn : n < 4294967296) :
    Calls Tryd.prog 49 #[.int .u32 n] w fun e w' => e = .returned (.string (four n)) ∧ Below w.heap.size w w' := by
  have kc := four_back w ((n : Int) % 256) ((n : Int) / 256 % 256) ((n : Int) / 65536 % 256) ((n : Int) / 16777216)
  go_enter Tryd.func49, Tryd.ntmps49
  go_wp2
  go_ret
  exact ⟨rfl, Below.alloc (Below.refl _ _) (Nat.le_refl _) _⟩

end Go.Proofs.YtajcaglbbdbibaaDoor
