/- The contracts of a sector's Check and Text, and of the reference's. -/
import Derived.Test.YtajcaglbbdbibaaDoorCPuts
import Derived.Test.YtajcaglbbdbibaaDoorKRef
import Derived.Test.YtajcaglbbdbibaaDoorSMath
import Derived.Test.YtajcaglbbdbibaaDoorSShelf
import Derived.Laws.Rows
namespace Go.Proofs.YtajcaglbbdbibaaDoor
open Go.RowKit
set_option linter.unusedVariables false
set_option maxRecDepth 100000

def SV (s : Codec.Sec) : Value := .agg #[.int .i64 (s.stamp : Int), .int .u8 (s.mark : Int), .string (S s.data)]
def RV (s : Codec.Sec) : Value := .agg #[.int .i64 (s.stamp : Int), .int .i64 (s.mark : Int), .string (S s.data)]
def chk (st : Int) (d : List UInt8) : Int := if st < 1 ∨ 1099511627776 < st then 18 else if 44 < d.length then 3 else 0

theorem check_any (st mk : Int) (d : List UInt8) (w : World) :
    Calls Tryd.prog 41 #[.agg #[.int .i64 st, .int .u8 mk, .string (S d)]] w fun e w' => e = .returned (.int .i64 (chk st d)) ∧ Below w.heap.size w w' := by
  have hsz : (S d).size = d.length := rfl
  go_enter Tryd.func41, Tryd.ntmps41
  go_wp2_with fail
  all_goals
    go_ret
    refine ⟨ret_int ?_, (Below.refl _ _).alloc (Nat.le_refl _) _⟩
    unfold chk
    first
      | rw [if_pos (by omega)]
      | rw [if_neg (by omega), if_pos (by omega)]
      | rw [if_neg (by omega), if_neg (by omega)]
theorem four_list (n : Nat) (h : n < 4294967296) : four n = S (Codec.four n) := by
  unfold four Codec.four strOfNums S
  congr 1
  have h1 : ((n : Int) % 256).toNat = n % 256 := by omega
  have h2 : ((n : Int) / 256 % 256).toNat = n / 256 % 256 := by omega
  have h3 : ((n : Int) / 65536 % 256).toNat = n / 65536 % 256 := by omega
  have h4 : ((n : Int) / 16777216).toNat = n / 16777216 % 256 := by omega
  simp only [List.map_cons, List.map_nil, h1, h2, h3, h4]
/- The sum's bytes of one text, as stamp asks for them. -/
theorem sum_any (l : List UInt8) (w : World) (hl : l.length ≤ 1099511627776) :
    Calls Tryd.prog 50 #[.slice (some ⟨w.heap.size, 0, none⟩) 1 1] (w.alloc (.cells #[.string (S l)] 9)) fun e w' => e = .returned (.int .u32 (Crc.crc l : Nat)) ∧ Below w.heap.size w w' :=
  of_one (S l) w (by unfold maxLen; show l.length ≤ _; omega)
theorem four_any (l : List UInt8) (w : World) :
    Calls Tryd.prog 49 #[.int .u32 (Crc.crc l : Nat)] w fun e w' => e = .returned (.string (S (Codec.sumOf l))) ∧ Below w.heap.size w w' := by
  have := bytes_any (Crc.crc l) w (Crc.crc_lt l)
  rw [four_list _ (Crc.crc_lt l)] at this
  exact this
end Go.Proofs.YtajcaglbbdbibaaDoor
