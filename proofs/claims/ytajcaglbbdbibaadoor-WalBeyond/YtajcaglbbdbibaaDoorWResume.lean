/- The contracts of wipe and Resume. -/
import Derived.Test.YtajcaglbbdbibaaDoorWScan2
import Derived.Test.YtajcaglbbdbibaaDoorWRow
namespace Go.Proofs.YtajcaglbbdbibaaDoor
open Go.RowKit
set_option linter.unusedVariables false
set_option maxRecDepth 100000

def Dev.wipes (fr ln : Nat) : Nat → Nat → Dev → Dev × Int
  | 0, _, d => (d.flush, d.flushE)
  | n + 1, a, d => if d.writeE ((place fr ln a : Nat) : Int) [] ≠ 0 then (d.write ((place fr ln a : Nat) : Int) [], d.writeE ((place fr ln a : Nat) : Int) []) else Dev.wipes fr ln n (a + 1) (d.write ((place fr ln a : Nat) : Int) [])

/- What Resume leaves: the device, its error. -/
def Dev.resumes (fr ln x : Nat) (d : Dev) : Dev × Int := Dev.wipes fr ln (x + ln - (Codec.scan (view d fr ln) ln x false [] x).2) (Codec.scan (view d fr ln) ln x false [] x).2 d
theorem scan_end {g : Nat → Option Codec.Sec} : ∀ n a o t f, f ≤ a → f ≤ (Codec.scan g n a o t f).2 ∧ (Codec.scan g n a o t f).2 ≤ a + n
  | 0, a, o, t, f, h => ⟨Nat.le_refl _, h⟩
  | n + 1, a, o, t, f, h => by
    cases e : g a with
    | none => rw [Codec.scan_none e]; exact ⟨Nat.le_refl _, by show f ≤ _; omega⟩
    | some x =>
      by_cases hf : Codec.fits x a o
      · by_cases hm : x.mark < 2
        · rw [Codec.scan_open e hf hm]
          have := scan_end (g := g) n (a + 1) true (t ++ x.data) f (by omega)
          exact ⟨this.1, by omega⟩
        · rw [Codec.scan_whole e hf hm]
          have := scan_end (g := g) n (a + 1) false [] (a + 1) (Nat.le_refl _)
          exact ⟨by show f ≤ (Codec.scan g n (a + 1) false [] (a + 1)).2; omega, by show (Codec.scan g n (a + 1) false [] (a + 1)).2 ≤ _; omega⟩
      · rw [Codec.scan_not e hf]; exact ⟨Nat.le_refl _, by show f ≤ _; omega⟩

end Go.Proofs.YtajcaglbbdbibaaDoor
