/- The contract of the reference's Xor: two texts of one length, byte by byte. -/
import Derived.Test.YtphcbnbpbgmplaaRef
import Derived.Test.YtphcbnbpbgmplaaXorMath
import Derived.RegionTactic
namespace Go.Proofs.Ytphcbnbpbgmplaa
open Go.RowKit
set_option linter.unusedVariables false

/- Bytes in cells that may be written. -/
def Holds8 (w : World) (g : Nat) (l : List UInt8) : Prop :=
  ∀ j (h : j < l.length), w.cell? ⟨g, j, none⟩ = some (.int .u8 (l[j].toNat : Int)) ∧ w.frozen? ⟨g, j, none⟩ = false

theorem Holds8.set {w : World} {g : Nat} {l : List UInt8} (h : Holds8 w g l) (k : Nat) (v : UInt8) : Holds8 (w.setCell ⟨g, k, none⟩ (.int .u8 (v.toNat : Int))) g (l.set k v) := by
  intro j hj
  simp at hj
  obtain ⟨h1, h2⟩ := h j hj
  refine ⟨?_, by rw [World.frozen?_setCell]; exact h2⟩
  by_cases e : k = j
  · subst e
    rw [World.cell?_setCell_same _ _ _ h1]
    simp
  · have hne : (⟨g, k, none⟩ : Addr) ≠ ⟨g, j, none⟩ := fun h => e (by injection h)
    rw [World.cell?_setCell_other _ _ _ _ hne, h1]
    simp [e]

theorem Holds8.drew {w : World} {g : Nat} {l : List UInt8} (h : Holds8 w g l) : Holds8 w.drew g l := h

theorem holds8_new (w : World) (s : ByteArray) (cap : Nat) :
    Holds8 (w.alloc (.cells (bytesRow s cap) 5 ((bytesRow s cap).size, (bytesRow s cap).size + 1))) w.heap.size s.data.toList := by
  intro j hj
  have hj' : j < s.size := hj
  refine ⟨?_, ?_⟩
  · rw [bytes_cell w s cap _ j hj']; rfl
  · rw [World.frozen?_alloc_mark]
    have : (bytesRow s cap).size ≥ s.size := by
      unfold bytesRow
      rw [Array.size_append, Array.size_map]
      have : s.data.size = s.size := rfl
      omega
    have : decide ((bytesRow s cap).size ≤ j) = false := by simp; omega
    simp [this]

theorem xor_u8 (a b : UInt8) : bits .xor .u8 (a.toNat : Int) (b.toNat : Int) = ((a ^^^ b).toNat : Int) := by
  rw [u8_xor_nat a.toNat b.toNat a.toNat_lt b.toNat_lt, UInt8.toNat_xor]

theorem plain_add' (b off i : Nat) : (⟨b, off, none⟩ : Addr).add i = ⟨b, off + i, none⟩ := by unfold Addr.add; split <;> simp_all

theorem xor_round {a b : ByteArray} {l : List UInt8} {k : Nat} (hab : Hid (b.size = a.size))
    (hlx : Hid (∀ j (h1 : j < l.length) (h2 : j < a.size) (h3 : j < b.size), l[j] = if j < k then a[j] ^^^ b[j] else a[j])) (hll : Hid (l.length = a.size)) (hlt : k < a.size) :
    (l.set k (a[k] ^^^ b[k]'(by rw [hab.out]; exact hlt))).length = a.size ∧
      (∀ j (h1 : j < (l.set k (a[k] ^^^ b[k]'(by rw [hab.out]; exact hlt))).length) (h2 : j < a.size) (h3 : j < b.size), (l.set k (a[k] ^^^ b[k]'(by rw [hab.out]; exact hlt)))[j] = if j < k + 1 then a[j] ^^^ b[j] else a[j]) := by
  refine ⟨by rw [List.length_set]; exact hll.out, ?_⟩
  intro j h1 h2 h3
  rw [List.getElem_set]
  by_cases e : k = j
  · subst e; simp
  · rw [if_neg e, hlx.out j (by simpa using h1) h2 h3]
    by_cases h : j < k
    · rw [if_pos h, if_pos (by omega)]
    · rw [if_neg h, if_neg (by omega)]

theorem xor_end {a b : ByteArray} {l : List UInt8} (hab : Hid (b.size = a.size))
    (hlx : Hid (∀ j (h1 : j < l.length) (h2 : j < a.size) (h3 : j < b.size), l[j] = if j < a.size then a[j] ^^^ b[j] else a[j])) (hll : Hid (l.length = a.size)) :
    l = Crc.xorL a.data.toList b.data.toList := by
  have h0 : b.size = a.size := hab.out
  have ha : a.data.toList.length = a.size := rfl
  have hb : b.data.toList.length = b.size := rfl
  apply List.ext_getElem
  · rw [Crc.xorL_length _ _ (by omega), hll.out]; exact ha.symm
  · intro j h1 h2
    have hj : j < a.size := by rw [← hll.out]; exact h1
    rw [hlx.out j h1 hj (by omega), if_pos hj]
    simp only [Crc.xorL, List.getElem_zipWith]
    rfl

set_option maxHeartbeats 400000 in
theorem xor_any (a b : ByteArray) (w : World) (hs : a.size ≤ maxLen) (hab : b.size = a.size) :
    Calls Try.prog 18 #[.string a, .string b] w fun e w' => e = .returned (.string ⟨(Crc.xorL a.data.toList b.data.toList).toArray⟩) ∧ Below w.heap.size w w' := by
  unfold maxLen at hs
  have kc := fun (wx : World) => run_bytes_of_string (P := Try.prog) wx 9 37 5 a under9 under37 under5
  have HAB := hide hab
  have hbs : b.size ≤ 9223372036854775807 := by omega
  clear hab
  go_enter Try.func18, Try.ntmps18
  go_wp2
  go_loopw [6] (fun i wr => ∃ (k : Nat) (l : List UInt8), k ≤ a.size ∧ i = .int .i64 k ∧ Holds8 wr w.heap.size l ∧ Below w.heap.size w wr ∧ l.length = a.size ∧
      (∀ j (h1 : j < l.length) (h2 : j < a.size) (h3 : j < b.size), l[j] = if j < k then a[j] ^^^ b[j] else a[j])) (fun i _ => a.size - (intOf i).toNat)
  case atStart => 
    refine ⟨0, a.data.toList, by omega, rfl, (holds8_new w a _).drew, ((Below.refl _ _).alloc (Nat.le_refl _) _).drew, rfl, ?_⟩
    intro j h1 h2 h3
    simp
    rfl
  case round =>
    obtain ⟨k, l, hk, rfl, hh, hbw, hll, hlx⟩ := hrel
    have HH := hide hh
    have HLX := hide hlx
    have HLL := hide hll
    clear hh hlx hll
    by_cases hlt : k < a.size
    · have hlb : k < b.size := by rw [unhide HAB]; exact hlt
      have hlk : k < l.length := by rw [unhide HLL]; exact hlt
      obtain ⟨hc, hf⟩ := unhide HH k hlk
      have hlv : l[k] = a[k] := by rw [unhide HLX k hlk hlt hlb, if_neg (by omega)]
      rw [hlv] at hc
      have hset := (unhide HH).set k (a[k] ^^^ b[k])
      rw [UInt8.toNat_xor] at hset
      have HSET := hide hset
      clear hset hlv
      have hx := xor_u8 a[k] b[k]
      go_wp2
      go_region
      have R := xor_round HAB HLX HLL hlt
      go_wp2
      go_roundw
      case rel => exact ⟨k + 1, _, by omega, by go_num, (unhide HSET).drew, (hbw.setCell (Nat.le_refl _) _).drew, R.1, R.2⟩
      case measure => simp [intOf]; omega
    · have : k = a.size := by omega
      subst this
      have hl : l = Crc.xorL a.data.toList b.data.toList := xor_end HAB HLX HLL
      subst hl
      have kb := run_convert_bytes_back (P := Try.prog) wr 37 9 5 ⟨w.heap.size, 0, none⟩ (grownCap w a.size 0 5) _ under37 under5 under9 (fun j hj => by rw [plain_add', Nat.zero_add]; exact (unhide HH j hj).1)
      rw [unhide HLL] at kb
      go_wp2
      go_ret
      exact ⟨rfl, hbw⟩
end Go.Proofs.Ytphcbnbpbgmplaa
