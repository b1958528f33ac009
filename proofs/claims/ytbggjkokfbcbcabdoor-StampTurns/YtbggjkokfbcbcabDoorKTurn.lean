/- Bytes in cells that may be written. -/
import Derived.Test.YtbggjkokfbcbcabDoorKRef
import Derived.Test.YtbggjkokfbcbcabDoorKTurnMath
import Derived.RegionTactic
namespace Go.Proofs.YtbggjkokfbcbcabDoor
open Go.RowKit
set_option linter.unusedVariables false
set_option maxRecDepth 100000

/- Bytes in cells that may be written. -/
def Holds8 (w : World) (g : Nat) (l : List UInt8) : Prop :=
  ∀ j (h : j < l.length), w.cell? ⟨g, j, none⟩ = some (.int .u8 (l[j].toNat : Int)) ∧ w.frozen? ⟨g, j, none⟩ = false

theorem Holds8.set {w : World} {g : Nat} {l : List UInt8} (h : Holds8 w g l) (k : Nat) (v : UInt8) : Holds8 (w.setCell ⟨g, k, none⟩ (.int .u8 (v.toNat : Int))) g (l.set k v) := by
  intro j hj
  simp at hj
  obtain ⟨h1, h2⟩ := h j hj
  refine ⟨?_, by rw [World.frozen?_setCell]; exact h2⟩
  by_cases e : k = j
  · subst e
    rw [World.cell?_setCell_same _ _ _ h1]
    simp
  · have hne : (⟨g, k, none⟩ : Addr) ≠ ⟨g, j, none⟩ := fun h => e (by injection h)
    rw [World.cell?_setCell_other _ _ _ _ hne, h1]
    simp [e]

theorem Holds8.drew {w : World} {g : Nat} {l : List UInt8} (h : Holds8 w g l) : Holds8 w.drew g l := h

theorem holds8_new (w : World) (s : ByteArray) (cap : Nat) :
    Holds8 (w.alloc (.cells (bytesRow s cap) 5 ((bytesRow s cap).size, (bytesRow s cap).size + 1))) w.heap.size s.data.toList := by
  intro j hj
  have hj' : j < s.size := hj
  refine ⟨?_, ?_⟩
  · rw [bytes_cell w s cap _ j hj']; rfl
  · rw [World.frozen?_alloc_mark]
    have : (bytesRow s cap).size ≥ s.size := by
      unfold bytesRow
      rw [Array.size_append, Array.size_map]
      have : s.data.size = s.size := rfl
      omega
    have : decide ((bytesRow s cap).size ≤ j) = false := by simp; omega
    simp [this]

theorem xor_u8 (a b : UInt8) : bits .xor .u8 (a.toNat : Int) (b.toNat : Int) = ((a ^^^ b).toNat : Int) := by
  rw [u8_xor_nat a.toNat b.toNat a.toNat_lt b.toNat_lt, UInt8.toNat_xor]

theorem plain_add' (b off i : Nat) : (⟨b, off, none⟩ : Addr).add i = ⟨b, off + i, none⟩ := by unfold Addr.add; split <;> simp_all

/- What holds at the head of a round of Turn. -/
structure TurnAt (w wr : World) (s : ByteArray) (t k : Nat) (l : List UInt8) (q : Nat) : Prop where
  holds : Holds8 wr w.heap.size l
  below : Below w.heap.size w wr
  len : l.length = s.size
  lt : q < 2 ^ k
  num : Crc.num l = Crc.num s.data.toList ^^^ 2 ^ t * q

theorem TurnAt.skip {w wr : World} {s : ByteArray} {t k q : Nat} {l : List UInt8} (h : TurnAt w wr s t k l q) : TurnAt w wr s t (k + 1) l q :=
  ⟨h.holds, h.below, h.len, Nat.lt_of_lt_of_le h.lt (Nat.pow_le_pow_right (by decide) (by omega)), h.num⟩

theorem TurnAt.turn {w wr : World} {s : ByteArray} {t k q x : Nat} {l : List UInt8} (h : TurnAt w wr s t k l q) (hj : (t + k) / 8 < l.length) (hx : x = 2 ^ ((t + k) % 8)) :
    TurnAt w (wr.setCell ⟨w.heap.size, (t + k) / 8, none⟩ (.int .u8 (bits .xor .u8 (l[(t + k) / 8].toNat : Int) (x : Int)))) s t (k + 1) (l.set ((t + k) / 8) (l[(t + k) / 8] ^^^ UInt8.ofNat x)) (q ^^^ 2 ^ k) := by
  have hx7 : x ≤ 2 ^ 7 := by rw [hx]; exact Nat.pow_le_pow_right (by decide) (by omega)
  have hx256 : (UInt8.ofNat x).toNat = x := by rw [UInt8.toNat_ofNat']; omega
  have hs := h.holds.set ((t + k) / 8) (l[(t + k) / 8] ^^^ UInt8.ofNat x)
  rw [UInt8.toNat_xor, hx256] at hs
  rw [u8_xor_nat _ x (UInt8.toNat_lt _) (by omega)]
  refine ⟨hs, h.below.setCell (Nat.le_refl _) _, by rw [List.length_set]; exact h.len, ?_, ?_⟩
  · refine Nat.xor_lt_two_pow (Nat.lt_of_lt_of_le h.lt (Nat.pow_le_pow_right (by decide) (by omega))) (Nat.pow_lt_pow_right (by decide) (by omega))
  · rw [Crc.num_set l _ hj, hx256, hx, ← Nat.pow_add, show 8 * ((t + k) / 8) + (t + k) % 8 = t + k by omega, h.num, Crc.mul_xor, ← Nat.pow_add, Nat.xor_assoc]

set_option maxHeartbeats 400000 in
theorem turn_any (s : ByteArray) (t b : Nat) (w : World) (hs : s.size ≤ 100) (ht : t < 8 * s.size) (hb : b < 4294967296) :
    Calls Tryd.prog 9 #[.string s, .int .i64 t, .int .u32 b] w fun e w' => ∃ (l : List UInt8) (q : Nat), e = .returned (.string ⟨l.toArray⟩) ∧ Below w.heap.size w w' ∧
      l.length = s.size ∧ q < 4294967296 ∧ Crc.num l = Crc.num s.data.toList ^^^ 2 ^ t * q := by
  have kc := fun (wx : World) => run_bytes_of_string (P := Tryd.prog) wx 9 48 5 s under9 under37 under5
  go_enter Tryd.func9, Tryd.ntmps9
  go_wp2
  clear kc
  go_loopw [2, 8] (fun bv i wr => ∃ (k c q : Nat) (l : List UInt8), k ≤ 32 ∧ c < 4294967296 ∧ bv = .int .u32 c ∧ i = .int .i64 k ∧ TurnAt w wr s t k l q) (fun _ i _ => 32 - (intOf i).toNat)
  case atStart =>
    refine ⟨0, b, 0, s.data.toList, by omega, hb, rfl, rfl, ⟨(holds8_new w s _).drew, ((Below.refl _ _).alloc (Nat.le_refl _) _).drew, rfl, by decide, by simp⟩⟩
  case round =>
    obtain ⟨k, c, q, l, hk, hc, rfl, rfl, hT⟩ := hrel
    have HT := hide hT
    clear hT
    by_cases hlt : k < 32
    · by_cases ho : c % 2 = 1
      · have ht1 : ((c : Int) % 2 == 1) = true := by rw [beq_iff_eq]; omega
        by_cases hin : t + k < 8 * s.size
        · have d1 : decide ((k : Int) < 32) = true := by simp; omega
          have d2 : decide ((t : Int) + (k : Int) < 8 * (s.size : Int)) = true := by simp; omega
          have hrr : (t + k) % 8 < 8 := Nat.mod_lt _ (by decide)
          go_wp2
          go_loop [9, 10] (fun x j => ∃ jj : Nat, jj ≤ (t + k) % 8 ∧ j = .int .i64 jj ∧ x = .int .i64 (2 ^ jj : Nat)) (fun _ j => (t + k) % 8 - (intOf j).toNat)
          case atStart => exact ⟨0, by omega, rfl, rfl⟩
          case round =>
            obtain ⟨jj, hjj, rfl, rfl⟩ := hrel
            have hp : 2 ^ jj ≤ 2 ^ 7 := Nat.pow_le_pow_right (by decide) (by omega)
            have HP2 := hide (show 2 ^ (jj + 1) = 2 ^ jj * 2 from Nat.pow_succ 2 jj)
            by_cases hjl : jj < (t + k) % 8
            · generalize 2 ^ jj = x at *
              go_wp2
              exact ⟨⟨jj + 1, by omega, by go_num, by rw [unhide HP2]; go_num⟩, by simp [intOf]; omega⟩
            · have hjj : jj = (t + k) % 8 := by omega
              clear HP2
              generalize hX : 2 ^ jj = x at *
              have HX := hide hX
              have HJ := hide hjj
              clear hX hjj
              have hlen : (t + k) / 8 < l.length := by rw [(unhide HT).len]; omega
              obtain ⟨hcell, hfr⟩ := (unhide HT).holds ((t + k) / 8) hlen
              have HTN := hide ((unhide HT).turn hlen (x := x) (by rw [← unhide HJ]; exact (unhide HX).symm))
              generalize l[(t + k) / 8] = v at *
              go_wp2
              exact ⟨⟨k + 1, c / 2, _, _, by omega, by omega, by go_num, by go_num, unhide HTN⟩, by simp [intOf]; omega⟩
        · go_wp2
          exact ⟨⟨k + 1, c / 2, _, _, by omega, by omega, by go_num, by go_num, (unhide HT).skip⟩, by simp [intOf]; omega⟩
      · have ht1 : ((c : Int) % 2 == 1) = false := by rw [beq_eq_false_iff_ne]; omega
        go_wp2
        exact ⟨⟨k + 1, c / 2, _, _, by omega, by omega, by go_num, by go_num, (unhide HT).skip⟩, by simp [intOf]; omega⟩
    · have : k = 32 := by omega
      subst this
      have kb := run_convert_bytes_back (P := Tryd.prog) wr 48 9 5 ⟨w.heap.size, 0, none⟩ (grownCap w s.size 0 5) l under37 under5 under9 (fun j hj => by rw [plain_add', Nat.zero_add]; exact ((unhide HT).holds j hj).1)
      rw [(unhide HT).len] at kb
      go_wp2
      go_ret
      exact ⟨l, q, rfl, (unhide HT).below, (unhide HT).len, (unhide HT).lt, (unhide HT).num⟩
end Go.Proofs.YtbggjkokfbcbcabDoor
