/- The contract of a Sum's Add and Value: the sum's cell holds behind the call what the plain function says; all other memory that was there is as it was. -/
import Derived.Test.YtajcaglbbdbibaaDoorKBits
import Derived.Laws.IdiomStrings
namespace Go.Proofs.YtajcaglbbdbibaaDoor
open Go.RowKit
set_option linter.unusedVariables false
set_option maxRecDepth 100000

theorem under9 : Tryd.prog.underlying 9 = some .string := by kernel_rfl
theorem under37 : Tryd.prog.underlying 58 = some (.slice 5) := by kernel_rfl
theorem under5 : Tryd.prog.underlying 5 = some (.int .u8) := by kernel_rfl

theorem not_u32 (n : Nat) (h : n < 4294967296) : bits .xor .u32 IntKind.u32.max (n : Int) = ((Crc.ones - n : Nat) : Int) := by
  have := u32_xor_nat 4294967295 n (by omega) h
  rw [show (4294967295 : Nat) ^^^ n = Crc.ones - n from Crc.ones_sub h] at this
  exact this

theorem xor_byte (n : Nat) (b : UInt8) (h : n < 4294967296) : bits .xor .u32 (n : Int) ((b.toNat : Int) % 4294967296) = ((n ^^^ b.toNat : Nat) : Int) := by
  have h2 := b.toNat_lt
  rw [show ((b.toNat : Int) % 4294967296) = (b.toNat : Int) from by omega]
  exact u32_xor_nat n b.toNat h (by omega)

theorem take_snoc (s : ByteArray) (k : Nat) (h : k < s.size) : s.data.toList.take (k + 1) = s.data.toList.take k ++ [s[k]] := by
  rw [List.take_succ_eq_append_getElem (by simpa using h)]; rfl

theorem feed_snoc (n : Nat) (s : ByteArray) (k : Nat) (h : k < s.size) : Crc.feed n (s.data.toList.take (k + 1)) = Crc.steps 8 (Crc.feed n (s.data.toList.take k) ^^^ s[k].toNat) := by
  rw [take_snoc s k h, Crc.feed_append]; rfl

theorem bytes_cell (w : World) (s : ByteArray) (cap : Nat) (m : Nat × Nat) (k : Nat) (h : k < s.size) :
    (w.alloc (.cells (bytesRow s cap) 5 m)).cell? ⟨w.heap.size, k, none⟩ = some (.int .u8 (s[k].toNat : Int)) := by
  rw [World.cell?_alloc_mark, bytesRow_at s cap k h]; rfl

set_option maxHeartbeats 400000 in
theorem add_any (s : ByteArray) (b v : Nat) (w : World) (hs : s.size ≤ maxLen) (hb : b < w.heap.size) (hv : v < 4294967296)
    (hc : w.cell? ⟨b, 0, none⟩ = some (.int .u32 v)) (hf : w.frozen? ⟨b, 0, none⟩ = false) :
    Calls Tryd.prog 63 #[.pointer (some ⟨b, 0, none⟩), .string s] w fun e w' => e = .returned (.tuple #[]) ∧
      Below w.heap.size (w.setCell ⟨b, 0, none⟩ (.int .u32 (Crc.ones - Crc.feed (Crc.ones - v) s.data.toList : Nat))) w' := by
  unfold maxLen at hs
  have h1 := not_u32 v hv
  have kc := fun (wx : World) => run_bytes_of_string (P := Tryd.prog) wx 9 58 5 s under9 under37 under5
  have hov : Crc.ones - v < 4294967296 := by unfold Crc.ones; omega
  generalize hV : Crc.ones - v = V at *
  have HV := hide hV
  clear hV
  go_enter Tryd.func63, Tryd.ntmps63
  go_wp2
  clear kc
  go_loop [4, 15] (fun n i => ∃ k : Nat, k ≤ s.size ∧ i = .int .i64 k ∧ n = .int .u32 (Crc.feed V (s.data.toList.take k) : Nat)) (fun _ i => s.size - (intOf i).toNat)
  case atStart => exact ⟨0, Nat.zero_le _, rfl, rfl⟩
  case round =>
    obtain ⟨k, hk, rfl, rfl⟩ := hrel
    have hm := Crc.feed_lt (s.data.toList.take k) hov
    by_cases hlt : k < s.size
    · have HS := hide (feed_snoc V s k hlt)
      have hcell := bytes_cell w s (grownCap w s.size 0 5) ((bytesRow s (grownCap w s.size 0 5)).size, (bytesRow s (grownCap w s.size 0 5)).size + 1) k hlt
      generalize Crc.feed V (s.data.toList.take k) = m at *
      have hx := xor_byte m s[k] hm
      have hxl : m ^^^ s[k].toNat < 4294967296 := Crc.xor_lt hm (by have := s[k].toNat_lt; omega)
      go_wp2_with (go_at_call 82; refine (eight_any _ _ hxl).mono ?_; rintro e w' ⟨rfl, rfl⟩)
      exact ⟨⟨k + 1, by omega, by go_num, by rw [unhide HS]⟩, by simp [intOf]; omega⟩
    · have : k = s.size := by omega
      subst this
      have e : s.data.toList.take s.size = s.data.toList := List.take_of_length_le (by simp)
      rw [e] at hm ⊢
      generalize hM : Crc.feed V s.data.toList = m at *
      have HM := hide hM
      clear hM
      have h2 := not_u32 m hm
      go_wp2
      go_end0
      rw [unhide HM]
      refine ⟨rfl, Below.drew (Below.alloc (Below.refl _ _) ?_ _)⟩
      simp

set_option maxHeartbeats 400000 in
theorem value_any (b v : Nat) (w : World) (hc : w.cell? ⟨b, 0, none⟩ = some (.int .u32 v)) :
    Calls Tryd.prog 64 #[.pointer (some ⟨b, 0, none⟩)] w fun e w' => e = .returned (.int .u32 v) ∧ w' = w := by
  go_enter Tryd.func64, Tryd.ntmps64
  go_wp2
  go_ret
  exact ⟨rfl, rfl⟩

/- The sum's cell in a world: where it is, that it may be written. -/
structure SumAt (w : World) (b v : Nat) : Prop where
  lt : b < w.heap.size
  cell : w.cell? ⟨b, 0, none⟩ = some (.int .u32 v)
  frozen : w.frozen? ⟨b, 0, none⟩ = false

theorem SumAt.put {w w' : World} {b v : Nat} (x : Nat) (h : SumAt w b v) (hb : Below w.heap.size (w.setCell ⟨b, 0, none⟩ (.int .u32 x)) w') : SumAt w' b x := by
  refine ⟨?_, ?_, ?_⟩
  · have := hb.size; have := h.lt; simp at *; omega
  · rw [hb.cell (p := ⟨b, 0, none⟩) h.lt, World.cell?_setCell_same _ _ _ h.cell]
  · rw [hb.frozen (p := ⟨b, 0, none⟩) h.lt, World.frozen?_setCell, h.frozen]
end Go.Proofs.YtajcaglbbdbibaaDoor
