/- The contract of crc.Of: the sum of all texts' bytes, one behind the other; nothing that was there has turned. -/
import Derived.Test.YtajcaglbbdbibaaDoorKAdd
namespace Go.Proofs.YtajcaglbbdbibaaDoor
open Go.RowKit
set_option linter.unusedVariables false
set_option maxRecDepth 100000

def kflat (l : List ByteArray) : List UInt8 := l.flatMap fun s => s.data.toList

theorem kflat_snoc (l : List ByteArray) (k : Nat) (h : k < l.length) : kflat (l.take (k + 1)) = kflat (l.take k) ++ l[k].data.toList := by
  rw [List.take_succ_eq_append_getElem h]; unfold kflat; rw [List.flatMap_append]; congr 1; simp

theorem crc_snoc (l : List ByteArray) (k : Nat) (h : k < l.length) :
    Crc.ones - Crc.feed (Crc.ones - Crc.crc (kflat (l.take k))) l[k].data.toList = Crc.crc (kflat (l.take (k + 1))) := by
  rw [kflat_snoc l k h]
  have h1 := Crc.feed_lt (n := Crc.ones) (kflat (l.take k)) (by unfold Crc.ones; omega)
  unfold Crc.crc
  rw [Crc.feed_append]
  congr 2
  unfold Crc.ones at *
  omega

set_option maxHeartbeats 400000 in
theorem of_some (l : List ByteArray) (sb so cap : Nat) (w : World) (hl : l.length ≤ maxLen) (hz : ∀ i (h : i < l.length), l[i].size ≤ maxLen)
    (hb : sb < w.heap.size) (hc : ∀ i (h : i < l.length), w.cell? ⟨sb, so + i, none⟩ = some (.string l[i])) :
    Calls Tryd.prog 50 #[.slice (some ⟨sb, so, none⟩) l.length cap] w fun e w' => e = .returned (.int .u32 (Crc.crc (kflat l) : Nat)) ∧ Below w.heap.size w w' := by
  have HC := hide hc
  have HZ := hide hz
  clear hc hz
  unfold maxLen at hl
  go_enter Tryd.func50, Tryd.ntmps50
  go_wp2
  go_loopw [10] (fun i wr => ∃ k : Nat, k ≤ l.length ∧ i = .int .i64 k ∧ Below w.heap.size w wr ∧ SumAt wr w.heap.size (Crc.crc (kflat (l.take k)))) (fun i _ => l.length - (intOf i).toNat)
  case atStart =>
    refine ⟨0, Nat.zero_le _, rfl, Below.alloc (Below.refl _ _) (Nat.le_refl _) _, ⟨by simp, ?_, ?_⟩⟩
    · simp [kflat, Crc.crc, Crc.feed]
    · simp
  case round =>
    obtain ⟨k, hk, rfl, hbw, hsum⟩ := hrel
    by_cases hlt : k < l.length
    · have hck := unhide HC k hlt
      rw [← hbw.cell (p := ⟨sb, so + k, none⟩) hb] at hck
      have HS := hide (crc_snoc l k hlt)
      have hzk := unhide HZ k hlt
      have hvl := Crc.crc_lt (kflat (l.take k))
      generalize Crc.crc (kflat (l.take k)) = v at *
      generalize l[k] = s at *
      go_wp2_with fail
      refine (add_any s w.heap.size v wr hzk hsum.lt hvl hsum.cell hsum.frozen).mono ?_
      rintro e w' ⟨rfl, hb2⟩
      have hs2 := hsum.put _ hb2
      rw [unhide HS] at hs2
      have hb3 : Below w.heap.size w w' := (hbw.setCell (p := ⟨w.heap.size, 0, none⟩) (Nat.le_refl _) _).trans (hb2.mono hbw.size)
      clear hb2 hbw hsum hck
      go_wp2
      exact ⟨⟨k + 1, by omega, by go_num, hb3, hs2⟩, by simp [intOf]; omega⟩
    · have : k = l.length := by omega
      subst this
      rw [List.take_length] at hsum
      go_wp2_with (go_at_call 64; refine (value_any _ _ _ hsum.cell).mono ?_; rintro e w' ⟨rfl, rfl⟩)
      go_ret
      exact ⟨rfl, hbw⟩

set_option maxHeartbeats 400000 in
theorem of_nil (w : World) :
    Calls Tryd.prog 50 #[.slice none 0 0] w fun e w' => e = .returned (.int .u32 (Crc.crc (kflat []) : Nat)) ∧ Below w.heap.size w w' := by
  go_enter Tryd.func50, Tryd.ntmps50
  go_wp2
  refine wp_loop_rounds 1 ?_
  rw [rounds_succ]
  go_wp2
  go_ret
  exact ⟨rfl, Below.alloc (Below.refl _ _) (Nat.le_refl _) _⟩

theorem flat_one (s : ByteArray) : kflat [s] = s.data.toList := by simp [kflat]

theorem of_one (s : ByteArray) (w : World) (hs : s.size ≤ maxLen) :
    Calls Tryd.prog 50 #[.slice (some ⟨w.heap.size, 0, none⟩) 1 1] (w.alloc (.cells #[.string s] 9)) fun e w' =>
      e = .returned (.int .u32 (Crc.crc s.data.toList : Nat)) ∧ Below w.heap.size w w' := by
  have h := of_some [s] w.heap.size 0 1 (w.alloc (.cells #[.string s] 9)) (by unfold maxLen; simp) (by intro i hi; simp at hi; subst hi; exact hs)
    (by simp) (by intro i hi; simp at hi; subst hi; simp)
  rw [flat_one] at h
  refine h.mono ?_
  rintro e w' ⟨rfl, hb⟩
  exact ⟨rfl, (Below.alloc (Below.refl _ _) (Nat.le_refl _) _).trans (hb.mono (by simp))⟩

theorem crc_known : Crc.crc [49, 50, 51, 52, 53, 54, 55, 56, 57] = 3421780262 := by decide +kernel

end Go.Proofs.YtajcaglbbdbibaaDoor
