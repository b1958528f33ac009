/- The contracts of a device's small calls. -/
import Derived.Test.YtajcaglbbdbibaaDoorDBase
import Derived.Test.YtajcaglbbdbibaaDoorDShelf
namespace Go.Proofs.YtajcaglbbdbibaaDoor
open Go.RowKit
set_option linter.unusedVariables false
set_option maxRecDepth 100000

theorem drepeat_zero : ∀ n, Lib.repeatL [(0 : UInt8)] n = List.replicate n 0
  | 0 => rfl
  | n + 1 => by simp [Lib.repeatL, drepeat_zero n, List.replicate_succ]
theorem whole_short (s : List UInt8) (h : ¬64 < s.length) : whole s = s ++ List.replicate (64 - s.length) 0 := by
  unfold whole
  rw [List.take_append, List.take_of_length_le (by omega), List.take_replicate, Nat.min_eq_left (by omega)]
theorem whole_long (s : List UInt8) (h : 64 ≤ s.length) : whole s = s.take 64 := by
  unfold whole
  rw [List.take_append_of_le_length h]

theorem whole_any (s : List UInt8) (w : World) :
    Calls Tryd.prog 40 #[.string (S s)] w fun e w' => e = .returned (.string (S (whole s))) ∧ Below w.heap.size w w' := by
  have HREP := hide (fun c (hc : c ≤ 64) => Tryd.strings_Repeat (S [0]) c w (by omega) (by show 1 * c ≤ _; omega))
  obtain ⟨m, hm⟩ : ∃ m, s.length = m := ⟨_, rfl⟩
  have hsz : (S s).size = m := hm
  have HM := hide hm
  clear hm
  go_enter Tryd.func40, Tryd.ntmps40
  by_cases h : 64 < m
  · go_wp2_with fail
    go_ret
    refine ⟨ret_string ?_, Below.refl _ _⟩
    rw [whole_long s (by have := unhide HM; omega)]
    apply ByteArray.ext
    apply Array.ext'
    simp [S]
  · have hc : (64 : Int) - (m : Int) = ((64 - m : Nat) : Int) := by omega
    have hwr : wrap64 ((64 : Int) - (m : Int)) = ((64 - m : Nat) : Int) := by unfold wrap64; omega
    go_wp2_with fail
    refine (unhide HREP (64 - m) (by omega)).mono ?_
    rw [S_toList, drepeat_zero]
    obtain ⟨z, hz⟩ : ∃ z : List UInt8, List.replicate (64 - m) 0 = z := ⟨_, rfl⟩
    have hzs : (S z).size = 64 - m := by rw [← hz]; simp [S_size]
    have HZ := hide hz
    rw [hz]
    rintro e w1 ⟨rfl, hb⟩
    change (⟨z.toArray⟩ : ByteArray).size = 64 - m at hzs
    have hno : ¬9223372036854775807 < m + (⟨z.toArray⟩ : ByteArray).size := by omega
    clear HREP hz
    go_wp2_with fail
    go_ret
    refine ⟨ret_string ?_, hb⟩
    rw [whole_short s (by have := unhide HM; omega), unhide HM, unhide HZ]
    apply ByteArray.ext
    apply Array.ext'
    simp [S]

theorem has_any {base : Nat} {w : World} {b : Nat} {d : Dev} (h : DevAt base w b d) (i : Int) :
    Calls Tryd.prog 47 #[.pointer (some ⟨b, 0, none⟩), .int .i64 i] w fun e w' => e = .returned (.bool (!decide (d.no i))) ∧ w' = w := by
  obtain ⟨sv, lv, h⟩ := h
  obtain ⟨ao, c, rfl, _⟩ := ownsRow_slice h.sec
  have h0 := h.c0
  clear h
  go_enter Tryd.func47, Tryd.ntmps47
  go_wp2_with fail
  all_goals
    go_ret
    refine ⟨ret_bool ?_, rfl⟩
    by_cases hn : d.no i
    · have h2 := hn
      unfold Dev.no at h2
      simp [hn]
      try omega
    · have h2 := hn
      unfold Dev.no at h2
      simp [hn]
      omega

theorem dlen_any {base : Nat} {w : World} {b : Nat} {d : Dev} (h : DevAt base w b d) :
    Calls Tryd.prog 45 #[.pointer (some ⟨b, 0, none⟩)] w fun e w' => e = .returned (.int .i64 (d.L.length : Int)) ∧ w' = w := by
  obtain ⟨sv, lv, h⟩ := h
  obtain ⟨ao, c, rfl, _⟩ := ownsRow_slice h.sec
  have h0 := h.c0
  clear h
  go_enter Tryd.func45, Tryd.ntmps45
  go_wp2_with fail
  go_ret
  exact ⟨rfl, rfl⟩
theorem loose_any {base : Nat} {w : World} {b : Nat} {d : Dev} (h : DevAt base w b d) :
    Calls Tryd.prog 13 #[.pointer (some ⟨b, 0, none⟩)] w fun e w' => e = .returned (.int .i64 (d.W.length : Int)) ∧ w' = w := by
  obtain ⟨sv, lv, h⟩ := h
  obtain ⟨ao, c, rfl, _⟩ := ownsRow_slice h.loo
  have h0 := h.c1
  clear h
  go_enter Tryd.func13, Tryd.ntmps13
  go_wp2_with fail
  go_ret
  exact ⟨rfl, rfl⟩
theorem begin_any {base : Nat} {w : World} {b : Nat} {d : Dev} (h : DevAt base w b d) (hl : d.left < 9223372036854775808) (hc : d.calls < 4611686018427387904) :
    Calls Tryd.prog 44 #[.pointer (some ⟨b, 0, none⟩)] w fun e w' => e = .returned (.bool (!decide d.out)) ∧ DevAt base w' b d.begin ∧ DStep b w w' := by
  obtain ⟨sv, lv, h⟩ := h
  obtain ⟨L, W, dn, ar, lf, cl⟩ := d
  have h2 := h.c2
  have h3 := h.c3
  have h4 := h.c4
  have h5 := h.c5
  have f2 := h.fz 2
  have f4 := h.fz 4
  have f5 := h.fz 5
  have HH := hide h
  clear h
  dsimp only at h2 h3 h4 h5 hl hc
  have hw : IntKind.i64.wrap ((cl : Int) + 1) = ((cl + 1 : Nat) : Int) := by rw [IntKind.wrap_i64]; omega
  have hw6 : wrap64 ((cl : Int) + 1) = ((cl + 1 : Nat) : Int) := by unfold wrap64; omega
  cases ar with
  | false =>
    cases dn with
    | true =>
      go_enter Tryd.func44, Tryd.ntmps44
      go_wp2_with fail
      go_ret
      have := unhide HH
      refine ⟨ret_bool (by simp [Dev.out]), ⟨sv, lv, by simpa [Dev.begin, Dev.out] using this⟩, DStep.refl _ _⟩
    | false =>
      go_enter Tryd.func44, Tryd.ntmps44
      go_wp2_with fail
      go_ret
      have := unhide HH
      refine ⟨ret_bool (by simp [Dev.out]), ⟨sv, lv, ?_⟩, ?_⟩
      · have := this.setCalls (cl + 1)
        simpa [Dev.begin, Dev.out] using this
      · exact this.stepSet 5 _ (by omega)
  | true =>
    cases dn with
    | true =>
      go_enter Tryd.func44, Tryd.ntmps44
      go_wp2_with fail
      all_goals
        go_ret
        have := unhide HH
        refine ⟨ret_bool (by simp [Dev.out]), ⟨sv, lv, ?_⟩, ?_⟩
      · have := this.setDown true
        simpa [Dev.begin, Dev.out] using this
      · exact this.stepSet 2 _ (by omega)
      · simpa [Dev.begin, Dev.out] using this
      · exact DStep.refl _ _
    | false =>
      cases lf with
      | zero =>
        have e0 : (((0 : Nat) : Int) == 0) = true := rfl
        go_enter Tryd.func44, Tryd.ntmps44
        go_wp2_with fail
        go_ret
        have := unhide HH
        refine ⟨ret_bool (by simp [Dev.out]), ⟨sv, lv, ?_⟩, ?_⟩
        · have := this.setDown true
          simpa [Dev.begin, Dev.out] using this
        · exact this.stepSet 2 _ (by omega)
      | succ lf =>
        have e0 : (((lf + 1 : Nat) : Int) == 0) = false := by simp; omega
        have hw1 : IntKind.i64.wrap (((lf + 1 : Nat) : Int) - 1) = (lf : Int) := by rw [IntKind.wrap_i64]; omega
        have hw2 : wrap64 (((lf + 1 : Nat) : Int) - 1) = (lf : Int) := by unfold wrap64; omega
        generalize hlf : ((lf + 1 : Nat) : Int) = z at *
        go_enter Tryd.func44, Tryd.ntmps44
        go_wp2_with fail
        go_ret
        have := unhide HH
        refine ⟨ret_bool (by simp [Dev.out]), ⟨sv, lv, ?_⟩, ?_⟩
        · have := (this.setLeft lf).setCalls (cl + 1)
          simpa [Dev.begin, Dev.out] using this
        · exact (this.stepSet 4 _ (by omega)).trans ((this.setLeft lf).stepSet 5 _ (by omega))
end Go.Proofs.YtajcaglbbdbibaaDoor
