/- The contracts of an In's further calls: whole numbers, numbers up to a limit, texts, the end; a new In. -/
import Derived.Test.YthchnfgokkcepaaDoorCIn
import Derived.Laws.DeepNot64
namespace Go.Proofs.YthchnfgokkcepaaDoor
open Go.RowKit
set_option linter.unusedVariables false
set_option maxRecDepth 100000

theorem u64_and_one (n : Nat) (h : n < 18446744073709551616) : bits .and .u64 (n : Int) 1 = ((n % 2 : Nat) : Int) := by
  have := u64_and_nat n 1 h (by omega)
  rw [Nat.and_one_is_mod] at this
  exact this

theorem not_half (n : Nat) (h : n < 18446744073709551616) : bits .xor .i64 (-1) ((n : Int) / 2) = -((n / 2 : Nat) : Int) - 1 := by
  have e := i64_not (n / 2) (by omega)
  rw [show ((n : Int) / 2) = ((n / 2 : Nat) : Int) from by simp, e]
  omega

set_option maxHeartbeats 400000 in
theorem unfold_any (n : Nat) (w : World) (hn : n < 18446744073709551616) :
    Calls Tryd.prog 59 #[.int .u64 n] w fun e w' => e = .returned (.int .i64 (Codec.unfold n)) ∧ w' = w := by
  have ha := u64_and_one n hn
  rcases Nat.mod_two_eq_zero_or_one n with h0 | h0
  · rw [h0] at ha
    have e : Codec.unfold n = ((n / 2 : Nat) : Int) := by unfold Codec.unfold; rw [if_neg (by omega)]
    rw [e]
    clear e
    go_enter Tryd.func59, Tryd.ntmps59
    go_wp2
    go_ret
    exact ⟨ret_int (by simp), rfl⟩
  · rw [h0] at ha
    have e : Codec.unfold n = -((n / 2 : Nat) : Int) - 1 := by unfold Codec.unfold; rw [if_pos h0]
    rw [e]
    clear e
    go_enter Tryd.func59, Tryd.ntmps59
    go_wp2
    go_ret
    exact ⟨ret_int (not_half n hn), rfl⟩

set_option maxHeartbeats 400000 in
theorem nought_any (m : Int) (w : World) (h1 : -9223372036854775808 ≤ m) (h2 : m ≤ 9223372036854775807) :
    Calls Tryd.prog 57 #[.int .i64 m] w fun e w' => e = .returned (.int .u64 ((max m 0).toNat : Nat)) ∧ w' = w := by
  go_enter Tryd.func57, Tryd.ntmps57
  go_wp2
  all_goals
    go_ret
    exact ⟨ret_int (by omega), rfl⟩

set_option maxHeartbeats 400000 in
theorem i_any (b : Nat) (s : Codec.St) (w : World) (h : InAt w b s) :
    Calls Tryd.prog 38 #[.pointer (some ⟨b, 0, none⟩)] w fun e w' => e = .returned (.int .i64 (Codec.takeI s).1) ∧ InAt w' b (Codec.takeI s).2 ∧ But b w.heap.size w w' := by
  have HU := hide (u_any b s w h)
  have HF := hide (fun wx => unfold_any (Codec.takeU s).1 wx (Codec.takeU_lt s))
  unfold Codec.takeI
  clear h
  generalize Codec.takeU s = p at *
  go_enter Tryd.func38, Tryd.ntmps38
  go_wp2_with fail
  refine (unhide HU).mono ?_
  rintro e w1 ⟨rfl, hin, hbut⟩
  go_wp2_with fail
  refine (unhide HF _).mono ?_
  rintro e w2 ⟨rfl, rfl⟩
  go_wp2
  go_ret
  exact ⟨rfl, hin, hbut⟩

set_option maxHeartbeats 400000 in
theorem n_any (b : Nat) (m : Int) (s : Codec.St) (w : World) (h : InAt w b s) (h1 : -9223372036854775808 ≤ m) (h2 : m ≤ 9223372036854775807) :
    Calls Tryd.prog 37 #[.pointer (some ⟨b, 0, none⟩), .int .i64 m] w fun e w' => e = .returned (.int .i64 ((Codec.takeN m s).1 : Nat)) ∧ InAt w' b (Codec.takeN m s).2 ∧ But b w.heap.size w w' := by
  have HU := hide (u_any b s w h)
  have hul := Codec.takeU_lt s
  have HN := hide (fun wx => nought_any m wx h1 h2)
  have hmx : (max m 0).toNat ≤ 9223372036854775807 := by omega
  unfold Codec.takeN
  clear h
  generalize Codec.takeU s = p at *
  generalize (max m 0).toNat = mm at *
  obtain ⟨u, st⟩ := p
  simp only at HU hul ⊢
  by_cases hc : u ≤ mm
  · rw [if_pos hc]
    go_enter Tryd.func37, Tryd.ntmps37
    go_wp2_with fail
    refine (unhide HU).mono ?_
    rintro e w1 ⟨rfl, hin, hbut⟩
    go_wp2_with fail
    refine (unhide HN _).mono ?_
    rintro e w2 ⟨rfl, rfl⟩
    go_wp2
    go_ret
    exact ⟨rfl, hin, hbut⟩
  · rw [if_neg hc]
    go_enter Tryd.func37, Tryd.ntmps37
    go_wp2_with fail
    refine (unhide HU).mono ?_
    rintro e w1 ⟨rfl, hin, hbut⟩
    go_wp2_with fail
    refine (unhide HN _).mono ?_
    rintro e w2 ⟨rfl, rfl⟩
    have HF := hide (fail_any b 3 st w2 hin)
    go_wp2_with fail
    refine (unhide HF).mono ?_
    rintro e w3 ⟨rfl, hin3, hbut3⟩
    go_wp2
    go_ret
    exact ⟨rfl, hin3, hbut.trans (hbut3.mono hbut.size)⟩

set_option maxHeartbeats 400000 in
theorem s_any (b : Nat) (m : Int) (s : Codec.St) (w : World) (h : InAt w b s) (h1 : -9223372036854775808 ≤ m) (h2 : m ≤ 9223372036854775807) :
    Calls Tryd.prog 39 #[.pointer (some ⟨b, 0, none⟩), .int .i64 m] w fun e w' => e = .returned (.string (S (Codec.takeS m s).1)) ∧ InAt w' b (Codec.takeS m s).2 ∧ But b w.heap.size w w' := by
  have HN := hide (n_any b m s w h h1 h2)
  have HT : Hid (∀ w1, InAt w1 b (Codec.takeN m s).2 → Calls Tryd.prog 60 #[.pointer (some ⟨b, 0, none⟩), .int .i64 ((Codec.takeN m s).1 : Nat)] w1 fun e w' => e = .returned (.string (S (Codec.takeS m s).1)) ∧ InAt w' b (Codec.takeS m s).2 ∧ But b w1.heap.size w1 w') :=
    fun w1 hw => take_any b _ _ w1 hw
  clear h
  generalize Codec.takeN m s = p at *
  generalize Codec.takeS m s = q at *
  go_enter Tryd.func39, Tryd.ntmps39
  go_wp2_with fail
  refine (unhide HN).mono ?_
  rintro e w1 ⟨rfl, hin, hbut⟩
  go_wp2_with fail
  refine (unhide HT w1 hin).mono ?_
  rintro e w2 ⟨rfl, hin2, hbut2⟩
  go_wp2
  go_ret
  exact ⟨rfl, hin2, hbut.trans (hbut2.mono hbut.size)⟩

set_option maxHeartbeats 400000 in
theorem len_any (b : Nat) (s : Codec.St) (w : World) (h : InAt w b s) :
    Calls Tryd.prog 61 #[.pointer (some ⟨b, 0, none⟩)] w fun e w' => e = .returned (.int .i64 (s.1.length : Nat)) ∧ w' = w := by
  have c0 := h.c0
  have hsz : (S s.1).size = s.1.length := S_size _
  have hlen := h.len
  clear h
  go_enter Tryd.func61, Tryd.ntmps61
  go_wp2
  go_ret
  exact ⟨rfl, rfl⟩

set_option maxHeartbeats 400000 in
theorem end_any (b : Nat) (s : Codec.St) (w : World) (h : InAt w b s) :
    Calls Tryd.prog 40 #[.pointer (some ⟨b, 0, none⟩)] w fun e w' => e = .returned (.int .i64 (Codec.endOf s).2) ∧ InAt w' b (Codec.endOf s) ∧ But b w.heap.size w w' := by
  have HL := hide (len_any b s w h)
  have HF := hide (fail_any b 2 s w h)
  have HH := hide h
  have c1 := h.c1
  unfold Codec.endOf
  clear h
  by_cases hl : 0 < s.1.length
  · rw [if_pos hl]
    go_enter Tryd.func40, Tryd.ntmps40
    go_wp2_with fail
    refine (unhide HL).mono ?_
    rintro e w1 ⟨rfl, rfl⟩
    go_wp2_with fail
    refine (unhide HF).mono ?_
    rintro e w2 ⟨rfl, hin2, hbut2⟩
    have c2 := hin2.c1
    clear c1
    go_wp2
    go_ret
    exact ⟨rfl, hin2, hbut2⟩
  · rw [if_neg hl]
    go_enter Tryd.func40, Tryd.ntmps40
    go_wp2_with fail
    refine (unhide HL).mono ?_
    rintro e w1 ⟨rfl, rfl⟩
    go_wp2
    go_ret
    exact ⟨rfl, unhide HH, But.refl _ _ _⟩

set_option maxHeartbeats 400000 in
theorem read_any (l : List UInt8) (w : World) (hl : l.length ≤ 1099511627776) :
    Calls Tryd.prog 36 #[.string (S l)] w fun e w' => e = .returned (.pointer (some ⟨w.heap.size, 0, none⟩)) ∧ InAt w' w.heap.size (l, 0) ∧ Below w.heap.size w w' ∧ w'.heap.size = w.heap.size + 1 := by
  go_enter Tryd.func36, Tryd.ntmps36
  go_wp2
  go_ret
  exact ⟨rfl, ⟨by simp, by simp, by simp, by simp, by simp, hl⟩, (Below.refl _ _).alloc (Nat.le_refl _) _, by simp⟩
end Go.Proofs.YthchnfgokkcepaaDoor
