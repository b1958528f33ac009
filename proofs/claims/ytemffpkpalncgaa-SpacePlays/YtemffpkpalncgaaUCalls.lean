/- The contracts of a space's Len, State, Count, Take, Give, turn, Keep, Undo. -/
import Derived.Test.YtemffpkpalncgaaUBase
namespace Go.Proofs.Ytemffpkpalncgaa
open Go.RowKit
set_option linter.unusedVariables false

theorem ulen_any {base : Nat} {w : World} {b g : Nat} {l : List Nat} (h : SpAt base w b g l) :
    Calls Try.prog 23 #[.pointer (some ⟨b, 0, none⟩)] w fun e w' => e = .returned (.int .i64 (l.length : Int)) ∧ w' = w := by
  have h0 := h.c0
  clear h
  go_enter Try.func23, Try.ntmps23
  go_wp2_with fail
  go_ret
  exact ⟨rfl, rfl⟩

def stAt (l : List Nat) (i : Int) : Int := if i < 0 ∨ (l.length : Int) ≤ i then -1 else ((l.getD i.toNat 0 : Nat) : Int)
theorem stAt_in (l : List Nat) (k : Nat) (hk : k < l.length) : stAt l (k : Int) = ((l[k] : Nat) : Int) := by
  unfold stAt
  rw [if_neg (by omega)]
  simp [List.getD, hk]
theorem stAt_out (l : List Nat) (i : Int) (h : i < 0 ∨ (l.length : Int) ≤ i) : stAt l i = -1 := by
  unfold stAt
  rw [if_pos h]

theorem ustate_any {base : Nat} {w : World} {b g : Nat} {l : List Nat} (h : SpAt base w b g l) (i : Int) :
    Calls Try.prog 18 #[.pointer (some ⟨b, 0, none⟩), .int .i64 i] w fun e w' => e = .returned (.int .i64 (stAt l i)) ∧ w' = w := by
  have h0 := h.c0
  have hlen := h.len
  by_cases h1 : i < 0
  · rw [stAt_out l i (.inl h1)]
    clear h
    go_enter Try.func18, Try.ntmps18
    go_wp2_with fail
    go_ret
    exact ⟨rfl, rfl⟩
  · obtain ⟨k, rfl⟩ : ∃ k : Nat, i = (k : Int) := ⟨i.toNat, by omega⟩
    by_cases h2 : k < l.length
    · rw [stAt_in l k h2]
      have hc := h.cell k h2
      have i1 : (0 : Int) ≤ (k : Int) := by omega
      have i2 : (k : Int) < (l.length : Int) := by omega
      clear h
      generalize l[k] = x at *
      go_enter Try.func18, Try.ntmps18
      go_wp2_with fail
      go_ret
      exact ⟨rfl, rfl⟩
    · rw [stAt_out l k (.inr (by omega))]
      have i1 : (0 : Int) ≤ (k : Int) := by omega
      have i2 : (l.length : Int) ≤ (k : Int) := by omega
      clear h
      go_enter Try.func18, Try.ntmps18
      go_wp2_with fail
      go_ret
      exact ⟨rfl, rfl⟩

set_option maxHeartbeats 800000 in
theorem ucount_any {base : Nat} {w : World} {b g : Nat} {l : List Nat} (h : SpAt base w b g l) (x : Nat) :
    Calls Try.prog 19 #[.pointer (some ⟨b, 0, none⟩), .int .i64 (x : Int)] w fun e w' => e = .returned (.int .i64 ((Sp.count x l : Nat) : Int)) ∧ w' = w := by
  have h0 := h.c0
  have hlen := h.len
  have HH := hide h
  clear h
  obtain ⟨n, hn⟩ : ∃ n, l.length = n := ⟨_, rfl⟩
  have HN := hide hn
  rw [hn] at h0 hlen
  clear hn
  go_enter Try.func19, Try.ntmps19
  go_wp2_with fail
  go_loop [5, 13] (fun c i => ∃ k : Nat, k ≤ n ∧ i = .int .i64 k ∧ c = .int .i64 ((Sp.count x (l.take k) : Nat) : Int)) (fun _ i => n - (intOf i).toNat)
  case atStart => exact ⟨0, Nat.zero_le _, rfl, rfl⟩
  case round =>
    obtain ⟨k, hk, rfl, rfl⟩ := hrel
    have hcl : Sp.count x (l.take k) ≤ k := Nat.le_trans (Sp.count_le _ _) (List.length_take_le _ _)
    by_cases hlt : k < n
    · have hkl : k < l.length := by rw [unhide HN]; exact hlt
      have hc := (unhide HH).cell k hkl
      have HS := hide (Sp.count_take x l k hkl)
      have i1 : (0 : Int) ≤ (k : Int) := by omega
      have i2 : (k : Int) < (n : Int) := by omega
      generalize l[k] = y at *
      generalize Sp.count x (l.take k) = q at *
      by_cases e : y = x
      · subst e
        go_wp2_with fail
        go_round
        case rel => exact ⟨k + 1, by omega, by go_num, by rw [unhide HS, if_pos rfl]; go_num⟩
        case measure => simp [intOf]; omega
      · have e2 : ((y : Int) == (x : Int)) = false := by simp; omega
        go_wp2_with fail
        go_round
        case rel => exact ⟨k + 1, by omega, by go_num, by rw [unhide HS, if_neg e]; go_num⟩
        case measure => simp [intOf]; omega
    · have : k = n := by omega
      subst this
      go_wp2_with fail
      go_ret
      refine ⟨ret_int ?_, rfl⟩
      rw [List.take_of_length_le (by rw [unhide HN]; exact Nat.le_refl _)]

theorem idx_hit (l : List Nat) (h : 0 ∈ l) : Lib.idxOf ((l.map fun (x : Nat) => (x : Int)).take l.length) 0 = ((Sp.first l : Nat) : Int) := by
  have hf := Sp.first_lt l h
  refine Lib.idxOf_hit _ _ _ _ hf (by simp) ?_ ?_
  · have := Sp.first_get l h
    simp [List.getD, hf, this]
  · intro j hj
    have hjl : j < l.length := by omega
    have := Sp.first_not l j hj hjl
    simp [List.getD, hjl]
    omega
theorem idx_miss (l : List Nat) (h : 0 ∉ l) : Lib.idxOf ((l.map fun (x : Nat) => (x : Int)).take l.length) 0 = -1 := by
  refine Lib.idxOf_miss _ _ _ ?_
  intro j hj
  have : l[j] ≠ 0 := fun e => h (by rw [← e]; exact List.getElem_mem hj)
  simp [List.getD, hj]
  omega

theorem uindex_any {base : Nat} {w : World} {b g : Nat} {l : List Nat} (h : SpAt base w b g l) :
    Calls Try.prog 25 #[.slice (some ⟨g, 0, none⟩) l.length l.length, .int .i64 0] w fun e w' => e = .returned (.int .i64 (if 0 ∈ l then ((Sp.first l : Nat) : Int) else -1)) ∧ w' = w := by
  refine (Try.slices_Index_int g 0 l.length l.length (l.map fun (x : Nat) => (x : Int)) 0 w (by simp) (by have := h.len; omega) ?_).mono ?_
  · intro j hj
    have hjl : j < l.length := by simpa using hj
    rw [Nat.zero_add, h.cell j hjl]
    simp [List.getD, hjl]
  · rintro e w' ⟨rfl, rfl⟩
    refine ⟨ret_int ?_, rfl⟩
    split
    · exact idx_hit l ‹_›
    · exact idx_miss l ‹_›

theorem utake_ok {base : Nat} {w : World} {b g : Nat} {l : List Nat} (h : SpAt base w b g l) (h0 : 0 ∈ l) :
    Calls Try.prog 9 #[.pointer (some ⟨b, 0, none⟩)] w fun e w' => e = .returned (.tuple #[.int .i64 ((Sp.first l : Nat) : Int), .int .i64 0]) ∧ SpAt base w' b g (Sp.taken l) ∧ But g w.heap.size w w' := by
  have HI := hide (uindex_any h)
  rw [if_pos h0] at HI
  have hf := Sp.first_lt l h0
  have hc0 := h.c0
  have hc := h.cell _ hf
  have hfz := h.fz (Sp.first l)
  have hlen := h.len
  have HS := hide (h.set (Sp.first l) 2 (by omega))
  change Hid (SpAt base _ b g (Sp.taken l)) at HS
  clear h h0
  generalize Sp.taken l = l2 at *
  generalize l[Sp.first l] = y at *
  generalize Sp.first l = k at *
  have i1 : (0 : Int) ≤ (k : Int) := by omega
  have i2 : (k : Int) < (l.length : Int) := by omega
  go_enter Try.func9, Try.ntmps9
  go_wp2_with fail
  refine (unhide HI).mono ?_
  rintro e w1 ⟨rfl, rfl⟩
  go_wp2_with fail
  go_ret2
  exact ⟨rfl, unhide HS, But.set0 _ _ _ _ _⟩
theorem utake_no {base : Nat} {w : World} {b g : Nat} {l : List Nat} (h : SpAt base w b g l) (h0 : 0 ∉ l) :
    Calls Try.prog 9 #[.pointer (some ⟨b, 0, none⟩)] w fun e w' => e = .returned (.tuple #[.int .i64 0, .int .i64 7]) ∧ w' = w := by
  have HI := hide (uindex_any h)
  rw [if_neg h0] at HI
  have hc0 := h.c0
  clear h h0
  go_enter Try.func9, Try.ntmps9
  go_wp2_with fail
  refine (unhide HI).mono ?_
  rintro e w1 ⟨rfl, rfl⟩
  go_wp2_with fail
  go_ret2
  exact ⟨rfl, rfl⟩

theorem ugive_ok {base : Nat} {w : World} {b g : Nat} {l : List Nat} (h : SpAt base w b g l) (k : Nat) (hk : Sp.mayGive l k = true) :
    Calls Try.prog 11 #[.pointer (some ⟨b, 0, none⟩), .int .i64 (k : Int)] w fun e w' => e = .returned (.int .i64 0) ∧ SpAt base w' b g (Sp.given l k) ∧ But g w.heap.size w w' := by
  unfold Sp.mayGive at hk
  rw [Bool.and_eq_true, decide_eq_true_eq] at hk
  obtain ⟨hk, hu⟩ := hk
  have HST := hide (ustate_any h k)
  rw [stAt_in l k hk] at HST
  have hc0 := h.c0
  have hc := h.cell _ hk
  have hfz := h.fz k
  have hlen := h.len
  have e0 : l.getD k 0 = l[k] := by simp [List.getD, hk]
  have i1 : (0 : Int) ≤ (k : Int) := by omega
  have i2 : (k : Int) < (l.length : Int) := by omega
  have HS : Hid (SpAt base (w.setCell ⟨g, k, none⟩ (.int .i64 ((if l[k] = 2 then 0 else 3 : Nat) : Int))) b g (Sp.given l k)) := by
    have := h.set k (if l[k] = 2 then 0 else 3) (by split <;> omega)
    unfold Sp.given
    rw [e0]
    exact this
  rw [e0] at hu
  clear h e0
  generalize Sp.given l k = l2 at *
  generalize l[k] = y at *
  have hy : y = 1 ∨ y = 2 := by simpa [Sp.use] using hu
  rcases hy with rfl | rfl
  all_goals
    clear hu
    go_enter Try.func11, Try.ntmps11
    go_wp2_with fail
    refine (unhide HST).mono ?_
    rintro e w1 ⟨rfl, rfl⟩
    go_wp2_with fail
    go_ret
    exact ⟨rfl, unhide HS, But.set0 _ _ _ _ _⟩

theorem ugive_no {base : Nat} {w : World} {b g : Nat} {l : List Nat} (h : SpAt base w b g l) (i : Int) (hk : stAt l i ≠ 1 ∧ stAt l i ≠ 2) :
    Calls Try.prog 11 #[.pointer (some ⟨b, 0, none⟩), .int .i64 i] w fun e w' => e = .returned (.int .i64 8) ∧ w' = w := by
  have HST := hide (ustate_any h i)
  generalize stAt l i = y at *
  obtain ⟨h1, h2⟩ := hk
  have e1 : (y == 1) = false := by simpa using h1
  have e2 : (y == 2) = false := by simpa using h2
  clear h
  go_enter Try.func11, Try.ntmps11
  go_wp2_with fail
  refine (unhide HST).mono ?_
  rintro e w1 ⟨rfl, rfl⟩
  go_wp2_with fail
  go_ret
  exact ⟨rfl, rfl⟩

set_option maxHeartbeats 800000 in
theorem uturn_any {base : Nat} {w : World} {b g : Nat} {l : List Nat} (h : SpAt base w b g l) (x y : Nat) (hy : y ≤ 3) :
    Calls Try.prog 26 #[.pointer (some ⟨b, 0, none⟩), .int .i64 (x : Int), .int .i64 (y : Int)] w fun e w' => e = .returned (.tuple #[]) ∧ SpAt base w' b g (Sp.turn x y l) ∧ But g w.heap.size w w' := by
  have h0 := h.c0
  have hlen := h.len
  have HH := hide h
  clear h
  obtain ⟨n, hn⟩ : ∃ n, l.length = n := ⟨_, rfl⟩
  have HN := hide hn
  rw [hn] at h0 hlen
  clear hn
  go_enter Try.func26, Try.ntmps26
  go_wp2_with fail
  clear h0
  go_loopw [13] (fun i wr => ∃ k : Nat, k ≤ n ∧ i = .int .i64 k ∧ SpAt base wr b g (Sp.turn x y (l.take k) ++ l.drop k) ∧ But g w.heap.size w wr) (fun i _ => n - (intOf i).toNat)
  case atStart => exact ⟨0, Nat.zero_le _, rfl, by simpa [Sp.turn] using unhide HH, But.refl _ _ _⟩
  case round =>
    obtain ⟨k, hk, rfl, hr, hb⟩ := hrel
    have HR := hide hr
    have HB := hide hb
    by_cases hlt : k < n
    · have hkl : k < l.length := by rw [unhide HN]; exact hlt
      have hln : (Sp.turn x y (l.take k) ++ l.drop k).length = n := by
        rw [← unhide HN, List.length_append, Sp.turn_length]
        simp
        omega
      have hat := Sp.turn_at x y l k hkl
      have hc0 := hr.c0
      rw [hln] at hc0
      have hc := hr.cell k (by omega)
      rw [List.getElem?_eq_getElem (by omega)] at hat
      rw [Option.some.inj hat] at hc
      have hfz := hr.fz k
      have HS : Hid (∀ v : Nat, v ≤ 3 → SpAt base (wr.setCell ⟨g, k, none⟩ (.int .i64 (v : Int))) b g ((Sp.turn x y (l.take k) ++ l.drop k).set k v)) := fun v hv => hr.set k v hv
      have HE := hide (Sp.turn_take x y l k hkl)
      have i1 : (0 : Int) ≤ (k : Int) := by omega
      have i2 : (k : Int) < (n : Int) := by omega
      clear hr hb hat hln
      have HSame : Hid ((Sp.turn x y (l.take k) ++ l.drop k).set k l[k] = Sp.turn x y (l.take k) ++ l.drop k) := by
        apply List.ext_getElem (by simp)
        intro j h1 h2
        rw [List.getElem_set]
        split
        · rename_i e
          subst e
          have := Sp.turn_at x y l k hkl
          rw [List.getElem?_eq_getElem h2] at this
          exact (Option.some.inj this).symm
        · rfl
      generalize l[k] = z at *
      by_cases e : z = x
      · subst e
        go_wp2_with fail
        go_roundw
        case rel =>
          refine ⟨k + 1, by omega, by go_num, ?_, (unhide HB).setCell k _⟩
          have := unhide HS y hy
          have e := unhide HE
          rw [if_pos rfl] at e
          rw [e] at this
          exact this
        case measure => simp [intOf]; omega
      · have e2 : ((z : Int) == (x : Int)) = false := by simp; omega
        go_wp2_with fail
        go_roundw
        case rel =>
          refine ⟨k + 1, by omega, by go_num, ?_, unhide HB⟩
          have h1 := unhide HE
          rw [if_neg e, unhide HSame] at h1
          rw [← h1]
          exact unhide HR
        case measure => simp [intOf]; omega
    · have : k = n := by omega
      subst this
      clear hr hb
      go_wp2_with fail
      go_end0
      refine ⟨rfl, ?_, unhide HB⟩
      have := unhide HR
      rw [List.take_of_length_le (by rw [unhide HN]; exact Nat.le_refl _), List.drop_of_length_le (by rw [unhide HN]; exact Nat.le_refl _), List.append_nil] at this
      exact this

theorem ukeep_any {base : Nat} {w : World} {b g : Nat} {l : List Nat} (h : SpAt base w b g l) :
    Calls Try.prog 13 #[.pointer (some ⟨b, 0, none⟩)] w fun e w' => e = .returned (.tuple #[]) ∧ SpAt base w' b g (Sp.keep l) ∧ But g w.heap.size w w' := by
  have H1 := hide (uturn_any h 2 1 (by omega))
  have H2 := hide (fun w (h : SpAt base w b g (Sp.turn 2 1 l)) => uturn_any h 3 0 (by omega))
  clear h
  go_enter Try.func13, Try.ntmps13
  go_wp2_with fail
  refine (unhide H1).mono ?_
  rintro e w1 ⟨rfl, hs1, hb1⟩
  have HB1 := hide hb1
  have HS1 := hide hs1
  clear hs1 hb1
  go_wp2_with fail
  refine (unhide H2 w1 (unhide HS1)).mono ?_
  rintro e w2 ⟨rfl, hs2, hb2⟩
  have HB2 := hide hb2
  have HS2 := hide hs2
  clear hs2 hb2
  go_wp2_with fail
  go_end0
  exact ⟨rfl, unhide HS2, (unhide HB1).trans ((unhide HB2).mono (unhide HB1).size)⟩
theorem uundo_any {base : Nat} {w : World} {b g : Nat} {l : List Nat} (h : SpAt base w b g l) :
    Calls Try.prog 15 #[.pointer (some ⟨b, 0, none⟩)] w fun e w' => e = .returned (.tuple #[]) ∧ SpAt base w' b g (Sp.undo l) ∧ But g w.heap.size w w' := by
  have H1 := hide (uturn_any h 2 0 (by omega))
  have H2 := hide (fun w (h : SpAt base w b g (Sp.turn 2 0 l)) => uturn_any h 3 1 (by omega))
  clear h
  go_enter Try.func15, Try.ntmps15
  go_wp2_with fail
  refine (unhide H1).mono ?_
  rintro e w1 ⟨rfl, hs1, hb1⟩
  have HB1 := hide hb1
  have HS1 := hide hs1
  clear hs1 hb1
  go_wp2_with fail
  refine (unhide H2 w1 (unhide HS1)).mono ?_
  rintro e w2 ⟨rfl, hs2, hb2⟩
  have HB2 := hide hb2
  have HS2 := hide hs2
  clear hs2 hb2
  go_wp2_with fail
  go_end0
  exact ⟨rfl, unhide HS2, (unhide HB1).trans ((unhide HB2).mono (unhide HB1).size)⟩
end Go.Proofs.Ytemffpkpalncgaa
