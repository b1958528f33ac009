/- The contracts of the reference's TakeI, TakeN, TakeS, End; and that nothing is left beside an error, behind any of them. -/
import Derived.Test.YtfehpjmjchdkgaaDoorCRefTakeU
namespace Go.Proofs.YtfehpjmjchdkgaaDoor
open Go.RowKit
set_option linter.unusedVariables false
set_option maxRecDepth 100000

theorem Inv.fail {s : Codec.St} (h : Inv s) (c : Int) : Inv (Codec.fail c s) := by
  unfold Codec.fail
  split
  · intro _; rfl
  · exact h
theorem Inv.take {s : Codec.St} (h : Inv s) (n : Nat) : Inv (Codec.take n s).2 := by
  unfold Codec.take
  split
  · intro he
    have := h he
    simp [this]
  · exact h.fail 1
theorem Inv.size {s : Codec.St} (h : Inv s) : Inv (Codec.size s).2 := by
  unfold Codec.size
  split
  · exact h.take 1
  · split
    · exact (h.take 1).fail 2
    · exact h.take 1
theorem Inv.digits {s : Codec.St} (h : Inv s) : Inv (Codec.digits s).2 := by
  unfold Codec.digits
  exact h.size.take _
theorem Inv.takeU {s : Codec.St} (h : Inv s) : Inv (Codec.takeU s).2 := by
  unfold Codec.takeU
  split
  · exact h.digits
  · split
    · exact h.digits.fail 2
    · exact h.digits
theorem Inv.takeI {s : Codec.St} (h : Inv s) : Inv (Codec.takeI s).2 := h.takeU
theorem Inv.takeN {s : Codec.St} (h : Inv s) (m : Int) : Inv (Codec.takeN m s).2 := by
  unfold Codec.takeN
  split
  · exact h.takeU
  · exact h.takeU.fail 3
theorem Inv.takeS {s : Codec.St} (h : Inv s) (m : Int) : Inv (Codec.takeS m s).2 := (h.takeN m).take _
theorem takeN_length (m : Int) (s : Codec.St) : (Codec.takeN m s).2.1.length ≤ s.1.length := by
  have h := Codec.takeU_length s
  unfold Codec.takeN
  split
  · exact h
  · exact Nat.le_trans (Codec.fail_length 3 _) h
theorem takeS_length (m : Int) (s : Codec.St) : (Codec.takeS m s).2.1.length ≤ s.1.length := Nat.le_trans (Codec.take_length _ _).2 (takeN_length m s)

set_option maxHeartbeats 800000 in
theorem rtakeI_any (s : Codec.St) (w : World) (hi : Inv s) (hl : s.1.length ≤ 1099511627776) :
    Calls Tryd.prog 47 #[InV s] w fun e w' => e = .returned (.tuple #[InV (Codec.takeI s).2, .int .i64 (Codec.takeI s).1]) ∧ Below w.heap.size w w' := by
  have HU := hide (fun wx => rtakeU_any s wx hi hl)
  have hul := Codec.takeU_lt s
  have hsp : Codec.takeI s = (Codec.unfold (Codec.takeU s).1, (Codec.takeU s).2) := rfl
  rw [hsp]
  clear hsp hi
  obtain ⟨l, er⟩ := s
  generalize Codec.takeU (l, er) = p at *
  obtain ⟨u, sl, se⟩ := p
  simp only at hul ⊢
  unfold InV at *
  simp only at HU ⊢
  by_cases hu : u % 2 = 1
  · have e : Codec.unfold u = -((u / 2 : Nat) : Int) - 1 := by unfold Codec.unfold; rw [if_pos hu]
    rw [e]
    have hd : ((u : Int) % 2 == 1) = true := by rw [beq_iff_eq]; omega
    clear e
    go_enter Tryd.func47, Tryd.ntmps47
    go_wp2_with fail
    refine (unhide HU _).mono ?_
    rintro e w1 ⟨rfl, hb⟩
    have T := hide (two_boxes hb)
    obtain ⟨c0, c1, d0, d1, f0, f1, g0, g1, hsz, hbl⟩ := two_boxes hb
    clear hb hbl
    go_wp2
    have T3 := ((unhide T).put (.string (S sl)) (.int .i64 se)).out (.string (S sl)) (.int .i64 se)
    exact bodyPost_ret (v := .tuple #[.agg #[.string (S sl), .int .i64 se], .int .i64 (-((u / 2 : Nat) : Int) - 1)]) (by have t0 := T3.d0; have t1 := T3.d1; simp [results, Tryd.results47, go_sem, t0, t1]) rfl ⟨rfl, T3.below⟩
  · have e : Codec.unfold u = ((u / 2 : Nat) : Int) := by unfold Codec.unfold; rw [if_neg hu]
    rw [e]
    have hd : ((u : Int) % 2 == 1) = false := by rw [beq_eq_false_iff_ne]; omega
    clear e
    go_enter Tryd.func47, Tryd.ntmps47
    go_wp2_with fail
    refine (unhide HU _).mono ?_
    rintro e w1 ⟨rfl, hb⟩
    have T := hide (two_boxes hb)
    obtain ⟨c0, c1, d0, d1, f0, f1, g0, g1, hsz, hbl⟩ := two_boxes hb
    clear hb hbl
    go_wp2
    have T3 := ((unhide T).put (.string (S sl)) (.int .i64 se)).out (.string (S sl)) (.int .i64 se)
    exact bodyPost_ret (v := .tuple #[.agg #[.string (S sl), .int .i64 se], .int .i64 ((u / 2 : Nat) : Int)]) (by have t0 := T3.d0; have t1 := T3.d1; simp [results, Tryd.results47, go_sem, t0, t1]) rfl ⟨rfl, T3.below⟩

set_option maxHeartbeats 800000 in
theorem rtakeN_any (s : Codec.St) (m : Int) (w : World) (hi : Inv s) (hl : s.1.length ≤ 1099511627776) (h1 : -9223372036854775808 ≤ m) (h2 : m ≤ 9223372036854775807) :
    Calls Tryd.prog 45 #[InV s, .int .i64 m] w fun e w' => e = .returned (.tuple #[InV (Codec.takeN m s).2, .int .i64 ((Codec.takeN m s).1 : Nat)]) ∧ Below w.heap.size w w' := by
  have HU := hide (fun wx => rtakeU_any s wx hi hl)
  have hul := Codec.takeU_lt s
  have HF := hide (fun wx => rfail_any (Codec.takeU s).2 3 wx)
  have hmx : (max m 0).toNat ≤ 9223372036854775807 := by omega
  unfold Codec.takeN
  clear hi
  obtain ⟨l, er⟩ := s
  generalize Codec.takeU (l, er) = p at *
  obtain ⟨u, st⟩ := p
  simp only at hul HU HF ⊢
  by_cases hc : u ≤ (max m 0).toNat
  · rw [if_pos hc]
    obtain ⟨sl, se⟩ := st
    unfold InV at *
    have hci : (u : Int) ≤ if m < 0 then 0 else m := by split <;> omega
    clear hc
    go_enter Tryd.func45, Tryd.ntmps45
    go_wp2_with fail
    refine (unhide HU _).mono ?_
    rintro e w1 ⟨rfl, hb⟩
    have T := hide (two_boxes hb)
    obtain ⟨c0, c1, d0, d1, f0, f1, g0, g1, hsz, hbl⟩ := two_boxes hb
    clear hb hbl
    go_wp2
    all_goals
      have T3 := ((unhide T).put (.string (S sl)) (.int .i64 se)).out (.string (S sl)) (.int .i64 se)
      exact bodyPost_ret (v := .tuple #[.agg #[.string (S sl), .int .i64 se], .int .i64 (u : Int)]) (by have t0 := T3.d0; have t1 := T3.d1; simp [results, Tryd.results45, go_sem, t0, t1]) rfl ⟨rfl, T3.below⟩
  · rw [if_neg hc]
    have hci : (if m < 0 then 0 else m) < (u : Int) := by split <;> omega
    clear hc
    generalize Codec.fail 3 st = sf at *
    obtain ⟨sl, se⟩ := st
    obtain ⟨fl, fe⟩ := sf
    unfold InV at *
    go_enter Tryd.func45, Tryd.ntmps45
    go_wp2_with fail
    refine (unhide HU _).mono ?_
    rintro e w1 ⟨rfl, hb⟩
    have T := hide (two_boxes hb)
    obtain ⟨c0, c1, d0, d1, f0, f1, g0, g1, hsz, hbl⟩ := two_boxes hb
    clear hb hbl
    go_wp2_with fail
    all_goals
      refine (unhide HF _).mono ?_
      rintro e w2 ⟨rfl, hb2⟩
      have T2 := hide (((unhide T).put (.string (S sl)) (.int .i64 se)).later hb2)
      obtain ⟨c20, c21, d20, d21, f20, f21, g20, g21, hsz2, hbl2⟩ := unhide T2
      clear hb2 hbl2
      go_wp2
      have T3 := (unhide T2).out (.string (S fl)) (.int .i64 fe)
      exact bodyPost_ret (v := .tuple #[.agg #[.string (S fl), .int .i64 fe], .int .i64 0]) (by have t0 := T3.d0; have t1 := T3.d1; simp [results, Tryd.results45, go_sem, t0, t1]) rfl ⟨rfl, T3.below⟩

set_option maxHeartbeats 800000 in
theorem rtakeS_any (s : Codec.St) (m : Int) (w : World) (hi : Inv s) (hl : s.1.length ≤ 1099511627776) (h1 : -9223372036854775808 ≤ m) (h2 : m ≤ 9223372036854775807) :
    Calls Tryd.prog 46 #[InV s, .int .i64 m] w fun e w' => e = .returned (.tuple #[InV (Codec.takeS m s).2, .string (S (Codec.takeS m s).1)]) ∧ Below w.heap.size w w' := by
  have HN := hide (fun wx => rtakeN_any s m wx hi hl h1 h2)
  have HT : Hid (∀ wx, Calls Tryd.prog 57 #[InV (Codec.takeN m s).2, .int .i64 ((Codec.takeN m s).1 : Nat)] wx fun e w' => e = .returned (.tuple #[InV (Codec.takeS m s).2, .string (S (Codec.takeS m s).1)]) ∧ Below wx.heap.size wx w') :=
    fun wx => rtake_any _ _ wx (hi.takeN m) (Nat.le_trans (takeN_length m s) hl)
  clear hi
  obtain ⟨l, er⟩ := s
  generalize Codec.takeN m (l, er) = p at *
  generalize Codec.takeS m (l, er) = q at *
  obtain ⟨n, sl, se⟩ := p
  obtain ⟨d, tl, te⟩ := q
  unfold InV at *
  simp only at HN HT ⊢
  go_enter Tryd.func46, Tryd.ntmps46
  go_wp2_with fail
  refine (unhide HN _).mono ?_
  rintro e w1 ⟨rfl, hb⟩
  have T := hide (two_boxes hb)
  obtain ⟨c0, c1, d0, d1, f0, f1, g0, g1, hsz, hbl⟩ := two_boxes hb
  clear hb hbl
  go_wp2_with fail
  refine (unhide HT _).mono ?_
  rintro e w2 ⟨rfl, hb2⟩
  have T2 := hide (((unhide T).put (.string (S sl)) (.int .i64 se)).later hb2)
  obtain ⟨c20, c21, d20, d21, f20, f21, g20, g21, hsz2, hbl2⟩ := unhide T2
  clear hb2 hbl2
  go_wp2
  have T3 := (unhide T2).out (.string (S tl)) (.int .i64 te)
  exact bodyPost_ret (v := .tuple #[.agg #[.string (S tl), .int .i64 te], .string (S d)]) (by have t0 := T3.d0; have t1 := T3.d1; simp [results, Tryd.results46, go_sem, t0, t1]) rfl ⟨rfl, T3.below⟩

end Go.Proofs.YtfehpjmjchdkgaaDoor
