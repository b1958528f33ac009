/- The contract of the reference's TakeU. -/
import Derived.Test.YtfehpjmjchdkgaaDoorCRefTake
import Derived.Deep.RegionWith
namespace Go.Proofs.YtfehpjmjchdkgaaDoor
open Go.RowKit
set_option linter.unusedVariables false
set_option maxRecDepth 100000

theorem take_cons {n : Nat} {r q : List UInt8} {c : UInt8} {st : Codec.St} (h : Codec.take n (r, 0) = (c :: q, st)) : st.2 = 0 := by
  unfold Codec.take at h
  split at h
  · injection h with h1 h2
    rw [← h2]
  · injection h with h1 h2
    cases h1
theorem take_len {n : Nat} {s st : Codec.St} {d : List UInt8} (h : Codec.take n s = (d, st)) : d.length ≤ n ∧ st.1.length ≤ s.1.length := by
  have := Codec.take_length n s
  rw [h] at this
  exact this

theorem wrap_byte (k : UInt8) : IntKind.i64.wrap (k.toNat : Int) = (k.toNat : Int) := by
  have := k.toNat_lt
  rw [IntKind.wrap_i64]; omega

theorem wrap_join (v : Nat) (b : UInt8) (h : v < 72057594037927936) : IntKind.u64.wrap ((v : Int) * 256 + IntKind.u64.wrap (b.toNat : Int)) = ((v * 256 + b.toNat : Nat) : Int) := by
  have := b.toNat_lt
  rw [IntKind.wrap_u64, IntKind.wrap_u64]; omega

set_option maxHeartbeats 1600000 in
theorem rtakeU_any (s : Codec.St) (w : World) (hi : Inv s) (hl : s.1.length ≤ 1099511627776) :
    Calls Tryd.prog 56 #[InV s] w fun e w' => e = .returned (.tuple #[InV (Codec.takeU s).2, .int .u64 ((Codec.takeU s).1 : Nat)]) ∧ Below w.heap.size w w' := by
  have HT1 := hide (fun wx => rtake_any s 1 wx hi hl)
  obtain ⟨l, er⟩ := s
  simp only at hl
  unfold InV at *
  by_cases h1 : er = 0
  · subst h1
    clear hi
    cases l with
    | nil =>
      obtain ⟨e1, e2⟩ := takeU_none
      rw [e1]
      rw [e2] at HT1
      clear e1 e2
      go_enter Tryd.func56, Tryd.ntmps56
      go_wp2_with fail
      refine (unhide HT1 _).mono ?_
      rintro e w1 ⟨rfl, hb⟩
      have T := hide (two_boxes hb)
      obtain ⟨c0, c1, d0, d1, f0, f1, g0, g1, hsz, hbl⟩ := two_boxes hb
      clear hb hbl
      go_wp2
      have T2 := ((unhide T).put (.string (S [])) (.int .i64 1)).out (.string (S [])) (.int .i64 1)
      exact bodyPost_ret (v := .tuple #[.agg #[.string (S []), .int .i64 1], .int .u64 0]) (by have t0 := T2.d0; have t1 := T2.d1; simp [results, Tryd.results56, go_sem, t0, t1]) rfl ⟨rfl, T2.below⟩
    | cons k r =>
      rw [takeU_first] at HT1
      have hsz1 : (S [k]).size = 1 := rfl
      have h0 : ∀ h, (S [k])[0]'h = k := fun h => rfl
      by_cases hk : 8 < k.toNat
      · rw [takeU_big k r hk]
        go_enter Tryd.func56, Tryd.ntmps56
        go_wp2_with fail
        refine (unhide HT1 _).mono ?_
        rintro e w1 ⟨rfl, hb⟩
        have T := hide (two_boxes hb)
        obtain ⟨c0, c1, d0, d1, f0, f1, g0, g1, hsz, hbl⟩ := two_boxes hb
        clear hb hbl
        go_wp2
        have T2 := ((unhide T).put (.string (S r)) (.int .i64 0)).out (.string ⟨#[]⟩) (.int .i64 2)
        exact bodyPost_ret (v := .tuple #[.agg #[.string ⟨#[]⟩, .int .i64 2], .int .u64 0]) (by have t0 := T2.d0; have t1 := T2.d1; simp [results, Tryd.results56, go_sem, t0, t1]) rfl ⟨rfl, T2.below⟩
      · have HT2 := hide (fun wx => rtake_any (r, 0) k.toNat wx (by intro h; exact absurd rfl h) (by simp at hl ⊢; omega))
        generalize hp : Codec.take k.toNat (r, 0) = p at HT2
        obtain ⟨d, st⟩ := p
        have hd8 := (take_len hp).1
        rw [← wrap_byte k] at HT2
        cases d with
        | nil =>
          rw [takeU_nil k r st hk hp]
          clear hp
          obtain ⟨sl, se⟩ := st
          unfold InV at HT2
          have hse : (S []).size = 0 := rfl
          by_cases hz : se = 0
          · subst hz
            go_enter Tryd.func56, Tryd.ntmps56
            go_wp2_with fail
            refine (unhide HT1 _).mono ?_
            rintro e w1 ⟨rfl, hb⟩
            have T := hide (two_boxes hb)
            obtain ⟨c0, c1, d0, d1, f0, f1, g0, g1, hsz, hbl⟩ := two_boxes hb
            clear hb hbl
            go_wp2_with fail
            go_region_with (go_at_call 57; refine (unhide HT2 _).mono ?_; rintro e w2 ⟨rfl, hb2⟩; have T2 := hide ((((unhide T).put (.string (S r)) (.int .i64 0)).drew).later hb2); obtain ⟨c20, c21, d20, d21, f20, f21, g20, g21, hsz2, hbl2⟩ := unhide T2; clear hb2 hbl2)
            all_goals go_wp2_with fail
            all_goals
              go_loop [6, 7] (fun x i => x = .int .u64 0 ∧ i = .int .i64 0) (fun _ _ => 0)
              case atStart => exact ⟨rfl, rfl⟩
              case round =>
                obtain ⟨rfl, rfl⟩ := hrel
                go_wp2
                have T3 := ((unhide T2).put (.string (S sl)) (.int .i64 0)).out (.string (S sl)) (.int .i64 0)
                exact bodyPost_ret (v := .tuple #[.agg #[.string (S sl), .int .i64 0], .int .u64 0]) (by have t0 := T3.d0; have t1 := T3.d1; simp [results, Tryd.results56, go_sem, t0, t1]) rfl ⟨rfl, T3.below⟩
          · have hz2 : (se == 0) = false := by rw [beq_eq_false_iff_ne]; exact hz
            go_enter Tryd.func56, Tryd.ntmps56
            go_wp2_with fail
            refine (unhide HT1 _).mono ?_
            rintro e w1 ⟨rfl, hb⟩
            have T := hide (two_boxes hb)
            obtain ⟨c0, c1, d0, d1, f0, f1, g0, g1, hsz, hbl⟩ := two_boxes hb
            clear hb hbl
            go_wp2_with fail
            go_region_with (go_at_call 57; refine (unhide HT2 _).mono ?_; rintro e w2 ⟨rfl, hb2⟩; have T2 := hide ((((unhide T).put (.string (S r)) (.int .i64 0)).drew).later hb2); obtain ⟨c20, c21, d20, d21, f20, f21, g20, g21, hsz2, hbl2⟩ := unhide T2; clear hb2 hbl2)
            all_goals go_wp2_with fail
            all_goals
              go_loop [6, 7] (fun x i => x = .int .u64 0 ∧ i = .int .i64 0) (fun _ _ => 0)
              case atStart => exact ⟨rfl, rfl⟩
              case round =>
                obtain ⟨rfl, rfl⟩ := hrel
                go_wp2
                have T3 := ((unhide T2).put (.string (S sl)) (.int .i64 se)).out (.string (S sl)) (.int .i64 se)
                exact bodyPost_ret (v := .tuple #[.agg #[.string (S sl), .int .i64 se], .int .u64 0]) (by have t0 := T3.d0; have t1 := T3.d1; simp [results, Tryd.results56, go_sem, t0, t1]) rfl ⟨rfl, T3.below⟩
        | cons c q =>
          have hst := take_cons hp
          rw [takeU_cons k r c q st hk hp]
          clear hp
          obtain ⟨sl, se⟩ := st
          simp only at hst
          subst hst
          unfold InV at HT2
          have hse : (S (c :: q)).size = q.length + 1 := rfl
          have hc0 : ∀ h, (S (c :: q))[0]'h = c := fun h => rfl
          by_cases hc : c.toNat = 0
          · rw [if_pos hc]
            have hf2 : Codec.fail 2 (sl, 0) = ([], 2) := by simp [Codec.fail]
            rw [hf2]
            have hcz : ((c.toNat : Int) == 0) = true := by rw [beq_iff_eq]; omega
            go_enter Tryd.func56, Tryd.ntmps56
            go_wp2_with fail
            refine (unhide HT1 _).mono ?_
            rintro e w1 ⟨rfl, hb⟩
            have T := hide (two_boxes hb)
            obtain ⟨c0, c1, d0, d1, f0, f1, g0, g1, hsz, hbl⟩ := two_boxes hb
            clear hb hbl
            go_wp2_with fail
            go_region_with (go_at_call 57; refine (unhide HT2 _).mono ?_; rintro e w2 ⟨rfl, hb2⟩; have T2 := hide ((((unhide T).put (.string (S r)) (.int .i64 0)).drew).later hb2); obtain ⟨c20, c21, d20, d21, f20, f21, g20, g21, hsz2, hbl2⟩ := unhide T2; clear hb2 hbl2)
            all_goals go_wp2
            all_goals
              have T3 := ((unhide T2).put (.string (S sl)) (.int .i64 0)).out (.string ⟨#[]⟩) (.int .i64 2)
              exact bodyPost_ret (v := .tuple #[.agg #[.string ⟨#[]⟩, .int .i64 2], .int .u64 0]) (by have t0 := T3.d0; have t1 := T3.d1; simp [results, Tryd.results56, go_sem, t0, t1]) rfl ⟨rfl, T3.below⟩
          · rw [if_neg hc]
            have hcz : ((c.toNat : Int) == 0) = false := by rw [beq_eq_false_iff_ne]; omega
            generalize hn : q.length = n1 at *
            have hdl : (c :: q).length = n1 + 1 := by rw [← hn]; rfl
            clear hn
            generalize c :: q = d at *
            go_enter Tryd.func56, Tryd.ntmps56
            go_wp2_with fail
            refine (unhide HT1 _).mono ?_
            rintro e w1 ⟨rfl, hb⟩
            have T := hide (two_boxes hb)
            obtain ⟨c0, c1, d0, d1, f0, f1, g0, g1, hsz, hbl⟩ := two_boxes hb
            clear hb hbl
            go_wp2_with fail
            go_region_with (go_at_call 57; refine (unhide HT2 _).mono ?_; rintro e w2 ⟨rfl, hb2⟩; have T2 := hide ((((unhide T).put (.string (S r)) (.int .i64 0)).drew).later hb2); obtain ⟨c20, c21, d20, d21, f20, f21, g20, g21, hsz2, hbl2⟩ := unhide T2; clear hb2 hbl2)
            all_goals go_wp2_with fail
            all_goals
              clear hc0 hcz hc HT1 HT2
              go_loop [6, 7] (fun x i => ∃ k : Nat, k ≤ n1 + 1 ∧ i = .int .i64 k ∧ x = .int .u64 (Codec.val (d.take k) : Nat)) (fun _ i => n1 + 1 - (intOf i).toNat)
              case atStart => exact ⟨0, by omega, rfl, rfl⟩
              case round =>
                obtain ⟨j, hj, rfl, rfl⟩ := hrel
                by_cases hlt : j < n1 + 1
                · have hkd : j < d.length := by omega
                  have HV := hide (val_take d j hkd)
                  have hvs := val_small d j (by omega) hkd
                  have HW := hide (wrap_join (Codec.val (d.take j)) d[j] hvs)
                  generalize Codec.val (d.take j) = v at *
                  go_wp2
                  exact ⟨⟨j + 1, by omega, by go_num, by rw [unhide HV]; exact congrArg (Value.int .u64) (unhide HW)⟩, by simp [intOf]; omega⟩
                · have hjd : j = d.length := by omega
                  subst hjd
                  rw [List.take_length]
                  go_wp2
                  have T3 := ((unhide T2).put (.string (S sl)) (.int .i64 0)).out (.string (S sl)) (.int .i64 0)
                  exact bodyPost_ret (v := .tuple #[.agg #[.string (S sl), .int .i64 0], .int .u64 (Codec.val d : Nat)]) (by have t0 := T3.d0; have t1 := T3.d1; simp [results, Tryd.results56, go_sem, t0, t1]) rfl ⟨rfl, T3.below⟩
  · have hl0 : l = [] := hi h1
    subst hl0
    obtain ⟨e1, e2⟩ := takeU_err er h1
    rw [e1]
    rw [e2] at HT1
    have h3 : (er != 0) = true := by rw [bne_iff_ne]; exact h1
    clear e1 e2 h1 hi
    go_enter Tryd.func56, Tryd.ntmps56
    go_wp2_with fail
    refine (unhide HT1 _).mono ?_
    rintro e w1 ⟨rfl, hb⟩
    have T := hide (two_boxes hb)
    obtain ⟨c0, c1, d0, d1, f0, f1, g0, g1, hsz, hbl⟩ := two_boxes hb
    clear hb hbl
    go_wp2
    have T2 := ((unhide T).put (.string (S [])) (.int .i64 er)).out (.string (S [])) (.int .i64 er)
    exact bodyPost_ret (v := .tuple #[.agg #[.string (S []), .int .i64 er], .int .u64 0]) (by have t0 := T2.d0; have t1 := T2.d1; simp [results, Tryd.results56, go_sem, t0, t1]) rfl ⟨rfl, T2.below⟩
end Go.Proofs.YtfehpjmjchdkgaaDoor
