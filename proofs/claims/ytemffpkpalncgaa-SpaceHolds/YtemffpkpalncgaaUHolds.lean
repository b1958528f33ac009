/- SpaceHolds' walk. -/
import Derived.Test.YtemffpkpalncgaaUTexts
namespace Go.Proofs.Ytemffpkpalncgaa
open Go.RowKit
set_option linter.unusedVariables false

/- Of n pages the first u are in use since the last Keep. -/
structure Held (n u : Nat) (l : List Nat) : Prop where
  len : l.length = n
  low : ∀ i (h : i < l.length), i < u → l[i] = 1 ∨ l[i] = 3
  top : ∀ i (h : i < l.length), u ≤ i → l[i] = 0 ∨ l[i] = 2
theorem Held.start (n u : Nat) (h : u ≤ n) : Held n u (Sp.keep (List.replicate u 2 ++ List.replicate (n - u) 0)) := by
  have hk : Sp.keep (List.replicate u 2 ++ List.replicate (n - u) 0) = List.replicate u 1 ++ List.replicate (n - u) 0 := by
    simp [Sp.keep, Sp.turn]
  rw [hk]
  refine ⟨by simp; omega, fun i hi h2 => ?_, fun i hi h2 => ?_⟩
  · rw [List.getElem_append_left (by simpa using h2)]; simp
  · rw [List.getElem_append_right (by simpa using h2)]; simp
theorem first_fill (n k : Nat) (h : k < n) : Sp.first (List.replicate k 2 ++ List.replicate (n - k) 0) = k := by
  have e : List.replicate (n - k) 0 = 0 :: List.replicate (n - k - 1) 0 := by
    have : n - k = (n - k - 1) + 1 := by omega
    rw [this, List.replicate_succ]
    simp
  unfold Sp.first
  rw [e, List.findIdx_append]
  have : (List.replicate k 2).findIdx (fun x => x == 0) = k := by
    rw [List.findIdx_eq_length.2 (fun x hx => by rw [List.eq_of_mem_replicate hx]; rfl)]
    simp
  simp [this, List.findIdx_cons]
theorem taken_fill (n k : Nat) (h : k < n) : Sp.taken (List.replicate k 2 ++ List.replicate (n - k) 0) = List.replicate (k + 1) 2 ++ List.replicate (n - (k + 1)) 0 := by
  unfold Sp.taken
  rw [first_fill n k h, List.set_append_right _ _ (by simp)]
  have e : List.replicate (n - k) 0 = 0 :: List.replicate (n - (k + 1)) 0 := by
    have : n - k = (n - (k + 1)) + 1 := by omega
    rw [this, List.replicate_succ]
  rw [e, List.length_replicate, Nat.sub_self, List.set_cons_zero, List.replicate_succ', List.append_assoc]
  rfl
theorem mem_fill (n k : Nat) (h : k < n) : 0 ∈ List.replicate k 2 ++ List.replicate (n - k) 0 := by
  apply List.mem_append_right
  rw [List.mem_replicate]
  exact ⟨by omega, rfl⟩
theorem Held.first {n u : Nat} {l : List Nat} (h : Held n u l) (h0 : 0 ∈ l) : u ≤ Sp.first l := by
  have h1 := Sp.first_lt l h0
  have h2 := Sp.first_get l h0
  rcases Nat.lt_or_ge (Sp.first l) u with h3 | h3
  · have := h.low _ h1 h3
    omega
  · exact h3
theorem Held.set {n u : Nat} {l : List Nat} (h : Held n u l) (k v : Nat) (h1 : k < u → v = 1 ∨ v = 3) (h2 : u ≤ k → v = 0 ∨ v = 2) : Held n u (l.set k v) := by
  refine ⟨by rw [List.length_set]; exact h.len, fun i hi hu => ?_, fun i hi hu => ?_⟩
  · rw [List.getElem_set]
    split
    · rename_i e; subst e; exact h1 hu
    · exact h.low i (by simpa using hi) hu
  · rw [List.getElem_set]
    split
    · rename_i e; subst e; exact h2 hu
    · exact h.top i (by simpa using hi) hu
theorem Held.taken {n u : Nat} {l : List Nat} (h : Held n u l) (h0 : 0 ∈ l) : Held n u (Sp.taken l) := h.set _ _ (fun hlt => by have := h.first h0; omega) (fun _ => .inr rfl)
theorem Held.given {n u : Nat} {l : List Nat} (h : Held n u l) (k : Nat) (hk : Sp.mayGive l k = true) : Held n u (Sp.given l k) := by
  unfold Sp.mayGive at hk
  rw [Bool.and_eq_true, decide_eq_true_eq] at hk
  obtain ⟨hk, hu⟩ := hk
  have e0 : l.getD k 0 = l[k] := by simp [List.getD, hk]
  unfold Sp.given
  rw [e0] at hu ⊢
  have hy : l[k] = 1 ∨ l[k] = 2 := by simpa [Sp.use] using hu
  refine h.set _ _ (fun hlt => ?_) (fun hge => ?_)
  · have := h.low k hk hlt
    split <;> omega
  · have := h.top k hk hge
    split <;> omega
theorem Held.undo {n u : Nat} {l : List Nat} (h : Held n u l) (i : Nat) (hi : i < n) : stAt (Sp.undo l) (i : Int) = if i < u then 1 else 0 := by
  have hil : i < l.length := by rw [h.len]; exact hi
  rw [stAt_in _ i (by rw [Sp.undo_length]; exact hil)]
  have e : (Sp.undo l)[i]'(by rw [Sp.undo_length]; exact hil) = (if (if l[i] = 2 then 0 else l[i]) = 3 then 1 else (if l[i] = 2 then 0 else l[i])) := by simp [Sp.undo, Sp.turn]
  rw [e]
  by_cases hu : i < u
  · have := h.low i hil hu
    rw [if_pos hu]
    rcases this with h1 | h1 <;> simp [h1]
  · have := h.top i hil (by omega)
    rw [if_neg hu]
    rcases this with h1 | h1 <;> simp [h1]
theorem undo_count (l : List Nat) : Sp.count 2 (Sp.undo l) = 0 ∧ Sp.count 3 (Sp.undo l) = 0 := by
  unfold Sp.count
  constructor <;>
  · rw [List.count_eq_zero]
    intro h
    simp only [Sp.undo, Sp.turn, List.map_map, List.mem_map, Function.comp] at h
    obtain ⟨y, _, e⟩ := h
    by_cases h2 : y = 2
    · subst h2
      simp at e
    · by_cases h3 : y = 3
      · subst h3
        simp at e
      · simp [h2, h3] at e
theorem utake_held {base n u : Nat} {w : World} {b g : Nat} {l : List Nat} (h : SpAt base w b g l) (hh : Held n u l) :
    Calls Try.prog 9 #[.pointer (some ⟨b, 0, none⟩)] w fun e w' => ((∃ k : Nat, u ≤ k ∧ e = .returned (.tuple #[.int .i64 (k : Int), .int .i64 0])) ∨ e = .returned (.tuple #[.int .i64 0, .int .i64 7])) ∧ ∃ l', Held n u l' ∧ SpAt base w' b g l' ∧ But g w.heap.size w w' := by
  by_cases h0 : 0 ∈ l
  · refine (utake_ok h h0).mono ?_
    rintro e w' ⟨rfl, h1, h2⟩
    exact ⟨.inl ⟨_, hh.first h0, rfl⟩, _, hh.taken h0, h1, h2⟩
  · refine (utake_no h h0).mono ?_
    rintro e w' ⟨rfl, rfl⟩
    exact ⟨.inr rfl, _, hh, h, But.refl _ _ _⟩
theorem ugive_held {base n u : Nat} {w : World} {b g : Nat} {l : List Nat} (h : SpAt base w b g l) (hh : Held n u l) (k : Nat) :
    Calls Try.prog 11 #[.pointer (some ⟨b, 0, none⟩), .int .i64 (k : Int)] w fun e w' => ∃ (x : Int) (l' : List Nat), e = .returned (.int .i64 x) ∧ Held n u l' ∧ SpAt base w' b g l' ∧ But g w.heap.size w w' := by
  cases h0 : Sp.mayGive l k with
  | true =>
    refine (ugive_ok h k h0).mono ?_
    rintro e w' ⟨rfl, h1, h2⟩
    exact ⟨_, _, rfl, hh.given k h0, h1, h2⟩
  | false =>
    refine (ugive_no h k (may_of l k h0)).mono ?_
    rintro e w' ⟨rfl, rfl⟩
    exact ⟨_, _, rfl, hh, h, But.refl _ _ _⟩

set_option maxHeartbeats 3200000 in
theorem holds_any (a0 a1 : Int) (a : Option Addr) (len cap : Nat) (w : World) (hlen : len ≤ maxLen) (hacts : UActs w a len) :
    Calls Try.prog 4 #[.int .i64 a0, .int .i64 a1, .slice a len cap] w fun e w' => e = .returned (.bool true) ∧ Below w.heap.size w w' := by
  unfold maxLen at hlen
  have HACTS := hide hacts
  have HAW := hide (fun w => uawake_any w)
  obtain ⟨n, hn, hn1, hn2⟩ : ∃ n : Nat, wrap64 (1 + bits .and .i64 a0 15) = (n : Int) ∧ 1 ≤ n ∧ n ≤ 16 := by
    have := u_mask a0 4 15 (by omega) (by decide)
    exact ⟨_, this.1, by omega, by have := this.2; omega⟩
  obtain ⟨u, hu1, hu2⟩ := u_and255 a1 (n + 1) (by omega)
  have hu3 : ((n + 1 : Nat) : Int) = (n : Int) + 1 := by omega
  rw [hu3] at hu2
  have hun : u ≤ n := by omega
  have HNEW := hide (unew_ok n w hn1 (by omega))
  clear hacts hu3
  go_enter Try.func4, Try.ntmps4
  go_wp2_with fail
  refine (unhide HNEW).mono ?_
  rintro e w1 ⟨b, g, rfl, hs1, hb1⟩
  have HS := hide hs1
  have HG := hide hs1.log
  have HB := hide hb1
  clear hs1 hb1 HNEW
  go_wp2_with fail
  refine (unhide HAW _).mono ?_
  rintro e w3 ⟨rfl, hb⟩
  have HB2 := hide ((unhide HB).trans (hb.mono (unhide HB).size))
  have HS2 := hide ((unhide HS).later hb)
  clear hb HB HS HAW
  go_wp2_with fail
  go_loopw [33] (fun i wr => ∃ (k : Nat), k ≤ u ∧ i = .int .i64 k ∧ SpAt w.heap.size wr b g (List.replicate k 2 ++ List.replicate (n - k) 0) ∧ Below w.heap.size w wr) (fun i _ => u - (intOf i).toNat)
  case atStart => exact ⟨0, Nat.zero_le _, rfl, unhide HS2, unhide HB2⟩
  case round =>
    obtain ⟨k, hk, rfl, hs, hb⟩ := hrel
    clear HS2 HB2
    have HB := hide hb
    by_cases hlt : k < u
    · have HTK := hide (utake_ok hs (mem_fill n k (by omega)))
      rw [taken_fill n k (by omega), first_fill n k (by omega)] at HTK
      have i1 : (k : Int) < (u : Int) := by omega
      clear hs hb
      go_wp2_with fail
      refine (unhide HTK).mono ?_
      rintro e w4 ⟨rfl, hs', hb'⟩
      have HB' := hide ((unhide HB).trans (hb'.below (unhide HG) (unhide HB).size))
      have HS' := hide hs'
      clear hs' hb' HTK HB
      go_wp2_with fail
      go_roundw
      case rel => exact ⟨k + 1, by omega, by go_num, unhide HS', unhide HB'⟩
      case measure => simp [intOf]; omega
    · have : k = u := by omega
      subst this
      have HKP := hide (ukeep_any hs)
      have HE0 := hide (Held.start n k hun)
      generalize Sp.keep (List.replicate k 2 ++ List.replicate (n - k) 0) = l0 at *
      clear hs hb
      go_wp2_with fail
      refine (unhide HKP).mono ?_
      rintro e w4 ⟨rfl, hs', hb'⟩
      have HB' := hide ((unhide HB).trans (hb'.below (unhide HG) (unhide HB).size))
      have HS' := hide hs'
      clear hs' hb' HKP HB
      go_wp2_with fail
      go_loopw [9] (fun i wr => ∃ (j : Nat) (l : List Nat), j ≤ 60 ∧ j ≤ len ∧ i = .int .i64 j ∧ Held n k l ∧ SpAt w.heap.size wr b g l ∧ Below w.heap.size w wr) (fun i _ => 60 - (intOf i).toNat)
      case atStart => exact ⟨0, l0, Nat.zero_le _, Nat.zero_le _, rfl, unhide HE0, unhide HS', unhide HB'⟩
      case round =>
        obtain ⟨j, l, hj, hjl, rfl, hh, hs, hb⟩ := hrel
        clear HS' HB' HE0
        have HB := hide hb
        by_cases hlt : j < len ∧ j < 60
        · obtain ⟨h1, h2⟩ := hlt
          obtain ⟨kind, at', hact⟩ := unhide HACTS j h1
          obtain ⟨⟨ab, ao, rfl, c0, c1⟩, hat1, hat2⟩ := hact.later hb
          have i1 : (0 : Int) ≤ (j : Int) := by omega
          have i2 : (j : Int) < (len : Int) := by omega
          have i3 : (j : Int) < 60 := by omega
          obtain ⟨q, hq1, hq2⟩ := u_and255 at' n hn1
          have hnz : ((n : Int) == 0) = false := by simp; omega
          have HTK := hide (utake_held hs hh)
          have HGV := hide (ugive_held hs hh q)
          clear hact hs hb hh
          have hkind : kind = 1 ∨ kind = 3 ∨ kind = 4 ∨ (¬kind = 1 ∧ ¬kind = 3 ∧ ¬kind = 4) := by omega
          rcases hkind with rfl | rfl | rfl | ⟨k1, k3, k4⟩
          case inr.inr.inr =>
            go_wp2_with fail
            refine (unhide HGV).mono ?_
            rintro e w4 ⟨x, l', rfl, hh', hs', hb'⟩
            have HB' := hide ((unhide HB).trans (hb'.below (unhide HG) (unhide HB).size))
            have HS' := hide hs'
            have HH' := hide hh'
            clear hh' hs' hb' HGV HTK HB
            go_wp2_with fail
            go_roundw
            case rel => exact ⟨j + 1, l', by omega, by omega, by go_num, unhide HH', unhide HS', unhide HB'⟩
            case measure => simp [intOf]; omega
          all_goals
            go_wp2_with fail
            refine (unhide HTK).mono ?_
            rintro e w4 ⟨he, l', hh', hs', hb'⟩
            have HB' := hide ((unhide HB).trans (hb'.below (unhide HG) (unhide HB).size))
            have HS' := hide hs'
            have HH' := hide hh'
            clear hh' hs' hb' HGV HTK HB
            rcases he with ⟨x, hx, rfl⟩ | rfl
            all_goals
              go_wp2_with fail
              go_roundw
              case rel => exact ⟨j + 1, l', by omega, by omega, by go_num, unhide HH', unhide HS', unhide HB'⟩
              case measure => simp [intOf]; omega
        · have hor : len ≤ j ∨ (j < len ∧ 60 ≤ j) := by omega
          have HUN := hide (uundo_any hs)
          have HST : Hid (∀ B w i, i < n → SpAt B w b g (Sp.undo l) → Calls Try.prog 18 #[.pointer (some ⟨b, 0, none⟩), .int .i64 (i : Int)] w fun e w' => e = .returned (.int .i64 (if i < k then 1 else 0)) ∧ w' = w) := fun B w i hi h => by
            have := ustate_any h i
            rw [hh.undo i hi] at this
            exact this
          have HC2 : Hid (∀ B w, SpAt B w b g (Sp.undo l) → Calls Try.prog 19 #[.pointer (some ⟨b, 0, none⟩), .int .i64 2] w fun e w' => e = .returned (.int .i64 0) ∧ w' = w) := fun B w h => by
            have := ucount_any h 2
            rw [(undo_count l).1] at this
            exact this
          have HC3 : Hid (∀ B w, SpAt B w b g (Sp.undo l) → Calls Try.prog 19 #[.pointer (some ⟨b, 0, none⟩), .int .i64 3] w fun e w' => e = .returned (.int .i64 0) ∧ w' = w) := fun B w h => by
            have := ucount_any h 3
            rw [(undo_count l).2] at this
            exact this
          generalize Sp.undo l = l2 at *
          clear hs hb hh hlt
          rcases hor with h1 | ⟨h1, h2⟩
          all_goals
            go_wp2_with fail
            refine (unhide HUN).mono ?_
            rintro e w5 ⟨rfl, hs', hb'⟩
            have HB' := hide ((unhide HB).trans (hb'.below (unhide HG) (unhide HB).size))
            have HS' := hide hs'
            clear hs' hb' HUN HB
            go_wp2_with fail
            go_loop [84] (fun i => ∃ (j : Nat), j ≤ n ∧ i = .int .i64 j) (fun i => n - (intOf i).toNat)
            case atStart => exact ⟨0, Nat.zero_le _, rfl⟩
            case round =>
              obtain ⟨i, hi, rfl⟩ := hrel
              by_cases hin : i < n
              · have HSI := hide (unhide HST _ w5 i hin (unhide HS'))
                have j1 : (i : Int) < (n : Int) := by omega
                by_cases hik : i < k
                · rw [if_pos hik] at HSI
                  have j2 : (i : Int) < (k : Int) := by omega
                  go_wp2_with fail
                  refine (unhide HSI).mono ?_
                  rintro e w6 ⟨rfl, rfl⟩
                  go_wp2_with fail
                  go_round
                  case rel => exact ⟨i + 1, by omega, by go_num⟩
                  case measure => simp [intOf]; omega
                · rw [if_neg hik] at HSI
                  have j2 : (k : Int) ≤ (i : Int) := by omega
                  go_wp2_with fail
                  refine (unhide HSI).mono ?_
                  rintro e w6 ⟨rfl, rfl⟩
                  go_wp2_with fail
                  go_round
                  case rel => exact ⟨i + 1, by omega, by go_num⟩
                  case measure => simp [intOf]; omega
              · have j1 : (n : Int) ≤ (i : Int) := by omega
                go_wp2_with fail
                refine (unhide HC2 _ _ (unhide HS')).mono ?_
                rintro e w6 ⟨rfl, rfl⟩
                go_wp2_with fail
                refine (unhide HC3 _ _ (unhide HS')).mono ?_
                rintro e w6 ⟨rfl, rfl⟩
                go_wp2_with fail
                go_ret
                exact ⟨rfl, unhide HB'⟩

theorem spaceHolds_walk (a0 : Int) (w0 : (Lit.int .i64 a0).wf = true) (a1 : Int) (w1 : (Lit.int .i64 a1).wf = true) {H : Type} {enc : TypeId × Value → H} {base b0 : Nat} {spare : Nat → Bool} {held : Bool} {r : Reach} {v : Value} {d : DataW H} {p : List MemPlace} (w : World)
    (hv : Value.okWide Try.prog w r b0 22 v) (hd : DataW.Trod enc Try.prog w base spare held 22 v d p) :
    Calls Try.prog 4 #[.int .i64 a0, .int .i64 a1, v] w fun e w' => e = .returned (.bool true) ∧ Below w.heap.size w w' := by
  obtain ⟨a, len, cap, rfl, hl, ha⟩ := uacts_open hv hd
  exact holds_any a0 a1 a len cap w hl ha
end Go.Proofs.Ytemffpkpalncgaa
