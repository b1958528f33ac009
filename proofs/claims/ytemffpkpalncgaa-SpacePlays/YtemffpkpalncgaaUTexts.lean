/- SpaceTexts' walk. -/
import Derived.Test.YtemffpkpalncgaaUAwake
import Derived.Test.YtemffpkpalncgaaUActs
namespace Go.Proofs.Ytemffpkpalncgaa
open Go.RowKit
set_option linter.unusedVariables false

theorem utake_some {base : Nat} {w : World} {b g : Nat} {l : List Nat} (h : SpAt base w b g l) :
    Calls Try.prog 9 #[.pointer (some ⟨b, 0, none⟩)] w fun e w' => ∃ (x y : Int) (l' : List Nat), e = .returned (.tuple #[.int .i64 x, .int .i64 y]) ∧ l'.length = l.length ∧ SpAt base w' b g l' ∧ But g w.heap.size w w' := by
  by_cases h0 : 0 ∈ l
  · refine (utake_ok h h0).mono ?_
    rintro e w' ⟨rfl, h1, h2⟩
    exact ⟨_, _, _, rfl, Sp.taken_length l, h1, h2⟩
  · refine (utake_no h h0).mono ?_
    rintro e w' ⟨rfl, rfl⟩
    exact ⟨_, _, _, rfl, rfl, h, But.refl _ _ _⟩
theorem may_of (l : List Nat) (k : Nat) (h : Sp.mayGive l k = false) : stAt l (k : Int) ≠ 1 ∧ stAt l (k : Int) ≠ 2 := by
  unfold Sp.mayGive at h
  by_cases hk : k < l.length
  · rw [stAt_in l k hk]
    have : Sp.use (l.getD k 0) = false := by simpa [hk] using h
    have e : l.getD k 0 = l[k] := by simp [List.getD, hk]
    rw [e] at this
    simp [Sp.use] at this
    omega
  · rw [stAt_out l k (.inr (by omega))]
    omega
theorem ugive_some {base : Nat} {w : World} {b g : Nat} {l : List Nat} (h : SpAt base w b g l) (k : Nat) :
    Calls Try.prog 11 #[.pointer (some ⟨b, 0, none⟩), .int .i64 (k : Int)] w fun e w' => ∃ (x : Int) (l' : List Nat), e = .returned (.int .i64 x) ∧ l'.length = l.length ∧ SpAt base w' b g l' ∧ But g w.heap.size w w' := by
  cases h0 : Sp.mayGive l k with
  | true =>
    refine (ugive_ok h k h0).mono ?_
    rintro e w' ⟨rfl, h1, h2⟩
    exact ⟨_, _, rfl, Sp.given_length l k, h1, h2⟩
  | false =>
    refine (ugive_no h k (may_of l k h0)).mono ?_
    rintro e w' ⟨rfl, rfl⟩
    exact ⟨_, _, rfl, rfl, h, But.refl _ _ _⟩
theorem count_prs (n : Nat) (t : List UInt8) : Sp.count 2 (Sp.prs n t) = 0 := by
  unfold Sp.count
  rw [List.count_eq_zero]
  intro h
  simp only [Sp.prs, List.mem_map] at h
  obtain ⟨y, _, e⟩ := h
  split at e <;> omega

/- A Parse of any bytes, as the law asks it. -/
theorem parse_told (n : Nat) (t : List UInt8) (w : World) (h1 : 1 ≤ n) (hn : n ≤ 128) (ht : t.length ≤ 20) :
    Calls Try.prog 21 #[.int .i64 (n : Int), .string (S t)] w fun e w' =>
      ((e = .returned (.tuple #[.pointer none, .int .i64 2]) ∧ (((t.length : Int) == ((n : Int) + 7) / 8) = false ∨
        (((t.length : Int) == ((n : Int) + 7) / 8) = true ∧ 0 < (n : Int) % 8 ∧ (n : Int) % 8 < 8 ∧ 1 ≤ (t.length : Int) ∧ t.length - 1 < t.length ∧ ∃ c : UInt8, (∀ h, (S t)[(n + 7) / 8 - 1]'h = c) ∧ 0 < (c.toNat : Int) / 2 ^ (n % 8)))) ∨
       ∃ b, e = .returned (.tuple #[.pointer (some ⟨b, 0, none⟩), .int .i64 0]) ∧ ∀ w2, Below w'.heap.size w' w2 → Calls Try.prog 22 #[.pointer (some ⟨b, 0, none⟩)] w2 fun e w' => e = .returned (.string (S t)) ∧ Below w2.heap.size w2 w') ∧ Below w.heap.size w w' := by
  by_cases hl : t.length = (n + 7) / 8
  · have hpos : 1 ≤ t.length := by omega
    have hi : t.length - 1 < t.length := by omega
    refine (uparse_any n t w h1 hn hl).mono ?_
    rintro e w' ⟨hp, hb⟩
    refine ⟨?_, hb⟩
    unfold UParsed at hp
    split at hp
    · rename_i he
      obtain ⟨b, g, rfl, hs⟩ := hp
      refine .inr ⟨b, rfl, fun w2 hb2 => ?_⟩
      have := utext_any (hs.later hb2)
      rw [he] at this
      exact this
    · rename_i he
      subst hp
      refine .inl ⟨rfl, .inr ⟨by simp; omega, ?_, by omega, by omega, hi, t[t.length - 1], fun h => by
        show t[(n + 7) / 8 - 1] = t[t.length - 1]
        congr 1
        omega, ?_⟩⟩
      · rcases Nat.eq_zero_or_pos (n % 8) with h0 | h0
        · exact absurd (Sp.txt_prs n t hl (.inl h0)) he
        · omega
      · have hne : ¬ (t.getD (t.length - 1) 0).toNat / 2 ^ (n % 8) = 0 := fun h0 => he (Sp.txt_prs n t hl (.inr h0))
        have e1 : t.getD (t.length - 1) 0 = t[t.length - 1] := by simp [List.getD, hi]
        rw [e1] at hne
        have e2 : ((t[t.length - 1].toNat : Int)) / 2 ^ (n % 8) = ((t[t.length - 1].toNat / 2 ^ (n % 8) : Nat) : Int) := by simp
        rw [e2]
        exact Int.natCast_pos.2 (Nat.pos_of_ne_zero hne)
  · refine (uparse_len n t w h1 hn (by unfold maxLen; omega) hl).mono ?_
    rintro e w' ⟨rfl, hb⟩
    exact ⟨.inl ⟨rfl, .inl (by simp; omega)⟩, hb⟩

set_option maxHeartbeats 3200000 in
theorem texts_any (a0 : Int) (a : Option Addr) (len cap : Nat) (tx : List UInt8) (w : World) (hlen : len ≤ maxLen) (hacts : UActs w a len) :
    Calls Try.prog 5 #[.int .i64 a0, .slice a len cap, .string (S tx)] w fun e w' => e = .returned (.bool true) ∧ Below w.heap.size w w' := by
  unfold maxLen at hlen
  have HACTS := hide hacts
  have HAW := hide (fun w => uawake_any w)
  obtain ⟨n, hn, hn1, hn2⟩ : ∃ n : Nat, wrap64 (1 + bits .and .i64 a0 127) = (n : Int) ∧ 1 ≤ n ∧ n ≤ 128 := by
    have := u_mask a0 7 127 (by omega) (by decide)
    exact ⟨_, this.1, by omega, by have := this.2; omega⟩
  have HNEW := hide (unew_ok n w hn1 hn2)
  have HCUT := hide (fun w => ucut_any tx 20 w)
  have htx : (tx.take 20).length ≤ 20 := List.length_take_le _ _
  generalize tx.take 20 = t at *
  have e0 : (List.replicate n 0).length = n := by simp
  generalize List.replicate n 0 = l0 at *
  have HE0 := hide e0
  clear hacts e0
  go_enter Try.func5, Try.ntmps5
  go_wp2_with fail
  refine (unhide HNEW).mono ?_
  rintro e w1 ⟨b, g, rfl, hs1, hb1⟩
  have HS := hide hs1
  have HG := hide hs1.log
  have HB := hide hb1
  clear hs1 hb1 HNEW
  go_wp2_with fail
  refine (unhide HCUT _).mono ?_
  rintro e w2 ⟨rfl, rfl⟩
  clear HCUT
  go_wp2_with fail
  refine (unhide HAW _).mono ?_
  rintro e w3 ⟨rfl, hb⟩
  have HB2 := hide ((unhide HB).trans (hb.mono (unhide HB).size))
  have HS2 := hide ((unhide HS).later hb)
  clear hb HB HS HAW
  go_wp2_with fail
  go_loopw [9] (fun i wr => ∃ (k : Nat) (l : List Nat), k ≤ 60 ∧ k ≤ len ∧ i = .int .i64 k ∧ l.length = n ∧ SpAt w.heap.size wr b g l ∧ Below w.heap.size w wr) (fun i _ => 60 - (intOf i).toNat)
  case atStart => exact ⟨0, l0, Nat.zero_le _, Nat.zero_le _, rfl, unhide HE0, unhide HS2, unhide HB2⟩
  case round =>
    obtain ⟨k, l, hk, hkl, rfl, hl, hs, hb⟩ := hrel
    clear HS2 HB2
    have HL := hide hl
    have HS := hide hs
    have HB := hide hb
    by_cases hlt : k < len ∧ k < 60
    · obtain ⟨h1, h2⟩ := hlt
      obtain ⟨kind, at', hact⟩ := unhide HACTS k h1
      obtain ⟨⟨ab, ao, rfl, c0, c1⟩, hat1, hat2⟩ := hact.later hb
      have i1 : (0 : Int) ≤ (k : Int) := by omega
      have i2 : (k : Int) < (len : Int) := by omega
      have i3 : (k : Int) < 60 := by omega
      clear hact hl hs hb
      by_cases hz : bits .and .i64 kind 1 = 0
      · obtain ⟨q, hq1, hq2⟩ := u_and255 at' n hn1
        have hnz : ((n : Int) == 0) = false := by simp; omega
        have HGV := hide (ugive_some (unhide HS) q)
        go_wp2_with fail
        refine (unhide HGV).mono ?_
        rintro e w4 ⟨x, l', rfl, hl', hs', hb'⟩
        have HB' := hide ((unhide HB).trans (hb'.below (unhide HG) (unhide HB).size))
        have HS' := hide hs'
        have HL' := hide (hl'.trans (unhide HL))
        clear hl' hs' hb' HGV HB HS HL
        go_wp2_with fail
        go_roundw
        case rel => exact ⟨k + 1, l', by omega, by omega, by go_num, unhide HL', unhide HS', unhide HB'⟩
        case measure => simp [intOf]; omega
      · have hzz : (bits .and .i64 kind 1 == 0) = false := by simpa using hz
        have HGV := hide (utake_some (unhide HS))
        go_wp2_with fail
        refine (unhide HGV).mono ?_
        rintro e w4 ⟨x, x2, l', rfl, hl', hs', hb'⟩
        have HB' := hide ((unhide HB).trans (hb'.below (unhide HG) (unhide HB).size))
        have HS' := hide hs'
        have HL' := hide (hl'.trans (unhide HL))
        clear hl' hs' hb' HGV HB HS HL
        go_wp2_with fail
        go_roundw
        case rel => exact ⟨k + 1, l', by omega, by omega, by go_num, unhide HL', unhide HS', unhide HB'⟩
        case measure => simp [intOf]; omega
    · have hor : len ≤ k ∨ (k < len ∧ 60 ≤ k) := by omega
      clear hl hs hb hlt
      have HTX := hide (fun w (h : SpAt (w3.heap.size - w3.heap.size) w b g l) => utext_any h)
      clear HTX
      have HTX : Hid (∀ B w, SpAt B w b g l → Calls Try.prog 22 #[.pointer (some ⟨b, 0, none⟩)] w fun e w' => e = .returned (.string (S (Sp.txt l))) ∧ Below w.heap.size w w') := fun B w h => utext_any h
      have HPA := hide (fun w => uparse_any n (Sp.txt l) w hn1 hn2 (by rw [Sp.txt_length, unhide HL]))
      have HEQ : Hid (Sp.txt (Sp.prs n (Sp.txt l)) = Sp.txt l) := by
        have := Sp.txt_prs_txt l
        rw [unhide HL] at this
        exact this
      have HTY : Hid (∀ B w b g, SpAt B w b g (Sp.prs n (Sp.txt l)) → Calls Try.prog 22 #[.pointer (some ⟨b, 0, none⟩)] w fun e w' => e = .returned (.string (S (Sp.txt l))) ∧ Below w.heap.size w w') := fun B w b g h => by
        have := utext_any h
        rw [unhide HEQ] at this
        exact this
      have HCN : Hid (∀ B w b g, SpAt B w b g (Sp.prs n (Sp.txt l)) → Calls Try.prog 19 #[.pointer (some ⟨b, 0, none⟩), .int .i64 2] w fun e w' => e = .returned (.int .i64 0) ∧ w' = w) := fun B w b g h => by
        have := ucount_any h 2
        rw [count_prs] at this
        exact this
      have HLN : Hid (∀ B w b g, SpAt B w b g (Sp.prs n (Sp.txt l)) → Calls Try.prog 23 #[.pointer (some ⟨b, 0, none⟩)] w fun e w' => e = .returned (.int .i64 (n : Int)) ∧ w' = w) := fun B w b g h => by
        have := ulen_any h
        rw [Sp.prs_length] at this
        exact this
      have HOK : Hid (∀ B w e, UParsed B n (Sp.txt l) w e → ∃ b g, e = .returned (.tuple #[.pointer (some ⟨b, 0, none⟩), .int .i64 0]) ∧ SpAt B w b g (Sp.prs n (Sp.txt l))) := fun B w e h => by
        unfold UParsed at h
        rw [if_pos (unhide HEQ)] at h
        exact h
      have HPB := hide (fun w => parse_told n t w hn1 hn2 htx)
      generalize Sp.prs n (Sp.txt l) = lp at *
      generalize Sp.txt l = T at *
      have hse : ((S T).toList == (S T).toList) = true := by simp
      rcases hor with h1 | ⟨h1, h2⟩
      all_goals
        go_wp2_with fail
        refine (unhide HTX _ _ (unhide HS)).mono ?_
        rintro e w4 ⟨rfl, hb⟩
        have HS4 := hide ((unhide HS).later hb)
        have HB4 := hide ((unhide HB).trans (hb.mono (unhide HB).size))
        clear hb HS HB
        go_wp2_with fail
        refine (unhide HPA _).mono ?_
        rintro e w5 ⟨hp, hb⟩
        obtain ⟨b2, g2, rfl, hs5⟩ := unhide HOK _ _ _ hp
        have HT5 := hide (hs5.less (show w.heap.size ≤ w4.heap.size from (unhide HB4).size))
        have HS5 := hide ((unhide HS4).later hb)
        have HB5 := hide ((unhide HB4).trans (hb.mono (unhide HB4).size))
        clear hb HS4 HB4 hp hs5
        go_wp2_with fail
        refine (unhide HTY _ _ _ _ (unhide HT5)).mono ?_
        rintro e w6 ⟨rfl, hb⟩
        have HT6 := hide ((unhide HT5).later hb)
        have HS6 := hide ((unhide HS5).later hb)
        have HB6 := hide ((unhide HB5).trans (hb.mono (unhide HB5).size))
        clear hb HS5 HB5 HT5
        go_wp2_with fail
        refine (unhide HTX _ _ (unhide HS6)).mono ?_
        rintro e w7 ⟨rfl, hb⟩
        have HT7 := hide ((unhide HT6).later hb)
        have HB7 := hide ((unhide HB6).trans (hb.mono (unhide HB6).size))
        clear hb HS6 HB6 HT6
        go_wp2_with fail
        refine (unhide HCN _ _ _ _ (unhide HT7)).mono ?_
        rintro e w8 ⟨rfl, rfl⟩
        go_wp2_with fail
        refine (unhide HLN _ _ _ _ (unhide HT7)).mono ?_
        rintro e w9 ⟨rfl, rfl⟩
        clear HTX HTY HCN HLN HOK HEQ HT7 HPA hse
        go_wp2_with fail
        refine (unhide HPB _).mono ?_
        rintro e wA ⟨hp, hb⟩
        have HBA := hide ((unhide HB7).trans (hb.mono (unhide HB7).size))
        clear hb HB7 HPB
        rcases hp with ⟨rfl, hx⟩ | ⟨b3, rfl, hta⟩
        · rcases hx with hx | ⟨hx1, hx2, hx3, hx4, hx5, c, hx6, hx7⟩
          · have hx2 : ¬(((S t).size : Int) = ((n : Int) + 7) / 8) := by rw [S_size]; simpa using hx
            go_wp2_with fail
            go_ret
            exact ⟨rfl, unhide HBA⟩
          · go_wp2_with fail
            all_goals
              go_ret
              refine ⟨ret_bool ?_, unhide HBA⟩
              first | rfl | (show decide _ = true; rw [decide_eq_true_eq, hx6]; exact hx7)
        · have HTA := hide (hta wA (Below.refl _ _))
          have hse : ((S t).toList == (S t).toList) = true := by simp
          clear hta
          go_wp2_with fail
          refine (unhide HTA).mono ?_
          rintro e wC ⟨rfl, hb⟩
          have HBC := hide ((unhide HBA).trans (hb.mono (unhide HBA).size))
          clear hb HTA
          go_wp2_with fail
          go_ret
          exact ⟨rfl, unhide HBC⟩

theorem spaceTexts_walk (a0 : Int) (w0 : (Lit.int .i64 a0).wf = true) {H : Type} {enc : TypeId × Value → H} {base b0 : Nat} {spare : Nat → Bool} {held : Bool} {r : Reach} {v : Value} {d : DataW H} {p : List MemPlace} (w : World)
    (hv : Value.okWide Try.prog w r b0 22 v) (hd : DataW.Trod enc Try.prog w base spare held 22 v d p) (s : ByteArray) (hs : s.size ≤ maxLen) :
    Calls Try.prog 5 #[.int .i64 a0, v, .string s] w fun e w' => e = .returned (.bool true) ∧ Below w.heap.size w w' := by
  obtain ⟨a, len, cap, rfl, hl, ha⟩ := uacts_open hv hd
  exact texts_any a0 a len cap s.data.toList w hl ha
end Go.Proofs.Ytemffpkpalncgaa
