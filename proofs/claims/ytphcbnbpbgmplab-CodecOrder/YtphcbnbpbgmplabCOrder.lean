/- The contract of the reference's Less; the walk of the law CodecOrder: for every two lists of parts the call returns true, and nothing that was there has turned. -/
import Derived.Test.YtphcbnbpbgmplabCFew
import Derived.Test.YtphcbnbpbgmplabCOrderMath
import Derived.Deep.QuietTactic
import Derived.BigQuiet
namespace Go.Proofs.Ytphcbnbpbgmplab
open Go.RowKit
set_option linter.unusedVariables false

theorem S_less (a b : List UInt8) : Op.bytesLess (S a).toList (S b).toList = Codec.lt a b := by rw [S_list, S_list]; rfl

set_option maxHeartbeats 400000 in
theorem less_any (la lb : List (List UInt8)) (a b : Option Addr) (n m c d : Nat) (w : World) (hn : la.length = n) (hm : lb.length = m) (hn64 : n ≤ 64) (hm64 : m ≤ 64) (ha : Texts w a la) (hb : Texts w b lb) :
    Calls Try.prog 31 #[.slice a n c, .slice b m d] w fun e w' => e = .returned (.bool (Codec.less la lb)) ∧ Below w.heap.size w w' := by
  have HA := hide ha
  have HB := hide hb
  have HN := hide hn
  have HM := hide hm
  clear ha hb hn hm
  go_enter Try.func31, Try.ntmps31
  go_wp2_with fail
  go_loopw [8] (fun i wr => ∃ k : Nat, k ≤ n ∧ i = .int .i64 k ∧ Codec.less la lb = Codec.lessAt la lb k ∧ Below w.heap.size w wr) (fun i _ => n - (intOf i).toNat)
  case atStart => exact ⟨0, by omega, rfl, rfl, Below.refl _ _⟩
  case round =>
    obtain ⟨k, hk, rfl, hls, hbw⟩ := hrel
    have HLS := hide hls
    clear hls
    by_cases hlt : k < n
    · have hka : k < la.length := by rw [unhide HN]; exact hlt
      obtain ⟨ga, oa, ea, hga, hca⟩ := unhide HA k hka
      subst ea
      rw [← hbw.cell (p := ⟨ga, oa + k, none⟩) hga] at hca
      by_cases hltm : k < m
      · have hkb : k < lb.length := by rw [unhide HM]; exact hltm
        obtain ⟨gb, ob, eb, hgb, hcb⟩ := unhide HB k hkb
        subst eb
        rw [← hbw.cell (p := ⟨gb, ob + k, none⟩) hgb] at hcb
        have HST := hide (Codec.lessAt_step la lb k hka hkb)
        generalize la[k] = p at *
        generalize lb[k] = q at *
        have hd : decide ((m : Int) ≤ (k : Int)) = false := by simp; omega
        have hd2 : decide (m ≤ k) = false := by simp; omega
        have hpq := S_less p q
        have hqp := S_less q p
        have heq : ((S p).toList == (S q).toList) = (p == q) := by rw [S_list, S_list]
        by_cases h1 : Codec.lt q p = true
        · have h2 := Codec.lt_asym q p h1
          have h3 : (p == q) = false := by
            rw [beq_eq_false_iff_ne]; intro e; subst e; rw [Codec.lt_irr] at h1; exact absurd h1 (by decide)
          have hst := unhide HST
          rw [if_pos h1] at hst
          have HR := hide ((unhide HLS).trans hst)
          rw [h2] at hpq
          rw [h3] at heq
          clear hst HST HLS h1 h2 h3 hqp
          go_wp2_with fail
          go_quiet (fail)
          go_wp2
          go_ret
          exact ⟨ret_bool (unhide HR).symm, below_drewN hbw _⟩
        · have h1' : Codec.lt q p = false := by simpa using h1
          by_cases h2 : Codec.lt p q = true
          · have hst := unhide HST
            rw [if_neg h1, if_pos h2] at hst
            have HR := hide ((unhide HLS).trans hst)
            rw [h2] at hpq
            clear hst HST HLS h1 h1' h2 hqp heq
            go_wp2_with fail
            go_quiet (fail)
            go_wp2_with fail
            go_quiet (fail)
            go_wp2
            go_ret
            exact ⟨ret_bool (unhide HR).symm, below_drewN (below_drewN hbw _) _⟩
          · have h2' : Codec.lt p q = false := by simpa using h2
            have h3 : (p == q) = true := by rw [beq_iff_eq]; exact Codec.lt_total p q h2' h1'
            have hst := unhide HST
            rw [if_neg h1, if_neg h2] at hst
            have HR := hide ((unhide HLS).trans hst)
            rw [h2'] at hpq
            rw [h3] at heq
            clear hst HST HLS h1 h1' h2 h2' h3 hqp
            go_wp2_with fail
            go_quiet (fail)
            go_wp2_with fail
            go_quiet (fail)
            go_wp2
            go_roundw
            case rel => exact ⟨k + 1, by omega, by go_num, unhide HR, below_drewN hbw _⟩
            case measure => simp [intOf]; omega
      · have HR := hide ((unhide HLS).trans (Codec.lessAt_short la lb k hka (by rw [unhide HM]; omega)))
        have hd : decide ((m : Int) ≤ (k : Int)) = true := by simp; omega
        have hd2 : decide (m ≤ k) = true := by simp; omega
        clear HLS
        generalize la[k] = p at *
        go_wp2_with fail
        go_quiet (fail)
        go_wp2
        go_ret
        exact ⟨ret_bool (unhide HR).symm, below_drewN hbw _⟩
    · have hkn : k = la.length := by rw [unhide HN]; omega
      have HR := hide ((unhide HLS).trans (Codec.lessAt_end la lb k hkn))
      have HKM : Hid (k = n) := by show _ = _; omega
      clear hkn HLS
      go_wp2
      go_ret
      refine ⟨ret_bool ?_, hbw⟩
      rw [unhide HR, unhide HM, unhide HKM]

theorem lits_small (l : List (List UInt8)) (n m : Nat) (hm : m ≤ 1048576) : ∀ i (h : i < (few l n m).length), (few l n m)[i].length ≤ 1048576 := fun i h => Nat.le_trans (few_at l n m i h) hm

set_option maxHeartbeats 1000000 in
theorem codecOrder_walk (a0 : Option Addr) (len0 cap0 : Nat) (z0 : List ByteArray) (w : World) (w0 : IsStrs w a0 len0 cap0 z0) (a1 : Option Addr) (len1 cap1 : Nat) (z1 : List ByteArray) (w1 : IsStrs w a1 len1 cap1 z1) :
    Calls Try.prog 6 #[.slice a0 len0 cap0, .slice a1 len1 cap1] w fun e w' => e = .returned (.bool true) ∧ Below w.heap.size w w' := by
  obtain ⟨l0, hl0, hm0, hz0, ht0⟩ := w0.norm
  obtain ⟨l1, hl1, hm1, hz1, ht1⟩ := w1.norm
  have HF0 := hide (few_any l0 4 8 a0 len0 cap0 w hl0 hm0 hz0 ht0 (by omega) (by omega))
  have HF1 : Hid (∀ wx, Below w.heap.size w wx → Calls Try.prog 26 #[.slice a1 len1 cap1, .int .i64 (4 : Nat), .int .i64 (8 : Nat)] wx fun e w' => ∃ v, e = .returned v ∧ w'.ownsRow wx.heap.size 9 1 v (few l1 4 8).length (T9 (few l1 4 8)) ∧ Below wx.heap.size wx w') :=
    fun wx hb => few_any l1 4 8 a1 len1 cap1 wx hl1 hm1 hz1 (ht1.later hb) (by omega) (by omega)
  have g0 : (few l0 4 8).length ≤ 4 := by rw [few_length]; omega
  have g1 : (few l1 4 8).length ≤ 4 := by rw [few_length]; omega
  have s0 := lits_small l0 4 8 (by omega)
  have s1 := lits_small l1 4 8 (by omega)
  clear hl0 hm0 hz0 ht0 hl1 hm1 hz1 ht1 w0 w1
  generalize few l0 4 8 = la at *
  generalize few l1 4 8 = lb at *
  go_enter Try.func6, Try.ntmps6
  go_wp2_with fail
  refine (unhide HF0).mono ?_
  rintro e v1 ⟨x1, rfl, hown1, hb1⟩
  obtain ⟨p, c, rfl, htp, _⟩ := texts_of_own hown1
  clear HF0 hown1
  go_wp2_with fail
  refine (unhide HF1 v1 hb1).mono ?_
  rintro e v2 ⟨x2, rfl, hown2, hb2⟩
  obtain ⟨q, d, rfl, htq, _⟩ := texts_of_own hown2
  have htp2 := htp.later hb2
  have hbb2 : Below w.heap.size w v2 := hb1.trans (hb2.mono hb1.size)
  clear HF1 hown2 htp hb1 hb2
  go_wp2_with fail
  refine (awake_any _).mono ?_
  rintro e v3 ⟨rfl, hb3⟩
  have HTP := hide (htp2.later hb3)
  have HTQ := hide (htq.later hb3)
  have hbb3 : Below w.heap.size w v3 := hbb2.trans (hb3.mono hbb2.size)
  clear htp2 htq hb3 hbb2
  have K1 := hide (key_any la p la.length c v3 rfl (by omega) s0 (unhide HTP))
  go_wp2_with fail
  refine (unhide K1).mono ?_
  rintro e v4 ⟨rfl, hb4⟩
  clear K1
  have K2 := hide (key_any lb q lb.length d v4 rfl (by omega) s1 ((unhide HTQ).later hb4))
  have hbb4 : Below v3.heap.size v3 v4 := hb4
  go_wp2_with fail
  refine (unhide K2).mono ?_
  rintro e v5 ⟨rfl, hb5⟩
  have hbb5 : Below v3.heap.size v3 v5 := hb4.trans (hb5.mono hb4.size)
  clear K2 hb4 hb5 hbb4
  have hx1 : Op.bytesLess (S (Codec.key la)).toList (S (Codec.key lb)).toList = Codec.less la lb := by rw [S_less, Codec.key_less]
  have hx2 : Op.bytesLess (S (Codec.key lb)).toList (S (Codec.key la)).toList = Codec.less lb la := by rw [S_less, Codec.key_less]
  have hx3 : ((S (Codec.key la)).toList == (S (Codec.key lb)).toList) = (!Codec.less la lb && !Codec.less lb la) := by rw [S_list, S_list, Codec.key_eq]
  have L1 : Hid (∀ wx, Below v3.heap.size v3 wx → Calls Try.prog 31 #[.slice p la.length c, .slice q lb.length d] wx fun e w' => e = .returned (.bool (Codec.less la lb)) ∧ Below wx.heap.size wx w') :=
    fun wx hb => less_any la lb p q _ _ c d wx rfl rfl (by omega) (by omega) ((unhide HTP).later hb) ((unhide HTQ).later hb)
  have L2 : Hid (∀ wx, Below v3.heap.size v3 wx → Calls Try.prog 31 #[.slice q lb.length d, .slice p la.length c] wx fun e w' => e = .returned (.bool (Codec.less lb la)) ∧ Below wx.heap.size wx w') :=
    fun wx hb => less_any lb la q p _ _ d c wx rfl rfl (by omega) (by omega) ((unhide HTQ).later hb) ((unhide HTP).later hb)
  clear HTP HTQ s0 s1
  generalize S (Codec.key la) = ka at *
  generalize S (Codec.key lb) = kb at *
  generalize Codec.less la lb = b1 at *
  generalize Codec.less lb la = b2 at *
  go_wp2_with fail
  refine (unhide L1 v5 hbb5).mono ?_
  rintro e v6 ⟨rfl, hb6⟩
  have hbb6 : Below v3.heap.size v3 v6 := hbb5.trans (hb6.mono hbb5.size)
  clear hb6 hbb5
  go_wp2_with fail
  refine (unhide L2 v6 hbb6).mono ?_
  rintro e v7 ⟨rfl, hb7⟩
  have hbb7 : Below v3.heap.size v3 v7 := hbb6.trans (hb7.mono hbb6.size)
  clear hb7 hbb6
  go_wp2_with fail
  refine (unhide L1 v7 hbb7).mono ?_
  rintro e v8 ⟨rfl, hb8⟩
  have hbb8 : Below v3.heap.size v3 v8 := hbb7.trans (hb8.mono hbb7.size)
  clear hb8 hbb7
  cases b1
  · go_wp2_with fail
    refine (unhide L2 v8 hbb8).mono ?_
    rintro e v9 ⟨rfl, hb9⟩
    have fin : Below w.heap.size w v9 := hbb3.trans ((hbb8.trans (hb9.mono hbb8.size)).mono hbb3.size)
    clear hb9 hbb8 L1 L2
    cases b2
    all_goals
      go_wp2
      go_ret
      exact ⟨rfl, fin⟩
  · have fin : Below w.heap.size w v8 := hbb3.trans (hbb8.mono hbb3.size)
    clear hbb8 L1 L2
    cases b2
    all_goals
      go_wp2
      go_ret
      exact ⟨rfl, fin⟩
end Go.Proofs.Ytphcbnbpbgmplab
