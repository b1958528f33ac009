/- The walk of the law CodecJoin: for every two lists of parts the call returns true, and nothing that was there has turned. -/
import Derived.Test.YtphcbnbpbgmplabCParts
import Derived.Test.YtphcbnbpbgmplabCAppend
import Derived.Deep.QuietTactic
import Derived.BigQuiet
namespace Go.Proofs.Ytphcbnbpbgmplab
open Go.RowKit
set_option linter.unusedVariables false

theorem src_texts {w : World} {a : Option Addr} {l : List (List UInt8)} {c : Nat} (ht : Texts w a l) (hc : l = [] ∧ a = none ∨ ∃ g, a = some ⟨g, 0, none⟩) :
    Src Try.prog 1 47 (.slice a l.length c) l.length (T9 l) w := by
  rcases hc with ⟨rfl, rfl⟩ | ⟨g, rfl⟩
  · exact Src.ofNil w under_strings c
  · refine Src.ofSlice w under_strings ⟨g, 0, none⟩ l.length c (T9 l) (by rw [T9_length]; omega) ?_ ?_
    · intro j u hu
      have hj : j < l.length := by
        have := (List.getElem?_eq_some_iff.1 hu).1
        rwa [T9_length] at this
      obtain ⟨b, off, e, _, hcell⟩ := ht j hj
      injection e with e
      injection e with e1 e2
      subst e1 e2
      rw [plain_add, hcell]
      simp [T9, hj] at hu
      rw [hu]
    · intro u hu
      simp [T9] at hu
      obtain ⟨x, _, rfl⟩ := hu
      rfl

theorem few_small (l : List (List UInt8)) (n m : Nat) (hm : m ≤ 1048576) : ∀ i (h : i < (few l n m).length), (few l n m)[i].length ≤ 1048576 := fun i h => Nat.le_trans (few_at l n m i h) hm

theorem append_small (a b : List (List UInt8)) (ha : ∀ i (h : i < a.length), a[i].length ≤ 1048576) (hb : ∀ i (h : i < b.length), b[i].length ≤ 1048576) : ∀ i (h : i < (a ++ b).length), (a ++ b)[i].length ≤ 1048576 := by
  intro i h
  rw [List.getElem_append]
  split
  · exact ha _ _
  · exact hb _ _

theorem key_len (l : List (List UInt8)) (m : Nat) (h : ∀ i (hi : i < l.length), l[i].length ≤ m) : (Codec.key l).length ≤ (2 * m + 2) * l.length := by
  induction l with
  | nil => simp [Codec.key]
  | cons p l ih =>
    have e : Codec.key (p :: l) = Codec.encPart p ++ Codec.key l := rfl
    have h1 := ih (fun i hi => h (i + 1) (by simpa using hi))
    have h2 := Codec.esc_length p
    have h3 := h 0 (by simp)
    simp at h3
    have h4 : (Codec.encPart p).length = (Codec.esc p).length + 2 := by simp [Codec.encPart]
    rw [e, List.length_append, List.length_cons, Nat.mul_succ]
    omega

set_option maxHeartbeats 1000000 in
theorem codecJoin_walk (a0 : Option Addr) (len0 cap0 : Nat) (z0 : List ByteArray) (w : World) (w0 : IsStrs w a0 len0 cap0 z0) (a1 : Option Addr) (len1 cap1 : Nat) (z1 : List ByteArray) (w1 : IsStrs w a1 len1 cap1 z1) :
    Calls Try.prog 7 #[.slice a0 len0 cap0, .slice a1 len1 cap1] w fun e w' => e = .returned (.bool true) ∧ Below w.heap.size w w' := by
  obtain ⟨i0, hi, hy0, hy1, hy2⟩ := info_parts info_string
  obtain ⟨l0, hl0, hm0, hz0, ht0⟩ := w0.norm
  obtain ⟨l1, hl1, hm1, hz1, ht1⟩ := w1.norm
  have HF0 := hide (few_any l0 4 8 a0 len0 cap0 w hl0 hm0 hz0 ht0 (by omega) (by omega))
  have HF1 : Hid (∀ wx, Below w.heap.size w wx → Calls Try.prog 26 #[.slice a1 len1 cap1, .int .i64 (4 : Nat), .int .i64 (8 : Nat)] wx fun e w' => ∃ v, e = .returned v ∧ w'.ownsRow wx.heap.size 9 1 v (few l1 4 8).length (T9 (few l1 4 8)) ∧ Below wx.heap.size wx w') :=
    fun wx hb => few_any l1 4 8 a1 len1 cap1 wx hl1 hm1 hz1 (ht1.later hb) (by omega) (by omega)
  have g0 : (few l0 4 8).length ≤ 4 := by rw [few_length]; omega
  have g1 : (few l1 4 8).length ≤ 4 := by rw [few_length]; omega
  have S0 := hide (few_small l0 4 8 (by omega))
  have S1 := hide (few_small l1 4 8 (by omega))
  have T0 := hide (few_at l0 4 8)
  have T1 := hide (few_at l1 4 8)
  clear hl0 hm0 hz0 ht0 hl1 hm1 hz1 ht1 w0 w1
  generalize few l0 4 8 = la at *
  generalize few l1 4 8 = lb at *
  go_enter Try.func7, Try.ntmps7
  go_wp2_with fail
  refine (unhide HF0).mono ?_
  rintro e v1 ⟨x1, rfl, hown1, hb1⟩
  obtain ⟨p, c, rfl, htp, hcp⟩ := texts_of_own hown1
  clear HF0 hown1
  go_wp2_with fail
  refine (unhide HF1 v1 hb1).mono ?_
  rintro e v2 ⟨x2, rfl, hown2, hb2⟩
  obtain ⟨q, d, rfl, htq, hcq⟩ := texts_of_own hown2
  have htp2 := htp.later hb2
  have hbb2 : Below w.heap.size w v2 := hb1.trans (hb2.mono hb1.size)
  clear HF1 hown2 htp hb1 hb2
  go_wp2_with fail
  refine (awake_any _).mono ?_
  rintro e v3 ⟨rfl, hb3⟩
  have HTP := hide (htp2.later hb3)
  have HTQ := hide (htq.later hb3)
  have HCP := hide hcp
  have HCQ := hide hcq
  have hbb3 : Below w.heap.size w v3 := hbb2.trans (hb3.mono hbb2.size)
  clear htp2 htq hb3 hbb2 hcp hcq
  have HE0 : Hid ((v3.alloc (.cells #[] 9)).ownsRow v3.heap.size 9 1 (.slice (some ⟨v3.heap.size, 0, none⟩) 0 0) 0 []) :=
    World.ownsRow_lit v3 #[] 0 (Nat.le_refl _) (by simp [maxLen]) (by simp)
  have HNE0 : Hid (Value.slice (some ⟨v3.heap.size, 0, none⟩) 0 0 ≠ Value.slice none 0 0) := by
    show _ ≠ _
    simp
  have hbe : Below v3.heap.size v3 (v3.alloc (.cells #[] 9)) := (Below.refl _ _).alloc (Nat.le_refl _) _
  have HS0 := hide (src_texts (c := c) ((unhide HTP).later hbe) (unhide HCP))
  go_wp2_with (first | (at_builtin; refine wpList_append_src rfl _ _ 47 47 rfl v3.heap.size 9 i0 (.string ⟨#[]⟩) 1 16 under_strings hi hy0 hy1 hy2 rfl (by decide) _ _ _ rfl (unhide HE0) (unhide HNE0) _ _ _ rfl (unhide HS0) ?c3 ?c4 ?c5 ?_) | fail)
  case c3 => unfold maxLen; omega
  case c4 => omega
  case c5 => simp
  intro x4 v4 hown4 hgrow4 _ hnil4
  have hz4 := hgrow4.size
  simp at hz4
  have hb4 : Below v3.heap.size v3 v4 := hbe.grown hgrow4 (by simp) (fun j hj => ((unhide HE0).lt j hj).1)
  have HS1 := hide (src_texts (c := d) ((unhide HTQ).later hb4) (unhide HCQ))
  have HO4 := hide hown4
  have HN4 := hide hnil4
  clear hown4 hgrow4 HS0 HE0 hbe hnil4
  go_wp2_with (first | (at_builtin; refine wpList_append_src rfl _ _ 47 47 rfl v3.heap.size 9 i0 (.string ⟨#[]⟩) 1 16 under_strings hi hy0 hy1 hy2 rfl (by decide) _ _ _ rfl (unhide HO4) (unhide HN4) _ _ _ rfl (unhide HS1) ?c3 ?c4 ?c5 ?_) | fail)
  case c3 => unfold maxLen; omega
  case c4 => omega
  case c5 => omega
  intro x5 v5 hown5 hgrow5 _ _
  have hb5 : Below v3.heap.size v3 v5 := hb4.grown hgrow5 (by omega) (fun j hj => ((unhide HO4).lt j hj).1)
  rw [← T9_append, ← List.length_append] at hown5
  obtain ⟨a5, c5, rfl, ht5, _⟩ := texts_of_own hown5
  have SAB := hide (append_small la lb (unhide S0) (unhide S1))
  have hab : (la ++ lb).length ≤ 8 := by rw [List.length_append]; omega
  have hkey : Codec.key (la ++ lb) = Codec.key la ++ Codec.key lb := Codec.key_append la lb
  have hka := key_len la 8 (unhide T0)
  have hkb := key_len lb 8 (unhide T1)
  have hparts := Codec.parts_key (la ++ lb)
  have hlab : (la ++ lb).length = la.length + lb.length := List.length_append
  have K1 := hide (fun wx hw => key_any la p la.length c wx rfl (by omega) (unhide S0) hw)
  have K2 := hide (fun wx hw => key_any lb q lb.length d wx rfl (by omega) (unhide S1) hw)
  have K3 := hide (fun wx hw => key_any (la ++ lb) a5 (la ++ lb).length c5 wx rfl (by omega) (unhide SAB) hw)
  have PA := hide (fun wx => parts_any (Codec.key (la ++ lb)) wx (by rw [hkey, List.length_append]; omega))
  rw [hparts] at PA
  have hap : S (Codec.key la) ++ S (Codec.key lb) = S (Codec.key (la ++ lb)) := by rw [hkey]; exact S_append _ _
  have q1 := S_size (Codec.key la)
  have q2 := S_size (Codec.key lb)
  have HT5 := hide ht5
  have HTP5 := hide ((unhide HTP).later hb5)
  have HTQ5 := hide ((unhide HTQ).later hb5)
  have hbb5 : Below w.heap.size w v5 := hbb3.trans (hb5.mono hbb3.size)
  clear hown5 hgrow5 ht5 HO4 HN4 HS1 hb4 hb5 HTP HTQ HCP HCQ S0 S1 T0 T1 SAB hkey hparts hbb3 hz4
  generalize Codec.key la = ka at *
  generalize Codec.key lb = kb at *
  generalize Codec.key (la ++ lb) = kab at *
  clear hlab
  generalize la ++ lb = lab at *
  have H1 := hide (unhide K1 v5 (unhide HTP5))
  clear K1 HTP5
  go_wp2_with fail
  refine (unhide H1).mono ?_
  rintro e v6 ⟨rfl, hb6⟩
  have H2 := hide (unhide K2 v6 ((unhide HTQ5).later hb6))
  clear H1 K2 HTQ5
  go_wp2_with fail
  refine (unhide H2).mono ?_
  rintro e v7 ⟨rfl, hb7⟩
  have hb57 : Below v5.heap.size v5 v7 := hb6.trans (hb7.mono hb6.size)
  clear H2 hb6 hb7
  go_wp2_with fail
  refine (unhide PA _).mono ?_
  rintro e v8 ⟨x8, rfl, hown8, _, hb8⟩
  obtain ⟨a8, c8, rfl, ht8, _⟩ := texts_of_own hown8
  have hb58 : Below v5.heap.size v5 v8 := hb57.trans (hb8.mono hb57.size)
  have H3 := hide (unhide K3 v8 ((unhide HT5).later hb58))
  have HT8 := hide ht8
  clear PA K3 hown8 ht8 hb57 hb8 hap q1 q2
  go_wp2_with fail
  refine (unhide H3).mono ?_
  rintro e v9 ⟨rfl, hb9⟩
  have hb59 : Below v5.heap.size v5 v9 := hb58.trans (hb9.mono hb58.size)
  have HTA := hide ((unhide HT5).later hb59)
  have HTB := hide ((unhide HT8).later hb9)
  have hbb9 : Below w.heap.size w v9 := hbb5.trans (hb59.mono hbb5.size)
  clear H3 HT5 HT8 hb58 hb59 hb9 hbb5 hka hkb
  generalize hnl : lab.length = nl at *
  have HNL := hide hnl
  clear hnl
  go_wp2_with fail
  go_loopw [48] (fun i wr => ∃ k : Nat, k ≤ nl ∧ i = .int .i64 k ∧ Below v9.heap.size v9 wr) (fun i _ => nl - (intOf i).toNat)
  case atStart => exact ⟨0, by omega, rfl, Below.refl _ _⟩
  case round =>
    obtain ⟨k, hk, rfl, hbw⟩ := hrel
    by_cases hlt : k < nl
    · have hkl : k < lab.length := by rw [unhide HNL]; exact hlt
      obtain ⟨ga, oa, ea, hga, hca⟩ := unhide HTA k hkl
      obtain ⟨gb, ob, eb, hgb, hcb⟩ := unhide HTB k hkl
      subst ea eb
      rw [← hbw.cell (p := ⟨ga, oa + k, none⟩) hga] at hca
      rw [← hbw.cell (p := ⟨gb, ob + k, none⟩) hgb] at hcb
      generalize lab[k] = x at *
      go_wp2_with fail
      go_quiet (fail)
      go_wp2
      go_roundw
      case rel => exact ⟨k + 1, by omega, by go_num, below_drewN hbw _⟩
      case measure => simp [intOf]; omega
    · go_wp2
      go_ret
      exact ⟨rfl, hbb9.trans (hbw.mono hbb9.size)⟩
end Go.Proofs.Ytphcbnbpbgmplab
