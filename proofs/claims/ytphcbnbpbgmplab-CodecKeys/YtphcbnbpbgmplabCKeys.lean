/- The walk of the law CodecKeys: for every list of parts and every text the call returns true, and nothing that was there has turned. -/
import Derived.Test.YtphcbnbpbgmplabCRefKeys
import Derived.Deep.QuietTactic
import Derived.BigQuiet
namespace Go.Proofs.Ytphcbnbpbgmplab
open Go.RowKit
set_option linter.unusedVariables false

theorem esc_ge (p : List UInt8) : p.length ≤ (Codec.esc p).length := by
  induction p with
  | nil => simp
  | cons c p ih =>
    have e : Codec.esc (c :: p) = (if c.toNat = 0 then [0, 255] else [c]) ++ Codec.esc p := rfl
    rw [e, List.length_append, List.length_cons]
    split <;> simp <;> omega
theorem key_ge (l : List (List UInt8)) : l.length ≤ (Codec.key l).length ∧ ∀ i (h : i < l.length), l[i].length ≤ (Codec.key l).length := by
  induction l with
  | nil => simp
  | cons p l ih =>
    have e : Codec.key (p :: l) = Codec.encPart p ++ Codec.key l := rfl
    have h4 : (Codec.encPart p).length = (Codec.esc p).length + 2 := by simp [Codec.encPart]
    have h5 := esc_ge p
    rw [e, List.length_append]
    refine ⟨by rw [List.length_cons]; omega, fun i hi => ?_⟩
    cases i with
    | zero => simp; omega
    | succ i =>
      have := ih.2 i (by simpa using hi)
      simp
      omega

theorem few_small (l : List (List UInt8)) (n m : Nat) (hm : m ≤ 1048576) : ∀ i (h : i < (few l n m).length), (few l n m)[i].length ≤ 1048576 := fun i h => Nat.le_trans (few_at l n m i h) hm

theorem key_len (l : List (List UInt8)) (m : Nat) (h : ∀ i (hi : i < l.length), l[i].length ≤ m) : (Codec.key l).length ≤ (2 * m + 2) * l.length := by
  induction l with
  | nil => simp [Codec.key]
  | cons p l ih =>
    have e : Codec.key (p :: l) = Codec.encPart p ++ Codec.key l := rfl
    have h1 := ih (fun i hi => h (i + 1) (by simpa using hi))
    have h2 := Codec.esc_length p
    have h3 := h 0 (by simp)
    simp at h3
    have h4 : (Codec.encPart p).length = (Codec.esc p).length + 2 := by simp [Codec.encPart]
    rw [e, List.length_append, List.length_cons, Nat.mul_succ]
    omega

set_option maxHeartbeats 2000000 in
theorem codecKeys_walk (a0 : Option Addr) (len0 cap0 : Nat) (z0 : List ByteArray) (w : World) (w0 : IsStrs w a0 len0 cap0 z0) (a1 : ByteArray) (w1 : a1.size ≤ maxLen) :
    Calls Try.prog 5 #[.slice a0 len0 cap0, .string a1] w fun e w' => e = .returned (.bool true) ∧ Below w.heap.size w w' := by
  obtain ⟨l0, hl0, hm0, hz0, ht0⟩ := w0.norm
  have HF0 := hide (few_any l0 5 12 a0 len0 cap0 w hl0 hm0 hz0 ht0 (by omega) (by omega))
  have HC1 := hide (fun wx => cut_any a1 40 wx w1)
  have g0 : (few l0 5 12).length ≤ 5 := by rw [few_length]; omega
  have S0 := hide (few_small l0 5 12 (by omega))
  have T0 := hide (few_at l0 5 12)
  have gs : (a1.data.toList.take 40).length ≤ 40 := by simp; omega
  clear hl0 hm0 hz0 ht0 w0 w1
  generalize few l0 5 12 = la at *
  generalize a1.data.toList.take 40 = s at *
  have hka := key_len la 12 (unhide T0)
  have P1 := hide (fun wx => parts_any (Codec.key la) wx (by omega))
  rw [Codec.parts_key la] at P1
  have P2 := hide (fun wx => parts_any s wx (by omega))
  have P3 := hide (fun wx => refParts_any s wx (by omega))
  have herr := Codec.go_err s.length s (Nat.le_refl _) [] []
  have hone := Codec.key_parts s
  generalize Codec.go [] [] s = r at *
  obtain ⟨ls, g⟩ := r
  simp only at P1 P2 P3 herr
  have HERR := hide herr
  have HONE := hide (fun h => hone ls h)
  clear herr hone
  go_enter Try.func5, Try.ntmps5
  go_wp2_with fail
  refine (unhide HF0).mono ?_
  rintro e v1 ⟨x1, rfl, hown1, hb1⟩
  obtain ⟨p, c, rfl, htp, _⟩ := texts_of_own hown1
  clear HF0 hown1
  go_wp2_with fail
  refine (unhide HC1 _).mono ?_
  rintro e v2 ⟨rfl, rfl⟩
  clear HC1
  go_wp2_with fail
  refine (awake_any _).mono ?_
  rintro e v3 ⟨rfl, hb3⟩
  have HTP := hide (htp.later hb3)
  have hbb3 : Below w.heap.size w v3 := hb1.trans (hb3.mono hb1.size)
  clear htp hb1 hb3
  have K1 := hide (key_any la p la.length c v3 rfl (by omega) (unhide S0) (unhide HTP))
  go_wp2_with fail
  refine (unhide K1).mono ?_
  rintro e v4 ⟨rfl, hb4⟩
  clear K1
  go_wp2_with fail
  refine (unhide P1 _).mono ?_
  rintro e v5 ⟨x5, rfl, hown5, _, hb5⟩
  obtain ⟨a5, c5, rfl, ht5, _⟩ := texts_of_own hown5
  clear P1 hown5
  go_wp2_with fail
  refine (unhide P2 _).mono ?_
  rintro e v6 ⟨x6, rfl, hown6, hnil6, hb6⟩
  obtain ⟨a6, c6, rfl, ht6, _⟩ := texts_of_own hown6
  have HN6 := hide hnil6
  clear P2 hown6 hnil6
  go_wp2_with fail
  refine (unhide P3 _).mono ?_
  rintro e v7 ⟨x7, rfl, hown7, hb7⟩
  obtain ⟨a7, c7, rfl, ht7, _⟩ := texts_of_own hown7
  clear P3 hown7
  have hb57 : Below v5.heap.size v5 v7 := hb6.trans (hb7.mono hb6.size)
  have hb37 : Below v3.heap.size v3 v7 := (hb4.trans (hb5.mono hb4.size)).trans (hb57.mono (Nat.le_trans hb4.size hb5.size))
  have HT0 := hide ((unhide HTP).later hb37)
  have HT5 := hide (ht5.later hb57)
  have HT6 := hide (ht6.later hb7)
  have HT7 := hide ht7
  have hbb7 : Below w.heap.size w v7 := hbb3.trans (hb37.mono hbb3.size)
  have RK := hide (refKey_any la p la.length c v7 rfl (by omega) (unhide S0) (unhide HT0))
  clear HTP ht5 ht6 ht7 hb4 hb5 hb6 hb7 hb57 hb37 hbb3 S0 T0 hka
  generalize Codec.key la = kla at *
  go_wp2_with fail
  refine (unhide RK).mono ?_
  rintro e v8 ⟨rfl, rfl⟩
  clear RK
  generalize hnl : la.length = nl at *
  have HNL := hide hnl
  clear hnl
  by_cases hg : g = 0
  · subst hg
    have hks := unhide HONE rfl
    have hkg := key_ge ls
    rw [hks] at hkg
    have K3 := hide (fun wx hw => key_any ls a6 ls.length c6 wx rfl (by omega) (fun i hi => Nat.le_trans (hkg.2 i hi) (by omega)) hw)
    rw [hks] at K3
    have hls : ls.length ≤ 40 := by omega
    clear HONE HERR hks hkg HN6
    generalize hml : ls.length = ml at *
    have HML := hide hml
    clear hml
    go_wp2_with fail
    go_loopw [74] (fun i wr => ∃ k : Nat, k ≤ nl ∧ i = .int .i64 k ∧ Below v8.heap.size v8 wr) (fun i _ => nl - (intOf i).toNat)
    case atStart => exact ⟨0, by omega, rfl, Below.refl _ _⟩
    case round =>
      obtain ⟨k, hk, rfl, hbw⟩ := hrel
      by_cases hlt : k < nl
      · have hkl : k < la.length := by rw [unhide HNL]; exact hlt
        obtain ⟨ga, oa, ea, hga, hca⟩ := unhide HT5 k hkl
        obtain ⟨gb, ob, eb, hgb, hcb⟩ := unhide HT0 k hkl
        subst ea eb
        rw [← hbw.cell (p := ⟨ga, oa + k, none⟩) hga] at hca
        rw [← hbw.cell (p := ⟨gb, ob + k, none⟩) hgb] at hcb
        generalize la[k] = x at *
        go_wp2_with fail
        go_quiet (fail)
        go_wp2
        go_roundw
        case rel => exact ⟨k + 1, by omega, by go_num, below_drewN hbw _⟩
        case measure => simp [intOf]; omega
      · go_wp2_with fail
        go_loopw [89] (fun i wr2 => ∃ k : Nat, k ≤ ml ∧ i = .int .i64 k ∧ Below v8.heap.size v8 wr2) (fun i _ => ml - (intOf i).toNat)
        case atStart => exact ⟨0, by omega, rfl, hbw⟩
        case round =>
          clear hbw
          obtain ⟨j, hj, rfl, hbw⟩ := hrel
          by_cases hjl : j < ml
          · have hjs : j < ls.length := by rw [unhide HML]; exact hjl
            obtain ⟨ga, oa, ea, hga, hca⟩ := unhide HT6 j hjs
            obtain ⟨gb, ob, eb, hgb, hcb⟩ := unhide HT7 j hjs
            subst ea eb
            rw [← hbw.cell (p := ⟨ga, oa + j, none⟩) hga] at hca
            rw [← hbw.cell (p := ⟨gb, ob + j, none⟩) hgb] at hcb
            generalize ls[j] = x at *
            go_wp2_with fail
            go_quiet (fail)
            go_wp2
            go_roundw
            case rel => exact ⟨j + 1, by omega, by go_num, below_drewN hbw _⟩
            case measure => simp [intOf]; omega
          · have H3 := hide (unhide K3 _ ((unhide HT6).later hbw))
            go_wp2_with fail
            refine (unhide H3).mono ?_
            rintro e v9 ⟨rfl, hb9⟩
            go_wp2
            go_ret
            exact ⟨rfl, hbb7.trans ((hbw.trans (hb9.mono hbw.size)).mono hbb7.size)⟩
  · have hls : ls = [] := unhide HERR hg
    have h6 := unhide HN6 hg
    subst hls
    injection h6 with h61 h62 h63
    subst h61 h63
    have hgn : ((g : Int) != 0) = true := by rw [bne_iff_ne]; omega
    clear HERR HN6 HONE hg h62
    go_wp2_with fail
    go_loopw [74] (fun i wr => ∃ k : Nat, k ≤ nl ∧ i = .int .i64 k ∧ Below v8.heap.size v8 wr) (fun i _ => nl - (intOf i).toNat)
    case atStart => exact ⟨0, by omega, rfl, Below.refl _ _⟩
    case round =>
      obtain ⟨k, hk, rfl, hbw⟩ := hrel
      by_cases hlt : k < nl
      · have hkl : k < la.length := by rw [unhide HNL]; exact hlt
        obtain ⟨ga, oa, ea, hga, hca⟩ := unhide HT5 k hkl
        obtain ⟨gb, ob, eb, hgb, hcb⟩ := unhide HT0 k hkl
        subst ea eb
        rw [← hbw.cell (p := ⟨ga, oa + k, none⟩) hga] at hca
        rw [← hbw.cell (p := ⟨gb, ob + k, none⟩) hgb] at hcb
        generalize la[k] = x at *
        go_wp2_with fail
        go_quiet (fail)
        go_wp2
        go_roundw
        case rel => exact ⟨k + 1, by omega, by go_num, below_drewN hbw _⟩
        case measure => simp [intOf]; omega
      · go_wp2_with fail
        go_loopw [89] (fun i wr2 => i = .int .i64 0 ∧ Below v8.heap.size v8 wr2) (fun _ _ => 0)
        case atStart => exact ⟨rfl, hbw⟩
        case round =>
          clear hbw
          obtain ⟨rfl, hbw⟩ := hrel
          go_wp2
          go_ret
          exact ⟨rfl, hbb7.trans (hbw.mono hbb7.size)⟩
end Go.Proofs.Ytphcbnbpbgmplab
