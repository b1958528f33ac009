/- The contracts of the reference's Key and Parts: the same plain functions. -/
import Derived.Test.YtphcbnbpbgmplabCParts
namespace Go.Proofs.Ytphcbnbpbgmplab
open Go.RowKit
set_option linter.unusedVariables false

theorem S_mid (l : List UInt8) (k : Nat) (h : k < l.length) : (S l).extract k (k + 1) = S [l[k]] := by
  apply ByteArray.ext
  simp [S]
  rw [List.drop_eq_getElem_cons h]
  rfl

set_option maxHeartbeats 1000000 in
theorem refKey_any (l : List (List UInt8)) (a : Option Addr) (n cap : Nat) (w : World) (hn : n = l.length) (hl : l.length ≤ 64) (hz : ∀ i (h : i < l.length), l[i].length ≤ 1048576) (ht : Texts w a l) :
    Calls Try.prog 30 #[.slice a n cap] w fun e w' => e = .returned (.string (S (Codec.key l))) ∧ w' = w := by
  have HT := hide ht
  have HZ := hide hz
  have HN := hide hn
  have hn64 : n ≤ 64 := by omega
  clear ht hz hn
  go_enter Try.func30, Try.ntmps30
  go_wp2_with fail
  go_loop [3, 9] (fun x i => ∃ k : Nat, k ≤ n ∧ i = .int .i64 k ∧ x = .string (S (Codec.key (l.take k)))) (fun _ i => n - (intOf i).toNat)
  case atStart => exact ⟨0, Nat.zero_le _, rfl, rfl⟩
  case round =>
    obtain ⟨k, hk, rfl, rfl⟩ := hrel
    have hks := key_small l n k hl (unhide HZ) (by have := unhide HN; omega)
    by_cases hlt : k < n
    · have hkl : k < l.length := by have := unhide HN; omega
      obtain ⟨b, off, ha, hblt, hcell⟩ := unhide HT k hkl
      subst ha
      have hpk := unhide HZ k hkl
      have HKS := hide (Codec.key_snoc l k hkl)
      generalize l[k] = p at *
      generalize Codec.key (l.take k) = kk at *
      have hsp : (S p).size = p.length := S_size p
      go_wp2
      go_loop [3, 6] (fun x i => ∃ j : Nat, j ≤ p.length ∧ i = .int .i64 j ∧ x = .string (S (kk ++ Codec.esc (p.take j)))) (fun _ i => p.length - (intOf i).toNat)
      case atStart => exact ⟨0, Nat.zero_le _, rfl, by simp [Codec.esc]⟩
      case round =>
        obtain ⟨j, hj, rfl, rfl⟩ := hrel
        have hel := Codec.esc_length (p.take j)
        have hll : (kk ++ Codec.esc (p.take j)).length ≤ 136314880 + 2097152 := by
          rw [List.length_append]; rw [List.length_take] at hel; omega
        have hs0 := S_size (kk ++ Codec.esc (p.take j))
        by_cases hjl : j < p.length
        · have hmid := S_mid p j hjl
          have hg : ∀ h, (S p)[j]'h = p[j]'hjl := fun h => rfl
          have HES := hide (Codec.esc_snoc p j hjl)
          generalize p[j]'hjl = c at *
          obtain ⟨l2, hl2⟩ : ∃ l2, l2 = kk ++ Codec.esc (p.take j) := ⟨_, rfl⟩
          rw [← hl2] at hll hs0 ⊢
          have HL2 := hide hl2
          clear hl2 hel
          have hz1 : (S [c]).size = 1 := rfl
          obtain ⟨l3, hl3⟩ : ∃ l3, l3 = l2 ++ [c] := ⟨_, rfl⟩
          have ha1 : S l2 ++ S [c] = S l3 := by rw [hl3]; exact S_append _ _
          have hs3 := S_size l3
          have hl3l : l3.length = l2.length + 1 := by rw [hl3]; simp
          have HL3 := hide hl3
          clear hl3
          by_cases hc : c.toNat = 0
          · have hc0 : ((c.toNat : Int) == 0) = true := by rw [beq_iff_eq]; omega
            have HE : Hid (kk ++ Codec.esc (p.take (j + 1)) = l3 ++ [255]) := by
              show _ = _
              rw [unhide HES, if_pos hc, unhide HL3, unhide HL2]
              have : c = 0 := UInt8.toNat_inj.1 hc
              rw [this]; simp
            have ha2 : S l3 ++ ⟨#[255]⟩ = S (l3 ++ [255]) := S_append l3 [255]
            clear hc
            go_wp2
            exact ⟨⟨j + 1, by omega, by go_num, by rw [unhide HE]⟩, by simp [intOf]; omega⟩
          · have hc0 : ((c.toNat : Int) == 0) = false := by rw [beq_eq_false_iff_ne]; omega
            have HE : Hid (kk ++ Codec.esc (p.take (j + 1)) = l3) := by
              show _ = _
              rw [unhide HES, if_neg hc, unhide HL3, unhide HL2]; simp
            clear hc
            go_wp2
            exact ⟨⟨j + 1, by omega, by go_num, by rw [unhide HE]⟩, by simp [intOf]; omega⟩
        · have : j = p.length := by omega
          subst this
          rw [List.take_length] at hll hs0 ⊢
          have HE : Hid (Codec.key (l.take (k + 1)) = kk ++ Codec.esc p ++ [0, 1]) := by
            show _ = _
            rw [unhide HKS]; simp [Codec.encPart]
          obtain ⟨l2, hl2⟩ : ∃ l2, l2 = kk ++ Codec.esc p := ⟨_, rfl⟩
          rw [← hl2] at hll hs0 HE ⊢
          have ha2 : S l2 ++ ⟨#[0, 1]⟩ = S (l2 ++ [0, 1]) := S_append l2 [0, 1]
          clear hl2 hel
          go_wp2
          exact ⟨⟨k + 1, by omega, by go_num, by rw [unhide HE]⟩, by simp [intOf]; omega⟩
    · have hkn : k = l.length := by have := unhide HN; omega
      have e : l.take k = l := by rw [hkn]; exact List.take_length
      rw [e] at hks ⊢
      clear e
      go_wp2
      go_ret
      exact ⟨rfl, rfl⟩

set_option maxHeartbeats 1000000 in
theorem refParts_any (l : List UInt8) (w : World) (hll : l.length ≤ 1048576) :
    Calls Try.prog 29 #[.string (S l)] w fun e w' => ∃ v, e = .returned (.tuple #[v, .int .i64 ((Codec.go [] [] l).2 : Nat)]) ∧
      w'.ownsRow w.heap.size 9 1 v (Codec.go [] [] l).1.length (T9 (Codec.go [] [] l).1) ∧ Below w.heap.size w w' := by
  obtain ⟨i0, hi, hz0, hz1, hz2⟩ := info_parts info_string
  have hsz : (S l).size = l.length := S_size l
  have HE0 : Hid ((w.alloc (.cells #[] 9)).ownsRow w.heap.size 9 1 (.slice (some ⟨w.heap.size, 0, none⟩) 0 0) 0 []) :=
    World.ownsRow_lit w #[] 0 (Nat.le_refl _) (by simp [maxLen]) (by simp)
  go_enter Try.func29, Try.ntmps29
  go_wp2_with fail
  go_loopw [4, 5, 6, 7] (fun v x o i wr => ∃ (k : Nat) (out : List (List UInt8)) (part : List UInt8), k ≤ l.length ∧ i = .int .i64 k ∧ x = .string (S part) ∧ o = .bool (!part.isEmpty) ∧ part.length + out.length ≤ k ∧
      wr.ownsRow w.heap.size 9 1 v out.length (T9 out) ∧ Codec.go [] [] l = Codec.go out part (l.drop k) ∧ Below w.heap.size w wr ∧ w.heap.size ≤ wr.heap.size) (fun _ _ _ i _ => l.length - (intOf i).toNat)
  case atStart => exact ⟨0, [], [], by omega, rfl, rfl, rfl, by simp, unhide HE0, rfl, (Below.refl _ _).alloc (Nat.le_refl _) _, by simp⟩
  case round =>
    obtain ⟨k, out, part, hk, rfl, rfl, rfl, hpo, hown, hgo, hbw, hle⟩ := hrel
    have HOWN := hide hown
    have HGO := hide hgo
    have hsp : (S part).size = part.length := S_size part
    clear hown hgo HE0
    by_cases hlt : k < l.length
    · have hg0 : ∀ h, (S l)[k]'h = l[k]'hlt := fun h => rfl
      by_cases hc : (l[k]'hlt).toNat = 0
      · have hc0 : (((l[k]'hlt).toNat : Int) != 0) = false := by simp; omega
        by_cases hk1 : k + 1 < l.length
        · have hg1 : ∀ h, (S l)[k + 1]'h = l[k + 1]'hk1 := fun h => rfl
          have hq1 : (((k : Int) + 1) == (l.length : Int)) = false := by rw [beq_eq_false_iff_ne]; omega
          have HD := hide (drop_two l k hlt hk1)
          have HC := hide hc
          clear hc
          generalize l[k]'hlt = c at *
          generalize l[k + 1]'hk1 = d at *
          by_cases h255 : d.toNat = 255
          · have hd1 : ((d.toNat : Int) != 255) = false := by simp; omega
            have hd2 : ((d.toNat : Int) == 255) = true := by rw [beq_iff_eq]; omega
            have HG2 : Hid (Codec.go [] [] l = Codec.go out (part ++ [0]) (l.drop (k + 2))) := by
              show _ = _
              rw [unhide HGO, unhide HD, Codec.go_zero _ _ _ _ _ (unhide HC) h255]
            have ha : S part ++ ⟨#[0]⟩ = S (part ++ [0]) := S_append part [0]
            have hem : (part ++ [0]).isEmpty = false := by simp
            have HEM := hide hem
            obtain ⟨p2, hp2⟩ : ∃ p2, p2 = part ++ [0] := ⟨_, rfl⟩
            have hp2l : p2.length = part.length + 1 := by rw [hp2]; simp
            rw [← hp2] at ha HG2 HEM
            clear h255 HGO HD HC hem hp2
            go_wp2
            go_roundw
            case rel => exact ⟨k + 2, out, p2, by omega, by go_num, rfl, by rw [unhide HEM]; rfl, by omega, unhide HOWN, unhide HG2, hbw, hle⟩
            case measure => simp [intOf]; omega
          · have hd1 : ((d.toNat : Int) != 255) = true := by rw [bne_iff_ne]; omega
            have hd2 : ((d.toNat : Int) == 255) = false := by rw [beq_eq_false_iff_ne]; omega
            by_cases h1 : d.toNat = 1
            · have hd3 : ((d.toNat : Int) != 1) = false := by simp; omega
              have HG2 : Hid (Codec.go [] [] l = Codec.go (out ++ [part]) [] (l.drop (k + 2))) := by
                show _ = _
                rw [unhide HGO, unhide HD, Codec.go_part _ _ _ _ _ (unhide HC) h1]
              clear h255 h1 HGO HD HC
              go_wp2_with (first | (at_builtin; refine wpList_append_fresh rfl _ _ 47 rfl w.heap.size 9 i0 (.string ⟨#[]⟩) 1 16 under_strings hi hz0 hz1 hz2 rfl (by decide) _ _ _ rfl ((unhide HOWN).alloc _) ⟨wr.heap.size, 0, none⟩ 1 1 [.string (S part)] rfl rfl (cell_one_new _ _ _) ?c2 ?c3 ?c4 ?c5 ?_) | fail)
              case c2 => intro u hu; simp at hu; subst hu; rfl
              case c3 => unfold maxLen; omega
              case c4 => omega
              case c5 => simp; omega
              intro v' w2 hown' hgrow _
              have hlo := (unhide HOWN).lt
              have hsz2 := hgrow.size
              simp at hsz2
              have HO2 : Hid (w2.ownsRow w.heap.size 9 1 v' (out ++ [part]).length (T9 (out ++ [part]))) := by
                show _
                rw [T9_append, List.length_append]; exact hown'
              have HB2 : Hid (Below w.heap.size w w2) := (hbw.alloc hle _).grown hgrow (by simp; omega) (fun j hj => (hlo j hj).1)
              clear hown' hgrow hlo HOWN
              go_wp2
              go_roundw
              case rel => exact ⟨k + 2, out ++ [part], [], by omega, by go_num, rfl, rfl, by simp; omega, unhide HO2, unhide HG2, unhide HB2, by omega⟩
              case measure => simp [intOf]; omega
            · have hd3 : ((d.toNat : Int) != 1) = true := by rw [bne_iff_ne]; omega
              have HE : Hid (Codec.go [] [] l = ([], 2)) := by
                show _ = _
                rw [unhide HGO, unhide HD, Codec.go_form _ _ _ _ _ (unhide HC) h255 h1]
              clear h255 h1 HGO HD HC
              go_wp2
              go_ret2
              refine ⟨.slice none 0 0, ?_, ?_, hbw⟩
              · rw [unhide HE]; rfl
              · rw [unhide HE]; exact World.ownsRow_nil _ _ _ _
        · have hq1 : (((k : Int) + 1) == (l.length : Int)) = true := by rw [beq_iff_eq]; omega
          have HE : Hid (Codec.go [] [] l = ([], 1)) := by
            show _ = _
            rw [unhide HGO, List.drop_eq_getElem_cons hlt, List.drop_eq_nil_of_le (by omega), Codec.go_end _ _ _ hc]
          clear hc HGO
          generalize l[k]'hlt = c at *
          go_wp2
          go_ret2
          refine ⟨.slice none 0 0, ?_, ?_, hbw⟩
          · rw [unhide HE]; rfl
          · rw [unhide HE]; exact World.ownsRow_nil _ _ _ _
      · have HG2 : Hid (Codec.go [] [] l = Codec.go out (part ++ [l[k]'hlt]) (l.drop (k + 1))) := by
          show _ = _
          rw [unhide HGO, List.drop_eq_getElem_cons hlt, Codec.go_byte _ _ _ _ hc]
        have hc0 : (((l[k]'hlt).toNat : Int) != 0) = true := by rw [bne_iff_ne]; omega
        have hmid := S_mid l k hlt
        clear hc HGO
        generalize l[k]'hlt = c at *
        have ha : S part ++ S [c] = S (part ++ [c]) := S_append part [c]
        have hz1 : (S [c]).size = 1 := rfl
        have hem : (part ++ [c]).isEmpty = false := by simp
        have HEM := hide hem
        obtain ⟨p2, hp2⟩ : ∃ p2, p2 = part ++ [c] := ⟨_, rfl⟩
        have hp2l : p2.length = part.length + 1 := by rw [hp2]; simp
        rw [← hp2] at ha HG2 HEM
        clear hem hp2
        go_wp2
        go_roundw
        case rel => exact ⟨k + 1, out, p2, by omega, by go_num, rfl, by rw [unhide HEM]; rfl, by omega, unhide HOWN, unhide HG2, hbw, hle⟩
        case measure => simp [intOf]; omega
    · have hkl : k = l.length := by omega
      have hdr : l.drop k = [] := List.drop_eq_nil_of_le (by omega)
      by_cases hp : part = []
      · subst hp
        have HE : Hid (Codec.go [] [] l = (out, 0)) := by
          show _ = _
          rw [unhide HGO, hdr, Codec.go_nil]
        clear hkl hdr HGO
        go_wp2
        go_ret2
        refine ⟨u4, ?_, ?_, hbw⟩
        · rw [unhide HE]; rfl
        · rw [unhide HE]; exact unhide HOWN
      · have HE : Hid (Codec.go [] [] l = ([], 1)) := by
          show _ = _
          rw [unhide HGO, hdr, Codec.go_open _ _ hp]
        have hem : part.isEmpty = false := by cases part with
          | nil => exact absurd rfl hp
          | cons c r => rfl
        rw [hem]
        clear hkl hdr HGO hp hem
        go_wp2
        go_ret2
        refine ⟨.slice none 0 0, ?_, ?_, hbw⟩
        · rw [unhide HE]; rfl
        · rw [unhide HE]; exact World.ownsRow_nil _ _ _ _
end Go.Proofs.Ytphcbnbpbgmplab
