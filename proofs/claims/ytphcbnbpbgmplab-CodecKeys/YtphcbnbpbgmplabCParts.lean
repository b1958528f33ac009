/- The contracts of codec's firstPart and Parts: a key's parts, or the error, by the plain function. -/
import Derived.Test.YtphcbnbpbgmplabCFew
import Derived.Test.YtphcbnbpbgmplabCPartsMath
namespace Go.Proofs.Ytphcbnbpbgmplab
open Go.RowKit
set_option linter.unusedVariables false

/- A part was found, or an error. -/
def Found (l p : List UInt8) (k : Nat) (e : Nat) : Prop :=
  (e = 0 ∧ 2 ≤ k ∧ k ≤ l.length ∧ p.length ≤ l.length ∧ ∀ out, Codec.go out [] l = Codec.go (out ++ [p]) [] (l.drop k)) ∨ (e ≠ 0 ∧ p = [] ∧ k = 0 ∧ ∀ out, Codec.go out [] l = ([], e))

theorem drop_two (l : List UInt8) (k : Nat) (h : k < l.length) (h1 : k + 1 < l.length) : l.drop k = l[k] :: l[k + 1] :: l.drop (k + 2) := by
  rw [List.drop_eq_getElem_cons h, List.drop_eq_getElem_cons h1]

set_option maxHeartbeats 1000000 in
theorem first_any (l : List UInt8) (w : World) (hl : l ≠ []) (hll : l.length ≤ 1048576) :
    Calls Try.prog 41 #[.string (S l)] w fun e w' => ∃ (p : List UInt8) (k er : Nat), e = .returned (.tuple #[.string (S p), .int .i64 k, .int .i64 er]) ∧ Found l p k er ∧ Below w.heap.size w w' := by
  obtain ⟨i0, hi, hz0, hz1, hz2⟩ := info_parts info_byte
  have hsz : (S l).size = l.length := S_size l
  go_enter Try.func41, Try.ntmps41
  go_wp2_with fail
  go_loopw [5, 6] (fun x i wr => ∃ (k : Nat) (acc : List UInt8), k ≤ l.length ∧ i = .int .i64 k ∧ wr.ownsRow w.heap.size 5 1 x acc.length (B8 acc) ∧ acc.length ≤ k ∧ (k = 0 ∨ acc ≠ []) ∧ (∀ out, Codec.go out [] l = Codec.go out acc (l.drop k)) ∧ Below w.heap.size w wr ∧ w.heap.size ≤ wr.heap.size) (fun _ i _ => l.length - (intOf i).toNat)
  case atStart => exact ⟨0, [], by omega, rfl, World.ownsRow_nil _ _ _ _, by simp, Or.inl rfl, fun _ => rfl, Below.refl _ _, Nat.le_refl _⟩
  case round =>
    obtain ⟨k, acc, hk, rfl, hown, hal, hne, hgo, hbw, hle⟩ := hrel
    have HOWN := hide hown
    have HNE := hide hne
    have HGO := hide hgo
    clear hown hne hgo
    by_cases hlt : k < l.length
    · have hg0 : ∀ h, (S l)[k]'h = l[k]'hlt := fun h => rfl
      by_cases hc : (l[k]'hlt).toNat = 0
      · have hc0 : (((l[k]'hlt).toNat : Int) != 0) = false := by simp; omega
        by_cases hk1 : k + 1 < l.length
        · have hg1 : ∀ h, (S l)[k + 1]'h = l[k + 1]'hk1 := fun h => rfl
          have hq1 : (((k : Int) + 1) == (l.length : Int)) = false := by rw [beq_eq_false_iff_ne]; omega
          have HD := hide (drop_two l k hlt hk1)
          have HC := hide hc
          clear hc
          generalize l[k]'hlt = c at *
          generalize l[k + 1]'hk1 = d at *
          by_cases h1 : d.toNat = 1
          · have hd1 : ((d.toNat : Int) == 1) = true := by rw [beq_iff_eq]; omega
            have kb := bytes_text (unhide HOWN)
            have HF : Hid (Found l acc (k + 2) 0) := by
              refine Or.inl ⟨rfl, by omega, by omega, by omega, fun out => ?_⟩
              rw [unhide HGO, unhide HD, Codec.go_part _ _ _ _ _ (unhide HC) h1]
            clear h1 HOWN HGO HD HC HNE
            go_wp2
            go_ret3
            exact ⟨acc, k + 2, 0, rfl, unhide HF, hbw⟩
          · have hd1 : ((d.toNat : Int) == 1) = false := by rw [beq_eq_false_iff_ne]; omega
            by_cases h255 : d.toNat = 255
            · have hd2 : ((d.toNat : Int) == 255) = true := by rw [beq_iff_eq]; omega
              have HG2 : Hid (∀ out, Codec.go out [] l = Codec.go out (acc ++ [0]) (l.drop (k + 2))) := fun out => by
                rw [unhide HGO, unhide HD, Codec.go_zero _ _ _ _ _ (unhide HC) h255]
              clear h1 h255 HGO HD HC HNE
              go_wp2_with (first | (at_builtin; refine wpList_append_fresh rfl _ _ 25 rfl w.heap.size 5 i0 (.int .u8 0) 1 1 under_bytes hi hz0 hz1 hz2 rfl (by decide) _ _ _ rfl ((unhide HOWN).alloc _) ⟨wr.heap.size, 0, none⟩ 1 1 [.int .u8 0] rfl rfl (cell_one_new _ _ _) ?c2 ?c3 ?c4 ?c5 ?_) | fail)
              case c2 => intro u hu; simp at hu; subst hu; rfl
              case c3 => unfold maxLen; omega
              case c4 => omega
              case c5 => simp; omega
              intro v' w2 hown' hgrow _
              have hlo := (unhide HOWN).lt
              have hsz2 := hgrow.size
              simp at hsz2
              have HO2 : Hid (w2.ownsRow w.heap.size 5 1 v' (acc ++ [0]).length (B8 (acc ++ [0]))) := by
                show _
                rw [B8_append, List.length_append]; exact hown'
              have HB2 : Hid (Below w.heap.size w w2) := (hbw.alloc hle _).grown hgrow (by simp; omega) (fun j hj => (hlo j hj).1)
              clear hown' hgrow hlo
              go_wp2
              go_roundw
              case rel => exact ⟨k + 2, acc ++ [0], by omega, by go_num, unhide HO2, by simp; omega, Or.inr (by simp), unhide HG2, unhide HB2, by omega⟩
              case measure => simp [intOf]; omega
            · have hd2 : ((d.toNat : Int) == 255) = false := by rw [beq_eq_false_iff_ne]; omega
              have HF : Hid (Found l [] 0 2) := by
                refine Or.inr ⟨by decide, rfl, rfl, fun out => ?_⟩
                rw [unhide HGO, unhide HD, Codec.go_form _ _ _ _ _ (unhide HC) h255 h1]
              clear h1 h255 HGO HD HC HNE
              go_wp2
              go_ret3
              exact ⟨[], 0, 2, rfl, unhide HF, hbw⟩
        · have hq1 : (((k : Int) + 1) == (l.length : Int)) = true := by rw [beq_iff_eq]; omega
          have HF : Hid (Found l [] 0 1) := by
            refine Or.inr ⟨by decide, rfl, rfl, fun out => ?_⟩
            rw [unhide HGO, List.drop_eq_getElem_cons hlt, List.drop_eq_nil_of_le (by omega), Codec.go_end _ _ _ hc]
          clear hc HGO HNE
          generalize l[k]'hlt = c at *
          go_wp2
          go_ret3
          exact ⟨[], 0, 1, rfl, unhide HF, hbw⟩
      · have HG2 : Hid (∀ out, Codec.go out [] l = Codec.go out (acc ++ [l[k]'hlt]) (l.drop (k + 1))) := fun out => by
          rw [unhide HGO, List.drop_eq_getElem_cons hlt, Codec.go_byte _ _ _ _ hc]
        have hc0 : (((l[k]'hlt).toNat : Int) != 0) = true := by rw [bne_iff_ne]; omega
        clear hc HGO HNE
        generalize l[k]'hlt = c at *
        go_wp2_with (first | (at_builtin; refine wpList_append_fresh rfl _ _ 25 rfl w.heap.size 5 i0 (.int .u8 0) 1 1 under_bytes hi hz0 hz1 hz2 rfl (by decide) _ _ _ rfl ((unhide HOWN).alloc _) ⟨wr.heap.size, 0, none⟩ 1 1 [.int .u8 (c.toNat : Int)] rfl rfl (cell_one_new _ _ _) ?c2 ?c3 ?c4 ?c5 ?_) | fail)
        case c2 => intro u hu; simp at hu; subst hu; rfl
        case c3 => unfold maxLen; omega
        case c4 => omega
        case c5 => simp; omega
        intro v' w2 hown' hgrow _
        have hlo := (unhide HOWN).lt
        have hsz2 := hgrow.size
        simp at hsz2
        have HO2 : Hid (w2.ownsRow w.heap.size 5 1 v' (acc ++ [c]).length (B8 (acc ++ [c]))) := by
          show _
          rw [B8_append, List.length_append]; exact hown'
        have HB2 : Hid (Below w.heap.size w w2) := (hbw.alloc hle _).grown hgrow (by simp; omega) (fun j hj => (hlo j hj).1)
        clear hown' hgrow hlo
        go_wp2
        go_roundw
        case rel => exact ⟨k + 1, acc ++ [c], by omega, by go_num, unhide HO2, by simp; omega, Or.inr (by simp), unhide HG2, unhide HB2, by omega⟩
        case measure => simp [intOf]; omega
    · have hkl : k = l.length := by omega
      have HF : Hid (Found l [] 0 1) := by
        refine Or.inr ⟨by decide, rfl, rfl, fun out => ?_⟩
        have hacc : acc ≠ [] := by
          rcases unhide HNE with h | h
          · exfalso
            have : l.length = 0 := by omega
            exact hl (List.length_eq_zero_iff.1 this)
          · exact h
        rw [unhide HGO, List.drop_eq_nil_of_le (by omega), Codec.go_open _ _ hacc]
      clear hkl HGO HNE
      go_wp2
      go_ret3
      exact ⟨[], 0, 1, rfl, unhide HF, hbw⟩

def strLen : Value → Nat | .string s => s.size | _ => 0

set_option maxHeartbeats 1000000 in
theorem parts_any (l : List UInt8) (w : World) (hll : l.length ≤ 1048576) :
    Calls Try.prog 28 #[.string (S l)] w fun e w' => ∃ v, e = .returned (.tuple #[v, .int .i64 ((Codec.go [] [] l).2 : Nat)]) ∧
      w'.ownsRow w.heap.size 9 1 v (Codec.go [] [] l).1.length (T9 (Codec.go [] [] l).1) ∧ ((Codec.go [] [] l).2 ≠ 0 → v = .slice none 0 0) ∧ Below w.heap.size w w' := by
  obtain ⟨i0, hi, hz0, hz1, hz2⟩ := info_parts info_string
  go_enter Try.func28, Try.ntmps28
  go_wp2_with fail
  go_loopw [0, 4] (fun x v wr => ∃ (rest : List UInt8) (out : List (List UInt8)), x = .string (S rest) ∧ rest.length + out.length ≤ l.length ∧ wr.ownsRow w.heap.size 9 1 v out.length (T9 out) ∧ Codec.go [] [] l = Codec.go out [] rest ∧ Below w.heap.size w wr ∧ w.heap.size ≤ wr.heap.size) (fun x _ _ => strLen x)
  case atStart => exact ⟨l, [], rfl, by simp, World.ownsRow_nil _ _ _ _, rfl, Below.refl _ _, Nat.le_refl _⟩
  case round =>
    obtain ⟨rest, out, rfl, hlen, hown, hgo, hbw, hle⟩ := hrel
    have HOWN := hide hown
    have HGO := hide hgo
    have hsz : (S rest).size = rest.length := S_size rest
    clear hown hgo
    by_cases hr : rest = []
    · subst hr
      have he : (S []).toList.isEmpty = true := S_isEmpty []
      have hE := unhide HGO
      rw [Codec.go_nil] at hE
      have HE := hide hE
      clear hE HGO
      go_wp2
      go_ret2
      refine ⟨u4, ?_, ?_, ?_, hbw⟩
      · rw [unhide HE]; rfl
      · rw [unhide HE]; exact unhide HOWN
      · intro h; rw [unhide HE] at h; exact absurd rfl h
    · have he : (S rest).toList.isEmpty = false := by rw [S_isEmpty]; cases rest with
        | nil => exact absurd rfl hr
        | cons c r => rfl
      have HFA := hide (first_any rest wr hr (by omega))
      clear hr
      go_wp2_with fail
      refine (unhide HFA).mono ?_
      rintro e w1 ⟨p, k, er, rfl, hf, hb1⟩
      have hbw1 : Below w.heap.size w w1 := hbw.trans (hb1.mono hle)
      have hle1 : w.heap.size ≤ w1.heap.size := Nat.le_trans hle hb1.size
      have HOWN1 := hide (ownsRow_below (unhide HOWN) hb1)
      clear HFA HOWN hb1 hbw hle
      rcases hf with ⟨her, hk2, hkl, hpl, hgo2⟩ | ⟨her, hp, hk0, hgo2⟩
      · subst her
        have HG2 := hide ((unhide HGO).trans (hgo2 out))
        have hex : (S rest).extract k rest.length = S (rest.drop k) := by rw [← hsz]; exact S_drop rest k
        have hdl : (rest.drop k).length = rest.length - k := by simp
        have hds : (S (rest.drop k)).size = (rest.drop k).length := S_size _
        have HDL := hide hdl
        clear hgo2 HGO hdl
        generalize rest.drop k = r2 at *
        go_wp2_with (first | (at_builtin; refine wpList_append_fresh rfl _ _ 47 rfl w.heap.size 9 i0 (.string ⟨#[]⟩) 1 16 under_strings hi hz0 hz1 hz2 rfl (by decide) _ _ _ rfl ((unhide HOWN1).alloc _) ⟨w1.heap.size, 0, none⟩ 1 1 [.string (S p)] rfl rfl (cell_one_new _ _ _) ?c2 ?c3 ?c4 ?c5 ?_) | fail)
        case c2 => intro u hu; simp at hu; subst hu; rfl
        case c3 => unfold maxLen; omega
        case c4 => omega
        case c5 => simp; omega
        intro v' w2 hown' hgrow _
        have hlo := (unhide HOWN1).lt
        have hsz2 := hgrow.size
        simp at hsz2
        have HO2 : Hid (w2.ownsRow w.heap.size 9 1 v' (out ++ [p]).length (T9 (out ++ [p]))) := by
          show _
          rw [T9_append, List.length_append]; exact hown'
        have HB2 : Hid (Below w.heap.size w w2) := (hbw1.alloc hle1 _).grown hgrow (by simp; omega) (fun j hj => (hlo j hj).1)
        clear hown' hgrow hlo HOWN1
        go_wp2
        go_roundw
        case rel => exact ⟨r2, out ++ [p], rfl, by have := unhide HDL; simp; omega, unhide HO2, unhide HG2, unhide HB2, by omega⟩
        case measure => have := unhide HDL; simp [strLen]; omega
      · have HE := hide ((unhide HGO).trans (hgo2 out))
        have hne : ((er : Int) != 0) = true := by rw [bne_iff_ne]; omega
        clear hgo2 HGO her
        go_wp2
        go_ret2
        refine ⟨.slice none 0 0, ?_, ?_, ?_, hbw1⟩
        · rw [unhide HE]; rfl
        · rw [unhide HE]; exact World.ownsRow_nil _ _ _ _
        · intro _; rfl
end Go.Proofs.Ytphcbnbpbgmplab
