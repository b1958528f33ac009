/- The walk of ValueWords. -/
import Derived.Test.YtgeibmlhmljhpaaDoorVAwake
namespace Go.Proofs.YtgeibmlhmljhpaaDoor
open Go.RowKit
set_option linter.unusedVariables false
set_option maxRecDepth 100000

/- The last of the words ahead of a place, from the second on. -/
def backOf (y : List UInt8) : Nat → Int
  | 0 => 0
  | k + 1 => if 1 ≤ k ∧ words.getD k [] = y then (k : Int) else backOf y k
theorem back_kind (y : List UInt8) : backOf y 8 = kindOf y := by
  by_cases h1 : y = words.getD 1 []
  · subst h1; decide
  by_cases h2 : y = words.getD 2 []
  · subst h2; decide
  by_cases h3 : y = words.getD 3 []
  · subst h3; decide
  by_cases h4 : y = words.getD 4 []
  · subst h4; decide
  by_cases h5 : y = words.getD 5 []
  · subst h5; decide
  by_cases h6 : y = words.getD 6 []
  · subst h6; decide
  by_cases h7 : y = words.getD 7 []
  · subst h7; decide
  have e1 : backOf y 8 = 0 := by
    simp only [backOf]
    rw [if_neg (fun h => h7 h.2.symm), if_neg (fun h => h6 h.2.symm), if_neg (fun h => h5 h.2.symm), if_neg (fun h => h4 h.2.symm), if_neg (fun h => h3 h.2.symm), if_neg (fun h => h2 h.2.symm), if_neg (fun h => h1 h.2.symm), if_neg (by omega)]
  rw [e1]
  show (0 : Int) = kindFrom 0 words y
  simp only [words, List.getD_cons_succ, List.getD_cons_zero] at h1 h2 h3 h4 h5 h6 h7
  simp only [words, kindFrom]
  by_cases h0 : ([] : List UInt8) = y
  · rw [if_pos h0]; rfl
  rw [if_neg h0, if_neg (fun h => h1 h.symm), if_neg (fun h => h2 h.symm), if_neg (fun h => h3 h.symm), if_neg (fun h => h4 h.symm), if_neg (fun h => h5 h.symm), if_neg (fun h => h6 h.symm), if_neg (fun h => h7 h.symm)]
theorem kind_word (k : Int) (h : ¬ (k < 1 ∨ 7 < k)) : kindOf (wordOf k) = k := by
  have hk : k = 1 ∨ k = 2 ∨ k = 3 ∨ k = 4 ∨ k = 5 ∨ k = 6 ∨ k = 7 := by omega
  rcases hk with rfl | rfl | rfl | rfl | rfl | rfl | rfl <;> decide

set_option maxHeartbeats 6400000 in
theorem valueWords_walk (a0 : Int) (w0 : (Lit.int .i64 a0).wf = true) (a1 : ByteArray) (w1 : a1.size ≤ maxLen) (w : World) (hw : WD w) :
    Calls Tryd.prog 6 #[.int .i64 a0, .string a1] w fun e w' => e = .returned (.bool true) ∧ Below w.heap.size w w' := by
  obtain ⟨y, rfl⟩ : ∃ y, a1 = S y := ⟨a1.data.toList, rfl⟩
  obtain ⟨B, hB⟩ : ∃ B : Obj, B = .cells #[.string ⟨#[]⟩, .string ⟨#[114, 101, 103, 105, 115, 116, 101, 114]⟩, .string ⟨#[99, 111, 117, 110, 116, 101, 114]⟩, .string ⟨#[97, 99, 99, 111, 117, 110, 116]⟩, .string ⟨#[115, 101, 116]⟩, .string ⟨#[100, 105, 114, 101, 99, 116, 111, 114, 121]⟩, .string ⟨#[113, 117, 101, 117, 101]⟩, .string ⟨#[115, 101, 109, 105, 113, 117, 101, 117, 101]⟩] 9 (0, 0) := ⟨_, rfl⟩
  have hcell : ∀ k (h : k < words.length), (w.alloc B).cell? ⟨w.heap.size, k, none⟩ = some (.string (S (words[k]'h))) := fun k hk => by
    have hh := heap_alloc_new w B
    rw [hB] at hh
    rw [hB, block_cell hh]
    have hk7 : k = 0 ∨ k = 1 ∨ k = 2 ∨ k = 3 ∨ k = 4 ∨ k = 5 ∨ k = 6 ∨ k = 7 := by change k < 8 at hk; omega
    rcases hk7 with rfl | rfl | rfl | rfl | rfl | rfl | rfl | rfl <;> rfl
  have HCE := hide hcell
  have HAW := hide (fun (w1 : World) (hb : Below w.heap.size w w1) => vawake_any (hw.later hb))
  have HWO := hide (fun (w1 : World) (hb : Below w.heap.size w w1) => word_any (hw.later hb) a0)
  have HK1 := hide (fun (w1 : World) (hb : Below w.heap.size w w1) => kind_any (hw.later hb) y)
  have HK2 := hide (fun (w1 : World) (hb : Below w.heap.size w w1) => kind_any (hw.later hb) (wordOf a0))
  have HNE := hide (fun (w1 : World) => vnew_any a0 w1)
  have HEQ := hide (fun (a : List UInt8) => S_eq a y)
  have HBK := hide (back_kind y)
  have HWN := hide (word_none a0)
  have HWS := hide (word_some a0)
  have HKW := hide (kind_word a0)
  have hss : ((S (wordOf a0)).toList == (S (wordOf a0)).toList) = true := by simp
  have hkk : (kindOf y == kindOf y) = true := by simp
  have haa : (a0 == a0) = true := by simp
  have HSZ : Hid (Below w.heap.size w (w.alloc B)) := under_box B
  clear hw hcell w1
  by_cases h1 : 1 ≤ a0
  · by_cases h7 : a0 ≤ 7
    · obtain ⟨k, rfl⟩ : ∃ k : Nat, a0 = (k : Int) := ⟨a0.toNat, by omega⟩
      have hk : k < words.length := by show k < 8; omega
      have hc := unhide HCE k hk
      have hwk : wordOf (k : Int) = words[k]'hk := by
        unfold wordOf
        rw [if_neg (by omega), Int.toNat_natCast]
        simp [List.getD, hk]
      have hkw := unhide HKW (by omega)
      have hwe := unhide HWS (by omega)
      rw [← hwk] at hc
      rw [hkw] at HK2
      have hk0 : (0 : Int) ≤ (k : Int) := by omega
      have hk8' : (k : Int) < 8 := by omega
      clear hwk hkw HKW HWS HWN w0
      generalize wordOf (k : Int) = wd at *
      rw [hB] at hc
      go_enter Tryd.func6, Tryd.ntmps6
      go_wp2_with fail
      rw [← hB]
      clear hB
      go_loopw [7, 8] (fun s7 s8 wx => ∃ k : Nat, 1 ≤ k ∧ k ≤ 8 ∧ s8 = .int .i64 (k : Int) ∧ s7 = .int .i64 (backOf y k) ∧ wx = w.alloc B) (fun _ s8 _ => 8 - (intOf s8).toNat)
      case atStart => exact ⟨1, Nat.le_refl _, by omega, rfl, rfl, rfl⟩
      case round =>
        obtain ⟨j, hk1, hk8, rfl, rfl, hww⟩ := hrel
        by_cases h8 : j = 8
        · subst h8
          have hww' := hww
          rw [unhide HBK]
          have HLW : Hid (Below w.heap.size w wr) := by rw [hww]; exact unhide HSZ
          clear HCE HEQ HBK hww hww'
          generalize kindOf y = ky at *
          go_wp2_with fail
          refine (unhide HNE wr).mono ?_
          rintro e w2 ⟨rfl, hb2⟩
          have hz2 := (unhide HLW).size
          have HL2 := hide ((unhide HLW).trans (hb2.mono hz2))
          clear hb2 hz2
          go_wp2_with fail
          refine (unhide HAW _ ((unhide HL2).trans ((under_box _).mono (unhide HL2).size))).mono ?_
          rintro e w3 ⟨rfl, hb3⟩
          rw [World.size_alloc] at hb3
          obtain ⟨p0, p1, p2, hz3, hl3⟩ := box3 hb3
          have HL3 := hide ((unhide HL2).trans (hl3.mono (unhide HL2).size))
          clear hb3 hl3 hz3 HAW
          go_wp2_with fail
          refine (unhide HWO _ (unhide HL3)).mono ?_
          rintro e w4 ⟨rfl, rfl⟩
          go_wp2_with fail
          refine (unhide HK1 _ (unhide HL3)).mono ?_
          rintro e w4 ⟨rfl, rfl⟩
          go_wp2_with fail
          refine (unhide HK2 _ (unhide HL3)).mono ?_
          rintro e w4 ⟨rfl, rfl⟩
          go_wp2_with fail
          go_ret
          exact ⟨rfl, unhide HL3⟩
        · have hk : j < words.length := by show j < 8; omega
          have hc := unhide HCE j hk
          rw [← hww] at hc
          have HWW := hide hww
          have hq := unhide HEQ (words[j]'hk)
          have hbk : backOf y (j + 1) = if words[j]'hk = y then (j : Int) else backOf y j := by
            have hg : words.getD j [] = words[j]'hk := by simp [List.getD, hk]
            show (if 1 ≤ j ∧ words.getD j [] = y then (j : Int) else backOf y j) = _
            rw [hg]
            by_cases e : words[j]'hk = y
            · rw [if_pos ⟨hk1, e⟩, if_pos e]
            · rw [if_neg (fun h => e h.2), if_neg e]
          have HB2 := hide hbk
          clear hbk HCE HEQ hww
          generalize words[j]'hk = x at *
          have hi0 : (0 : Int) ≤ (j : Int) := by omega
          have hi1 : (j : Int) < 8 := by omega
          have hi2 : (j : Int) ≤ 7 := by omega
          by_cases hxy : x = y
          · rw [decide_eq_true hxy] at hq
            rw [if_pos hxy] at HB2
            clear hxy
            go_wp2_with fail
            go_roundw
            case rel => exact ⟨j + 1, by omega, by omega, by go_num, by rw [unhide HB2], unhide HWW⟩
            case measure => simp [intOf]; omega
          · rw [decide_eq_false hxy] at hq
            rw [if_neg hxy] at HB2
            clear hxy
            go_wp2_with fail
            go_roundw
            case rel => exact ⟨j + 1, by omega, by omega, by go_num, by rw [unhide HB2], unhide HWW⟩
            case measure => simp [intOf]; omega
    · have hwn := unhide HWN (by omega)
      rw [hwn, show S [] = (⟨#[]⟩ : ByteArray) from rfl] at HWO hss
      clear hwn HKW HWS HWN w0 HK2
      go_enter Tryd.func6, Tryd.ntmps6
      go_wp2_with fail
      rw [← hB]
      clear hB
      go_loopw [7, 8] (fun s7 s8 wx => ∃ k : Nat, 1 ≤ k ∧ k ≤ 8 ∧ s8 = .int .i64 (k : Int) ∧ s7 = .int .i64 (backOf y k) ∧ wx = w.alloc B) (fun _ s8 _ => 8 - (intOf s8).toNat)
      case atStart => exact ⟨1, Nat.le_refl _, by omega, rfl, rfl, rfl⟩
      case round =>
        obtain ⟨j, hk1, hk8, rfl, rfl, hww⟩ := hrel
        by_cases h8 : j = 8
        · subst h8
          have hww' := hww
          rw [unhide HBK]
          have HLW : Hid (Below w.heap.size w wr) := by rw [hww]; exact unhide HSZ
          clear HCE HEQ HBK hww hww'
          generalize kindOf y = ky at *
          go_wp2_with fail
          refine (unhide HNE wr).mono ?_
          rintro e w2 ⟨rfl, hb2⟩
          have hz2 := (unhide HLW).size
          have HL2 := hide ((unhide HLW).trans (hb2.mono hz2))
          clear hb2 hz2
          go_wp2_with fail
          refine (unhide HAW _ ((unhide HL2).trans ((under_box _).mono (unhide HL2).size))).mono ?_
          rintro e w3 ⟨rfl, hb3⟩
          rw [World.size_alloc] at hb3
          obtain ⟨p0, p1, p2, hz3, hl3⟩ := box3 hb3
          have HL3 := hide ((unhide HL2).trans (hl3.mono (unhide HL2).size))
          clear hb3 hl3 hz3 HAW
          go_wp2_with fail
          refine (unhide HWO _ (unhide HL3)).mono ?_
          rintro e w4 ⟨rfl, rfl⟩
          go_wp2_with fail
          refine (unhide HK1 _ (unhide HL3)).mono ?_
          rintro e w4 ⟨rfl, rfl⟩
          go_wp2_with fail
          go_ret
          exact ⟨rfl, unhide HL3⟩
        · have hk : j < words.length := by show j < 8; omega
          have hc := unhide HCE j hk
          rw [← hww] at hc
          have HWW := hide hww
          have hq := unhide HEQ (words[j]'hk)
          have hbk : backOf y (j + 1) = if words[j]'hk = y then (j : Int) else backOf y j := by
            have hg : words.getD j [] = words[j]'hk := by simp [List.getD, hk]
            show (if 1 ≤ j ∧ words.getD j [] = y then (j : Int) else backOf y j) = _
            rw [hg]
            by_cases e : words[j]'hk = y
            · rw [if_pos ⟨hk1, e⟩, if_pos e]
            · rw [if_neg (fun h => e h.2), if_neg e]
          have HB2 := hide hbk
          clear hbk HCE HEQ hww
          generalize words[j]'hk = x at *
          have hi0 : (0 : Int) ≤ (j : Int) := by omega
          have hi1 : (j : Int) < 8 := by omega
          have hi2 : (j : Int) ≤ 7 := by omega
          by_cases hxy : x = y
          · rw [decide_eq_true hxy] at hq
            rw [if_pos hxy] at HB2
            clear hxy
            go_wp2_with fail
            go_roundw
            case rel => exact ⟨j + 1, by omega, by omega, by go_num, by rw [unhide HB2], unhide HWW⟩
            case measure => simp [intOf]; omega
          · rw [decide_eq_false hxy] at hq
            rw [if_neg hxy] at HB2
            clear hxy
            go_wp2_with fail
            go_roundw
            case rel => exact ⟨j + 1, by omega, by omega, by go_num, by rw [unhide HB2], unhide HWW⟩
            case measure => simp [intOf]; omega
  · have hwn := unhide HWN (by omega)
    rw [hwn, show S [] = (⟨#[]⟩ : ByteArray) from rfl] at HWO hss
    clear hwn HKW HWS HWN w0 HK2
    go_enter Tryd.func6, Tryd.ntmps6
    go_wp2_with fail
    rw [← hB]
    clear hB
    go_loopw [7, 8] (fun s7 s8 wx => ∃ k : Nat, 1 ≤ k ∧ k ≤ 8 ∧ s8 = .int .i64 (k : Int) ∧ s7 = .int .i64 (backOf y k) ∧ wx = w.alloc B) (fun _ s8 _ => 8 - (intOf s8).toNat)
    case atStart => exact ⟨1, Nat.le_refl _, by omega, rfl, rfl, rfl⟩
    case round =>
      obtain ⟨j, hk1, hk8, rfl, rfl, hww⟩ := hrel
      by_cases h8 : j = 8
      · subst h8
        have hww' := hww
        rw [unhide HBK]
        have HLW : Hid (Below w.heap.size w wr) := by rw [hww]; exact unhide HSZ
        clear HCE HEQ HBK hww hww'
        generalize kindOf y = ky at *
        go_wp2_with fail
        refine (unhide HNE wr).mono ?_
        rintro e w2 ⟨rfl, hb2⟩
        have hz2 := (unhide HLW).size
        have HL2 := hide ((unhide HLW).trans (hb2.mono hz2))
        clear hb2 hz2
        go_wp2_with fail
        refine (unhide HAW _ ((unhide HL2).trans ((under_box _).mono (unhide HL2).size))).mono ?_
        rintro e w3 ⟨rfl, hb3⟩
        rw [World.size_alloc] at hb3
        obtain ⟨p0, p1, p2, hz3, hl3⟩ := box3 hb3
        have HL3 := hide ((unhide HL2).trans (hl3.mono (unhide HL2).size))
        clear hb3 hl3 hz3 HAW
        go_wp2_with fail
        refine (unhide HWO _ (unhide HL3)).mono ?_
        rintro e w4 ⟨rfl, rfl⟩
        go_wp2_with fail
        refine (unhide HK1 _ (unhide HL3)).mono ?_
        rintro e w4 ⟨rfl, rfl⟩
        go_wp2_with fail
        go_ret
        exact ⟨rfl, unhide HL3⟩
      · have hk : j < words.length := by show j < 8; omega
        have hc := unhide HCE j hk
        rw [← hww] at hc
        have HWW := hide hww
        have hq := unhide HEQ (words[j]'hk)
        have hbk : backOf y (j + 1) = if words[j]'hk = y then (j : Int) else backOf y j := by
          have hg : words.getD j [] = words[j]'hk := by simp [List.getD, hk]
          show (if 1 ≤ j ∧ words.getD j [] = y then (j : Int) else backOf y j) = _
          rw [hg]
          by_cases e : words[j]'hk = y
          · rw [if_pos ⟨hk1, e⟩, if_pos e]
          · rw [if_neg (fun h => e h.2), if_neg e]
        have HB2 := hide hbk
        clear hbk HCE HEQ hww
        generalize words[j]'hk = x at *
        have hi0 : (0 : Int) ≤ (j : Int) := by omega
        have hi1 : (j : Int) < 8 := by omega
        have hi2 : (j : Int) ≤ 7 := by omega
        by_cases hxy : x = y
        · rw [decide_eq_true hxy] at hq
          rw [if_pos hxy] at HB2
          clear hxy
          go_wp2_with fail
          go_roundw
          case rel => exact ⟨j + 1, by omega, by omega, by go_num, by rw [unhide HB2], unhide HWW⟩
          case measure => simp [intOf]; omega
        · rw [decide_eq_false hxy] at hq
          rw [if_neg hxy] at HB2
          clear hxy
          go_wp2_with fail
          go_roundw
          case rel => exact ⟨j + 1, by omega, by omega, by go_num, by rw [unhide HB2], unhide HWW⟩
          case measure => simp [intOf]; omega
end Go.Proofs.YtgeibmlhmljhpaaDoor
