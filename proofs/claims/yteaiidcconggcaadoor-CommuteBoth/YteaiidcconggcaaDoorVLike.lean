/- The contracts of slices.Equal at rows of two texts, of Same, and of the document's Like. -/
import Derived.Test.YteaiidcconggcaaDoorVRow
namespace Go.Proofs.YteaiidcconggcaaDoor
open Go.RowKit
set_option linter.unusedVariables false
set_option maxRecDepth 100000

theorem take_next {α : Type} {a b : List α} {k : Nat} (ha : k < a.length) (hb : k < b.length) (h : a.take k = b.take k) (e : a[k]'ha = b[k]'hb) : a.take (k + 1) = b.take (k + 1) := by
  rw [List.take_succ_eq_append_getElem ha, List.take_succ_eq_append_getElem hb, h, e]
theorem not_same_at {α : Type} {a b : List α} {k : Nat} (ha : k < a.length) (hb : k < b.length) (e : a[k]'ha ≠ b[k]'hb) : a ≠ b := by
  intro h
  subst h
  exact e rfl
def VS.alike (s t : VS) : Bool := decide (s.kind = t.kind ∧ s.n = t.n ∧ s.rows = t.rows)

set_option maxHeartbeats 3200000 in
theorem vequal_any {w : World} {v1 v2 : Value} {l1 l2 : List (List UInt8 × List UInt8)} (h1 : Row2 w v1 l1) (h2 : Row2 w v2 l2) :
    Calls Tryd.prog 42 #[v1, v2] w fun e w' => e = .returned (.bool (decide (l1 = l2))) ∧ Below w.heap.size w w' := by
  obtain ⟨a1, c1, rfl, hc1, hm1⟩ := h1.shape
  obtain ⟨a2, c2, rfl, hc2, hm2⟩ := h2.shape
  unfold maxLen at hm1 hm2
  by_cases hl : l1.length = l2.length
  · have hn : (((l1.length : Nat) : Int) != ((l2.length : Nat) : Int)) = false := by rw [hl]; simp
    have H1 := hide h1
    have H2 := hide h2
    have HL := hide hl
    obtain ⟨m, hm⟩ : ∃ m, l2.length = m := ⟨_, rfl⟩
    have HM := hide hm
    rw [hm] at hl hc2 hn ⊢
    rw [hl] at hc1 hn ⊢
    obtain ⟨R, hR⟩ : ∃ R, decide (l1 = l2) = R := ⟨_, rfl⟩
    have HR := hide hR
    rw [hR]
    clear h1 h2 hl hm hR
    go_enter Tryd.func42, Tryd.ntmps42
    go_wp2_with fail
    go_loopw [13] (fun i wr => ∃ k : Nat, k ≤ m ∧ i = .int .i64 (k : Int) ∧ l1.take k = l2.take k ∧ Below w.heap.size w wr) (fun i _ => m - (intOf i).toNat)
    case atStart => exact ⟨0, Nat.zero_le _, rfl, rfl, Below.refl _ _⟩
    case round =>
      obtain ⟨k, hk, rfl, htk, hlow⟩ := hrel
      by_cases hlt : k < m
      · have hk1 : k < l1.length := by have := unhide HL; have := unhide HM; omega
        have hk2 : k < l2.length := by have := unhide HM; omega
        obtain ⟨b1, o1, rfl, hb1, e1, f1⟩ := (unhide H1).at k hk1
        obtain ⟨b2, o2, rfl, hb2, e2, f2⟩ := (unhide H2).at k hk2
        rw [← hlow.cell (p := ⟨b1, o1 + k * 2, none⟩) hb1] at e1
        rw [← hlow.cell (p := ⟨b1, o1 + k * 2 + 1, none⟩) hb1] at f1
        rw [← hlow.cell (p := ⟨b2, o2 + k * 2, none⟩) hb2] at e2
        rw [← hlow.cell (p := ⟨b2, o2 + k * 2 + 1, none⟩) hb2] at f2
        have HY := hide (fun (e : l1[k]'hk1 = l2[k]'hk2) => take_next hk1 hk2 htk e)
        have HN := hide (fun (e : l1[k]'hk1 ≠ l2[k]'hk2) => not_same_at hk1 hk2 e)
        generalize l1[k]'hk1 = r1 at *
        generalize l2[k]'hk2 = r2 at *
        obtain ⟨x1, y1⟩ := r1
        obtain ⟨x2, y2⟩ := r2
        dsimp only at *
        have hi0 : (0 : Int) ≤ (k : Int) := by omega
        have hi1 : (k : Int) < (m : Int) := by omega
        have s1 := S_eq x1 x2
        have s2 := S_eq y1 y2
        have HLW := hide (fun (q : Nat) => hlow.trans (drewN_low wr q))
        clear htk hlow
        by_cases hx : x1 = x2
        · rw [decide_eq_true hx] at s1
          by_cases hy : y1 = y2
          · rw [decide_eq_true hy] at s2
            have HY2 := hide (unhide HY (by rw [hx, hy]))
            clear hx hy HY HN
            go_wp2_with fail
            go_quiet (fail)
            go_wp2_with fail
            go_roundw
            case rel => exact ⟨k + 1, by omega, by go_num, unhide HY2, unhide HLW _⟩
            case measure => simp [intOf]; omega
          · rw [decide_eq_false hy] at s2
            have hRf : R = false := by rw [← unhide HR]; exact decide_eq_false (unhide HN (by simp [hy]))
            subst hRf
            clear hx hy HY HN
            go_wp2_with fail
            go_quiet (fail)
            go_wp2_with fail
            go_ret
            exact ⟨rfl, unhide HLW _⟩
        · rw [decide_eq_false hx] at s1
          have hRf : R = false := by rw [← unhide HR]; exact decide_eq_false (unhide HN (by simp [hx]))
          subst hRf
          clear hx HY HN
          go_wp2_with fail
          go_quiet (fail)
          go_wp2_with fail
          go_ret
          exact ⟨rfl, unhide HLW _⟩
      · have hkm : k = m := by omega
        have hRt : R = true := by
          rw [← unhide HR]
          apply decide_eq_true
          have h1 := unhide HL
          have h2 := unhide HM
          rw [List.take_of_length_le (by omega), List.take_of_length_le (by omega)] at htk
          exact htk
        subst hRt
        have HLW := hide hlow
        clear htk hlow
        go_wp2_with fail
        go_ret
        exact ⟨rfl, unhide HLW⟩
  · have hn : (((l1.length : Nat) : Int) != ((l2.length : Nat) : Int)) = true := by rw [bne_iff_ne]; omega
    rw [decide_eq_false (fun h => hl (by rw [h]))]
    clear h1 h2 hl
    go_enter Tryd.func42, Tryd.ntmps42
    go_wp2_with fail
    go_ret
    exact ⟨rfl, Below.refl _ _⟩

set_option maxHeartbeats 3200000 in
theorem vsame_any {w : World} {va vb : Value} {s t : VS} (ha : StAt w va s) (hb : StAt w vb t) :
    Calls Tryd.prog 25 #[va, vb] w fun e w' => e = .returned (.bool (s.alike t)) ∧ Below w.heap.size w w' := by
  obtain ⟨ka, rfl, hra⟩ := ha
  obtain ⟨kb, rfl, hrb⟩ := hb
  have HEQ := hide (fun (w1 : World) (hl : Below w.heap.size w w1) => vequal_any (hra.later hl) (hrb.later hl))
  obtain ⟨a1, c1, rfl, _⟩ := hra.shape
  obtain ⟨a2, c2, rfl, _⟩ := hrb.shape
  clear hra hrb
  obtain ⟨k1, n1, r1⟩ := s
  obtain ⟨k2, n2, r2⟩ := t
  dsimp only at *
  unfold VS.alike
  dsimp only
  by_cases hk : k1 = k2
  · have e1 : (k1 == k2) = true := by rw [beq_iff_eq]; exact hk
    by_cases hn : n1 = n2
    · have e2 : (n1 == n2) = true := by rw [beq_iff_eq]; exact hn
      have hd : decide (k1 = k2 ∧ n1 = n2 ∧ r1 = r2) = decide (r1 = r2) := by simp [hk, hn]
      rw [hd]
      clear hd hk hn
      generalize decide (r1 = r2) = R at *
      go_enter Tryd.func25, Tryd.ntmps25
      go_wp2_with fail
      refine (unhide HEQ _ (under_two _ _ _)).mono ?_
      rintro e w1 ⟨rfl, hb1⟩
      have HL := hide ((under_two w _ _).trans (hb1.mono (by simp; omega)))
      clear hb1 HEQ
      go_wp2_with fail
      go_ret
      exact ⟨rfl, unhide HL⟩
    · have e2 : (n1 == n2) = false := by rw [beq_eq_false_iff_ne]; exact hn
      rw [decide_eq_false (fun h => hn h.2.1)]
      clear hk hn
      go_enter Tryd.func25, Tryd.ntmps25
      go_wp2_with fail
      go_ret
      exact ⟨rfl, under_two _ _ _⟩
  · have e1 : (k1 == k2) = false := by rw [beq_eq_false_iff_ne]; exact hk
    rw [decide_eq_false (fun h => hk h.1)]
    clear hk
    go_enter Tryd.func25, Tryd.ntmps25
    go_wp2_with fail
    go_ret
    exact ⟨rfl, under_two _ _ _⟩

/- Two boxes of three cells. -/
def B2 (w : World) (A B : Obj) (w1 : World) : Prop := Below (w.heap.size + 1 + 1) ((w.alloc A).alloc B) w1
theorem B2.start (w : World) (A B : Obj) : B2 w A B ((w.alloc A).alloc B) := Below.refl _ _
theorem B2.drewN {w w1 : World} {A B : Obj} (h : B2 w A B w1) (q : Nat) : B2 w A B (w1.drewN q) := Below.trans h (drewN_low _ _)
theorem B2.low {w w1 : World} {A B : Obj} (h : B2 w A B w1) : Below w.heap.size w w1 := (under_two w A B).trans (Below.mono h (by omega))
theorem B2.cells {w : World} {A B : Obj} {a b c a' b' c' : Value} {t t' : TypeId} (hA : A = .cells #[a, b, c] t (0, 0)) (hB : B = .cells #[a', b', c'] t' (0, 0)) : (∀ w1, B2 w A B w1 → w1.cell? ⟨w.heap.size, 2, none⟩ = some c) ∧ (∀ w1, B2 w A B w1 → w1.cell? ⟨w.heap.size + 1, 2, none⟩ = some c') := by
  subst hA hB
  refine ⟨fun w1 h => ?_, fun w1 h => ?_⟩
  · have := (Below.block h w.heap.size (by omega)).trans ((Below.heap_alloc _ _ _ (by simp)).trans (heap_alloc_new w _))
    rw [block_cell this]; rfl
  · have h1 := heap_alloc_new (w.alloc (.cells #[a, b, c] t (0, 0))) (.cells #[a', b', c'] t' (0, 0))
    rw [World.size_alloc] at h1
    have := (Below.block h (w.heap.size + 1) (by omega)).trans h1
    rw [block_cell this]; rfl

set_option maxHeartbeats 3200000 in
theorem like_any {w : World} {va vb : Value} {s t : VS} (ha : StAt w va s) (hb : StAt w vb t) :
    Calls Tryd.prog 38 #[va, vb] w fun e w' => e = .returned (.bool (s.alike t)) ∧ Below w.heap.size w w' := by
  obtain ⟨ka, rfl, h1⟩ := ha
  obtain ⟨kb, rfl, h2⟩ := hb
  obtain ⟨a1, c1, rfl, hc1, hm1⟩ := h1.shape
  obtain ⟨a2, c2, rfl, hc2, hm2⟩ := h2.shape
  unfold maxLen at hm1 hm2
  obtain ⟨k1, n1, l1⟩ := s
  obtain ⟨k2, n2, l2⟩ := t
  dsimp only at *
  unfold VS.alike
  dsimp only
  by_cases hk : k1 = k2
  case neg =>
    have e1 : (k1 != k2) = true := by rw [bne_iff_ne]; exact hk
    rw [decide_eq_false (fun h => hk h.1)]
    clear hk h1 h2
    go_enter Tryd.func38, Tryd.ntmps38
    go_wp2_with fail
    go_ret
    exact ⟨rfl, under_two _ _ _⟩
  have e1 : (k1 != k2) = false := by rw [hk]; simp
  by_cases hn : n1 = n2
  case neg =>
    have e2 : (n1 != n2) = true := by rw [bne_iff_ne]; exact hn
    rw [decide_eq_false (fun h => hn h.2.1)]
    clear hk hn h1 h2
    go_enter Tryd.func38, Tryd.ntmps38
    go_wp2_with fail
    go_ret
    exact ⟨rfl, under_two _ _ _⟩
  have e2 : (n1 != n2) = false := by rw [hn]; simp
  have hd : decide (k1 = k2 ∧ n1 = n2 ∧ l1 = l2) = decide (l1 = l2) := by simp [hk, hn]
  rw [hd]
  clear hd hk hn
  by_cases hl : l1.length = l2.length
  case neg =>
    have hnn : (((l1.length : Nat) : Int) != ((l2.length : Nat) : Int)) = true := by rw [bne_iff_ne]; omega
    rw [decide_eq_false (fun h => hl (by rw [h]))]
    clear h1 h2 hl
    go_enter Tryd.func38, Tryd.ntmps38
    go_wp2_with fail
    go_ret
    exact ⟨rfl, under_two _ _ _⟩
  have hnn : (((l1.length : Nat) : Int) != ((l2.length : Nat) : Int)) = false := by rw [hl]; simp
  have H1 := hide h1
  have H2 := hide h2
  have HL := hide hl
  obtain ⟨m, hm⟩ : ∃ m, l2.length = m := ⟨_, rfl⟩
  have HM := hide hm
  rw [hm] at hl hc2 hnn ⊢
  rw [hl] at hc1 hnn ⊢
  obtain ⟨R, hR⟩ : ∃ R, decide (l1 = l2) = R := ⟨_, rfl⟩
  have HR := hide hR
  rw [hR]
  obtain ⟨A, hA⟩ : ∃ A : Obj, A = .cells #[.int .i64 k1, .int .i64 n1, .slice a1 m c1] 38 (0, 0) := ⟨_, rfl⟩
  obtain ⟨B, hB⟩ : ∃ B : Obj, B = .cells #[.int .i64 k2, .int .i64 n2, .slice a2 m c2] 38 (0, 0) := ⟨_, rfl⟩
  obtain ⟨g1, g2⟩ := B2.cells (w := w) hA hB
  clear h1 h2 hl hm hR
  go_enter Tryd.func38, Tryd.ntmps38
  go_wp2_with fail
  rw [← hA, ← hB]
  clear hA hB
  go_loopw [30] (fun i wr => ∃ k : Nat, k ≤ m ∧ i = .int .i64 (k : Int) ∧ l1.take k = l2.take k ∧ B2 w A B wr) (fun i _ => m - (intOf i).toNat)
  case atStart => exact ⟨0, Nat.zero_le _, rfl, rfl, B2.start w A B⟩
  case round =>
    obtain ⟨k, hk, rfl, htk, hb2⟩ := hrel
    have hlow := hb2.low
    have q1 := g1 _ hb2
    have q2 := g2 _ hb2
    by_cases hlt : k < m
    · have hk1 : k < l1.length := by have := unhide HL; have := unhide HM; omega
      have hk2 : k < l2.length := by have := unhide HM; omega
      obtain ⟨b1, o1, rfl, hb1, e1', f1⟩ := (unhide H1).at k hk1
      obtain ⟨b2, o2, rfl, hb2', e2', f2⟩ := (unhide H2).at k hk2
      rw [← hlow.cell (p := ⟨b1, o1 + k * 2, none⟩) hb1] at e1'
      rw [← hlow.cell (p := ⟨b1, o1 + k * 2 + 1, none⟩) hb1] at f1
      rw [← hlow.cell (p := ⟨b2, o2 + k * 2, none⟩) hb2'] at e2'
      rw [← hlow.cell (p := ⟨b2, o2 + k * 2 + 1, none⟩) hb2'] at f2
      have HY := hide (fun (e : l1[k]'hk1 = l2[k]'hk2) => take_next hk1 hk2 htk e)
      have HN := hide (fun (e : l1[k]'hk1 ≠ l2[k]'hk2) => not_same_at hk1 hk2 e)
      generalize l1[k]'hk1 = r1 at *
      generalize l2[k]'hk2 = r2 at *
      obtain ⟨x1, y1⟩ := r1
      obtain ⟨x2, y2⟩ := r2
      dsimp only at *
      have hi0 : (0 : Int) ≤ (k : Int) := by omega
      have hi1 : (k : Int) < (m : Int) := by omega
      have s1 := S_eq x1 x2
      have s2 := S_eq y1 y2
      have HLW := hide (fun (q : Nat) => hlow.trans (drewN_low wr q))
      have HB2 := hide (fun (q : Nat) => hb2.drewN q)
      clear htk hlow hb2 g1 g2
      by_cases hx : x1 = x2
      · rw [decide_eq_true hx] at s1
        by_cases hy : y1 = y2
        · rw [decide_eq_true hy] at s2
          have HY2 := hide (unhide HY (by rw [hx, hy]))
          clear hx hy HY HN
          go_wp2_with fail
          go_quiet (fail)
          go_wp2_with fail
          go_roundw
          case rel => exact ⟨k + 1, by omega, by go_num, unhide HY2, unhide HB2 _⟩
          case measure => simp [intOf]; omega
        · rw [decide_eq_false hy] at s2
          have hRf : R = false := by rw [← unhide HR]; exact decide_eq_false (unhide HN (by simp [hy]))
          subst hRf
          clear hx hy HY HN
          go_wp2_with fail
          go_quiet (fail)
          go_wp2_with fail
          go_ret
          exact ⟨rfl, unhide HLW _⟩
      · rw [decide_eq_false hx] at s1
        have hRf : R = false := by rw [← unhide HR]; exact decide_eq_false (unhide HN (by simp [hx]))
        subst hRf
        clear hx HY HN
        go_wp2_with fail
        go_quiet (fail)
        go_wp2_with fail
        go_ret
        exact ⟨rfl, unhide HLW _⟩
    · have hkm : k = m := by omega
      have hRt : R = true := by
        rw [← unhide HR]
        apply decide_eq_true
        have h1 := unhide HL
        have h2 := unhide HM
        rw [List.take_of_length_le (by omega), List.take_of_length_le (by omega)] at htk
        exact htk
      subst hRt
      have HLW := hide hlow
      clear htk hlow
      go_wp2_with fail
      go_ret
      exact ⟨rfl, unhide HLW⟩
end Go.Proofs.YteaiidcconggcaaDoor
