/- StampParses's walk. -/
import Derived.Test.YtbggjkokfbcbcaaDoorSAwake
import Derived.Test.YtbggjkokfbcbcaaDoorSRefParse
namespace Go.Proofs.YtbggjkokfbcbcaaDoor
open Go.RowKit
set_option linter.unusedVariables false
set_option maxRecDepth 100000

theorem parse_mark (l : List UInt8) : (Codec.parse l).1.mark ≤ 255 := by
  unfold Codec.parse Codec.behind
  split
  · exact Nat.zero_le _
  · split
    · exact Nat.zero_le _
    · split
      · exact Nat.zero_le _
      · split
        · exact Nat.zero_le _
        · have := takeN_bound 255 (Codec.readNum (l.drop 4)).2
          unfold Codec.readMark
          dsimp only
          omega
theorem behind_err (l : List UInt8) : (Codec.behind l).2 = 0 → (Codec.readData l).2.2 = 0 ∧ (Codec.readData l).2.1.any (fun c => c != 0) = false ∧ (Codec.behind l).1 = ⟨(Codec.readNum l).1, (Codec.readMark l).1, (Codec.readData l).1⟩ := by
  unfold Codec.behind
  generalize Codec.readData l = o3
  generalize Codec.readNum l = o1
  generalize Codec.readMark l = o2
  obtain ⟨t3, r3, e3⟩ := o3
  dsimp only
  generalize r3.any (fun c => c != 0) = an
  intro h
  by_cases h1 : e3 = 0
  · rw [if_neg (by simpa using h1)] at h ⊢
    by_cases h2 : o1.1 = 0 ∨ an = true
    · rw [if_pos h2] at h; cases h
    · rw [if_neg h2] at h ⊢
      refine ⟨h1, ?_, rfl⟩
      cases an with
      | false => rfl
      | true => exact absurd (Or.inr rfl) h2
  · rw [if_pos h1] at h; exact absurd h h1
set_option maxHeartbeats 400000 in
theorem parse_ok (l : List UInt8) (h : (Codec.parse l).2 = 0) : (Codec.parse l).1.Ok ∧ (Codec.parse l).1.data.length ≤ 44 ∧ Codec.secText (Codec.parse l).1 = l := by
  unfold Codec.parse at h ⊢
  split at h
  · cases h
  · rename_i h64
    split at h
    · cases h
    · rename_i hs
      have hs' : l.take 4 = Codec.sumOf (l.drop 4) := Classical.byContradiction hs
      rw [if_neg h64, if_neg hs]
      have hl : (l.drop 4).length = 60 := by rw [List.length_drop]; omega
      obtain ⟨h1, h2, h3⟩ := behind_err _ h
      obtain ⟨_, b1, b2, b3⟩ := Codec.behind_body _ h1
      have := (Codec.rest_iff _ hl h1).2 h2
      have hq := List.take_append_drop 4 l
      rw [hs'] at hq
      rw [h3]
      generalize Codec.readNum (l.drop 4) = o1 at *
      generalize Codec.readMark (l.drop 4) = o2 at *
      generalize Codec.readData (l.drop 4) = o3 at *
      refine ⟨⟨b1, b2, Nat.le_trans b3 (by decide)⟩, b3, ?_⟩
      unfold Codec.secText
      rw [this]
      exact hq

set_option maxHeartbeats 6400000 in
theorem sparses_any (d : List UInt8) (r : Bool) (w : World) (hd : d.length ≤ 9223372036854775807) :
    Calls Tryd.prog 4 #[.string (S d), .bool r] w fun e w' => e = .returned (.bool true) ∧ Below w.heap.size w w' := by
  have HCUT := hide (fun wy => cut_any (S d) 66 wy (by unfold maxLen; show d.length ≤ _; omega))
  rw [S_toList] at HCUT
  have h66 : (d.take 66).length ≤ 66 := by simp; omega
  generalize d.take 66 = t at *
  have HAW := hide (fun wy => sawake_any wy)
  have HPS := hide (fun l wy (h : List.length l ≤ 1000) => sparse_any l wy h)
  have HRP := hide (fun l wy (h : List.length l ≤ 1000) => rparse_any l wy h)
  have hsz : (S t).size = t.length := rfl
  go_enter Tryd.func4, Tryd.ntmps4
  go_wp2_with fail
  refine (unhide HCUT _).mono ?_
  rintro e w1 ⟨rfl, hw1⟩
  obtain rfl := hw1.symm
  clear HCUT hw1
  have hl1 : t.length ≤ 1000 := by omega
  have HB : Hid (Below w.heap.size w w) := Below.refl _ _
  cases r with
  | false =>
    go_wp2_with fail
    have hmk := parse_mark t
    have hpo := parse_ok t
    refine (unhide HPS t _ hl1).mono ?_
    rintro e w2 ⟨rfl, hb2⟩
    have HB2 := hide ((unhide HB).trans (hb2.mono (unhide HB).size))
    have HRX := hide (fun wy => unhide HRP t wy hl1)
    clear hb2
    generalize Codec.parse t = P at *
    obtain ⟨⟨n, mk, t3⟩, pe⟩ := P
    unfold SV
    unfold RV at HRX
    dsimp only at *
    have HTO := hide (fun wy => told_any (n : Int) mk t3 wy (by omega))
    go_wp2_with fail
    refine (unhide HRX _).mono ?_
    rintro e w3 ⟨rfl, hb3⟩
    have hq2 : w3.heap[w2.heap.size]? = some (.cells #[.int .i64 (n : Int), .int .u8 (mk : Int), .string (S t3)] 23 (0, 0)) := (hb3.block w2.heap.size (by simp)).trans (heap_alloc_new w2 _)
    have hlt2 := blt hq2
    have hbA := (((unhide HB2).alloc (unhide HB2).size (.cells #[.int .i64 (n : Int), .int .u8 (mk : Int), .string (S t3)] 23)).trans (hb3.mono (by have := (unhide HB2).size; simp; omega)))
    obtain ⟨W2, hW2⟩ : ∃ W2, w3.alloc (.cells #[.int .i64 (n : Int), .int .i64 (mk : Int), .string (S t3)] 30) = W2 := ⟨_, rfl⟩
    have hs2 : W2.heap.size = w3.heap.size + 1 := by rw [← hW2]; simp
    have hq3 : W2.heap[w3.heap.size]? = some (.cells #[.int .i64 (n : Int), .int .i64 (mk : Int), .string (S t3)] 30 (0, 0)) := by rw [← hW2]; exact heap_alloc_new w3 _
    have hcA : Below w3.heap.size w3 W2 := by rw [← hW2]; exact (Below.refl _ _).alloc (Nat.le_refl _) _
    have HBA := hide (hbA.trans (hcA.mono hbA.size))
    have CELLS := hide (fun w' (hx : Below W2.heap.size W2 w') => (show w'.cell? ⟨w2.heap.size, 0, none⟩ = some (.int .i64 (n : Int)) ∧ w'.cell? ⟨w2.heap.size, 1, none⟩ = some (.int .u8 (mk : Int)) ∧ w'.cell? ⟨w2.heap.size, 2, none⟩ = some (.string (S t3)) ∧ w'.cell? ⟨w3.heap.size, 0, none⟩ = some (.int .i64 (n : Int)) ∧ w'.cell? ⟨w3.heap.size, 1, none⟩ = some (.int .i64 (mk : Int)) ∧ w'.cell? ⟨w3.heap.size, 2, none⟩ = some (.string (S t3)) from
      ⟨((hx.cell (p := ⟨w2.heap.size, 0, none⟩) (by show w2.heap.size < _; omega)).trans (hcA.cell (p := ⟨w2.heap.size, 0, none⟩) hlt2)).trans (bcell hq2 0),
       ((hx.cell (p := ⟨w2.heap.size, 1, none⟩) (by show w2.heap.size < _; omega)).trans (hcA.cell (p := ⟨w2.heap.size, 1, none⟩) hlt2)).trans (bcell hq2 1),
       ((hx.cell (p := ⟨w2.heap.size, 2, none⟩) (by show w2.heap.size < _; omega)).trans (hcA.cell (p := ⟨w2.heap.size, 2, none⟩) hlt2)).trans (bcell hq2 2),
       (hx.cell (p := ⟨w3.heap.size, 0, none⟩) (by show w3.heap.size < _; omega)).trans (bcell hq3 0),
       (hx.cell (p := ⟨w3.heap.size, 1, none⟩) (by show w3.heap.size < _; omega)).trans (bcell hq3 1),
       (hx.cell (p := ⟨w3.heap.size, 2, none⟩) (by show w3.heap.size < _; omega)).trans (bcell hq3 2)⟩))
    have HW2 := hide hW2
    clear hcA hq2 hq3 hs2 hW2 hbA hb3 hlt2 HB2 HB HRX HPS HRP
    go_wp2_with fail
    rw [unhide HW2]
    have hcur2 : Below W2.heap.size W2 W2.drew := (Below.refl _ _).drew
    obtain ⟨f0, f1, f2, f3, f4, f5⟩ := unhide CELLS _ hcur2
    by_cases hpe : pe = 0
    · subst hpe
      obtain ⟨hok, h44, htx⟩ := hpo rfl
      have HT := hide (fun wy => stext_any ⟨n, mk, t3⟩ wy hok h44)
      rw [htx] at HT
      unfold SV at HT
      dsimp only at HT
      clear hok h44 htx hpo
      go_region_held3 (fun w' => w'.cell? ⟨w2.heap.size, 0, none⟩ = some (.int .i64 (n : Int)) ∧ w'.cell? ⟨w2.heap.size, 1, none⟩ = some (.int .u8 (mk : Int)) ∧ w'.cell? ⟨w2.heap.size, 2, none⟩ = some (.string (S t3)) ∧ w'.cell? ⟨w3.heap.size, 0, none⟩ = some (.int .i64 (n : Int)) ∧ w'.cell? ⟨w3.heap.size, 1, none⟩ = some (.int .i64 (mk : Int)) ∧ w'.cell? ⟨w3.heap.size, 2, none⟩ = some (.string (S t3))) (go_keep)
        (first
          | (go_at_call 6; refine (unhide HAW _).mono ?_; rintro e w7 ⟨rfl, hb7⟩; replace hcur2 := hcur2.trans (hb7.mono hcur2.size); obtain ⟨f0, f1, f2, f3, f4, f5⟩ := unhide CELLS _ hcur2; clear hb7)
          | (go_at_call 9; refine (unhide HTO _).mono ?_; rintro e w7 ⟨rfl, hb7⟩; replace hcur2 := hcur2.trans (hb7.mono hcur2.size); obtain ⟨f0, f1, f2, f3, f4, f5⟩ := unhide CELLS _ hcur2; clear hb7)
          | (go_at_call 11; refine (unhide HT _).mono ?_; rintro e w7 ⟨rfl, hb7⟩; replace hcur2 := hcur2.trans (hb7.mono hcur2.size); obtain ⟨f0, f1, f2, f3, f4, f5⟩ := unhide CELLS _ hcur2; clear hb7)
          | fail)
      go_wp2_with fail
      go_ret
      exact ⟨rfl, (unhide HBA).trans (hcur2.mono (unhide HBA).size)⟩
    · have hpe0 : ∀ t : TypeId, binOp .neq t (.int .i64 pe) (.int .i64 0) = pure (.bool true) := fun t => by rw [binOp_neq, bne_iff_ne.2 hpe]
      refine wp_region_held_drew (S := (fun w' => w'.cell? ⟨w2.heap.size, 0, none⟩ = some (.int .i64 (n : Int)) ∧ w'.cell? ⟨w2.heap.size, 1, none⟩ = some (.int .u8 (mk : Int)) ∧ w'.cell? ⟨w2.heap.size, 2, none⟩ = some (.string (S t3)) ∧ w'.cell? ⟨w3.heap.size, 0, none⟩ = some (.int .i64 (n : Int)) ∧ w'.cell? ⟨w3.heap.size, 1, none⟩ = some (.int .i64 (mk : Int)) ∧ w'.cell? ⟨w3.heap.size, 2, none⟩ = some (.string (S t3)))) (by kernel_rfl) ?_ (fun hHeld => ?_)
      · go_keep
      refine wpAnyH_ready (rs := [0]) (by kernel_rfl) (by simp) ?_
      refine AllReadyH.cons rfl (fun K hK => ?_) AllReadyH.nil
      go_simp
      (go_at_call 6; refine (unhide HAW _).mono ?_; rintro e w7 ⟨rfl, hb7⟩; replace hcur2 := hcur2.trans (hb7.mono hcur2.size); obtain ⟨f0, f1, f2, f3, f4, f5⟩ := unhide CELLS _ hcur2; clear hb7)
      refine hK.out _ _ ?_ (fun hHeld => ?_)
      · go_keep
      clear hK K
      try simp only [Act.put, List.setIfInBounds_toArray, List.set_cons_zero, List.set_cons_succ]
      refine wpAnyH_take (i := 1) (oi := { dst := some 35, op := _, type := _, pos := _, after := _, guard := _ }) (v := ?_) rfl (by kernel_rfl) (by kernel_rfl) (by kernel_rfl) (fun _ _ _ h => h) (Or.inl ⟨by kernel_rfl, ?_⟩) (by assumption) ?_
      rotate_left
      · intro w hSw; (try dsimp only at hSw); go_simp; try (with_reducible rfl)
      try simp only [Act.put, List.setIfInBounds_toArray, List.set_cons_zero, List.set_cons_succ]
      refine wpAnyH_take (i := 2) (oi := { dst := some 36, op := _, type := _, pos := _, after := _, guard := _ }) (v := ?_) rfl (by kernel_rfl) (by kernel_rfl) (by kernel_rfl) (fun _ _ _ h => h) (Or.inl ⟨by kernel_rfl, ?_⟩) (by assumption) ?_
      rotate_left
      · intro w hSw; (try dsimp only at hSw); go_simp; try (with_reducible rfl)
      try simp only [Act.put, List.setIfInBounds_toArray, List.set_cons_zero, List.set_cons_succ]
      refine wpAnyH_take (i := 3) (oi := { dst := some 37, op := _, type := _, pos := _, after := _, guard := _ }) (v := ?_) rfl (by kernel_rfl) (by kernel_rfl) (by kernel_rfl) (fun _ _ _ h => h) (Or.inl ⟨by kernel_rfl, ?_⟩) (by assumption) ?_
      rotate_left
      · intro w hSw; (try dsimp only at hSw); go_simp; try (with_reducible rfl)
      try simp only [Act.put, List.setIfInBounds_toArray, List.set_cons_zero, List.set_cons_succ]
      refine wpAnyH_take (i := 4) (oi := { dst := some 38, op := _, type := _, pos := _, after := _, guard := _ }) (v := ?_) rfl (by kernel_rfl) (by kernel_rfl) (by kernel_rfl) (fun _ _ _ h => h) (Or.inl ⟨by kernel_rfl, ?_⟩) (by assumption) ?_
      rotate_left
      · intro w hSw; (try dsimp only at hSw); go_simp; try (with_reducible rfl)
      try simp only [Act.put, List.setIfInBounds_toArray, List.set_cons_zero, List.set_cons_succ]
      refine wpAnyH_take (i := 5) (oi := { dst := some 39, op := _, type := _, pos := _, after := _, guard := _ }) (v := ?_) rfl (by kernel_rfl) (by kernel_rfl) (by kernel_rfl) (fun _ _ _ h => h) (Or.inl ⟨by kernel_rfl, ?_⟩) (by assumption) ?_
      rotate_left
      · intro w hSw; (try dsimp only at hSw); go_simp; try (with_reducible rfl)
      try simp only [Act.put, List.setIfInBounds_toArray, List.set_cons_zero, List.set_cons_succ]
      refine wpAnyH_take (i := 6) (oi := { dst := some 40, op := _, type := _, pos := _, after := _, guard := _ }) (v := ?_) rfl (by kernel_rfl) (by kernel_rfl) (by kernel_rfl) (fun _ _ _ h => h) (Or.inl ⟨by kernel_rfl, ?_⟩) (by assumption) ?_
      rotate_left
      · intro w hSw; (try dsimp only at hSw); go_simp; try (with_reducible rfl)
      try simp only [Act.put, List.setIfInBounds_toArray, List.set_cons_zero, List.set_cons_succ]
      refine wpAnyH_take (i := 7) (oi := { dst := some 41, op := _, type := _, pos := _, after := _, guard := _ }) (v := ?_) rfl (by kernel_rfl) (by kernel_rfl) (by kernel_rfl) (fun _ _ _ h => h) (Or.inl ⟨by kernel_rfl, ?_⟩) (by assumption) ?_
      rotate_left
      · intro w hSw; (try dsimp only at hSw); go_simp; try (with_reducible rfl)
      try simp only [Act.put, List.setIfInBounds_toArray, List.set_cons_zero, List.set_cons_succ]
      refine wpAnyH_take (i := 9) (oi := { dst := some 43, op := _, type := _, pos := _, after := _, guard := _ }) (v := ?_) rfl (by kernel_rfl) (by kernel_rfl) (by kernel_rfl) (fun _ _ _ h => h) (Or.inl ⟨by kernel_rfl, ?_⟩) (by assumption) ?_
      rotate_left
      · intro w hSw; (try dsimp only at hSw); go_simp; try (with_reducible rfl)
      try simp only [Act.put, List.setIfInBounds_toArray, List.set_cons_zero, List.set_cons_succ]
      refine wpAnyH_ready (rs := [8]) (by kernel_rfl) (by simp) ?_
      refine AllReadyH.cons rfl (fun K hK => ?_) AllReadyH.nil
      go_simp
      (go_at_call 9; refine (unhide HTO _).mono ?_; rintro e w7 ⟨rfl, hb7⟩; replace hcur2 := hcur2.trans (hb7.mono hcur2.size); obtain ⟨f0, f1, f2, f3, f4, f5⟩ := unhide CELLS _ hcur2; clear hb7)
      refine hK.out _ _ ?_ (fun hHeld => ?_)
      · go_keep
      clear hK K
      try simp only [Act.put, List.setIfInBounds_toArray, List.set_cons_zero, List.set_cons_succ]
      refine wpAnyH_take (i := 10) (oi := { dst := some 44, op := _, type := _, pos := _, after := _, guard := _ }) (v := ?_) rfl (by kernel_rfl) (by kernel_rfl) (by kernel_rfl) (fun _ _ _ h => h) (Or.inl ⟨by kernel_rfl, ?_⟩) (by assumption) ?_
      rotate_left
      · intro w hSw; (try dsimp only at hSw); go_simp; try (with_reducible rfl)
      try simp only [Act.put, List.setIfInBounds_toArray, List.set_cons_zero, List.set_cons_succ]
      refine wpAnyH_take (i := 11) (oi := { dst := some 45, op := _, type := _, pos := _, after := _, guard := _ }) (v := ?_) rfl (by kernel_rfl) (by kernel_rfl) (by kernel_rfl) (fun _ _ _ h => h) (Or.inl ⟨by kernel_rfl, ?_⟩) (by assumption) ?_
      rotate_left
      · intro w hSw; (try dsimp only at hSw); go_simp; try (with_reducible rfl)
      try simp only [Act.put, List.setIfInBounds_toArray, List.set_cons_zero, List.set_cons_succ]
      refine wpAnyH_take (i := 12) (oi := { dst := some 46, op := _, type := _, pos := _, after := _, guard := _ }) (v := ?_) rfl (by kernel_rfl) (by kernel_rfl) (by kernel_rfl) (fun _ _ _ h => h) (Or.inl ⟨by kernel_rfl, ?_⟩) (by assumption) ?_
      rotate_left
      · intro w hSw; (try dsimp only at hSw); go_simp; try (with_reducible rfl)
      try simp only [Act.put, List.setIfInBounds_toArray, List.set_cons_zero, List.set_cons_succ]
      refine wpAnyH_take (i := 13) (oi := { dst := some 47, op := _, type := _, pos := _, after := _, guard := _ }) (v := ?_) rfl (by kernel_rfl) (by kernel_rfl) (by kernel_rfl) (fun _ _ _ h => h) (Or.inl ⟨by kernel_rfl, ?_⟩) (by assumption) ?_
      rotate_left
      · intro w hSw; (try dsimp only at hSw); go_simp; try (with_reducible rfl)
      try simp only [Act.put, List.setIfInBounds_toArray, List.set_cons_zero, List.set_cons_succ]
      refine wpAnyH_take (i := 14) (oi := { dst := some 48, op := _, type := _, pos := _, after := _, guard := _ }) (v := ?_) rfl (by kernel_rfl) (by kernel_rfl) (by kernel_rfl) (fun _ _ _ h => h) (Or.inl ⟨by kernel_rfl, ?_⟩) (by assumption) ?_
      rotate_left
      · intro w hSw; (try dsimp only at hSw); go_simp; try (with_reducible rfl)
      try simp only [Act.put, List.setIfInBounds_toArray, List.set_cons_zero, List.set_cons_succ]
      refine wpAnyH_take (i := 15) (oi := { dst := some 49, op := _, type := _, pos := _, after := _, guard := _ }) (v := ?_) rfl (by kernel_rfl) (by kernel_rfl) (by kernel_rfl) (fun _ _ _ h => h) (Or.inl ⟨by kernel_rfl, ?_⟩) (by assumption) ?_
      rotate_left
      · intro w hSw; (try dsimp only at hSw); go_simp; try (with_reducible rfl)
      try simp only [Act.put, List.setIfInBounds_toArray, List.set_cons_zero, List.set_cons_succ]
      refine wpAnyH_take (i := 16) (oi := { dst := some 50, op := _, type := _, pos := _, after := _, guard := _ }) (v := undef) rfl (by kernel_rfl) (by kernel_rfl) (by kernel_rfl) (fun _ _ _ h => h) (Or.inr ⟨by kernel_rfl, rfl⟩) (by assumption) ?_
      try simp only [Act.put, List.setIfInBounds_toArray, List.set_cons_zero, List.set_cons_succ]
      refine wpAnyH_take (i := 17) (oi := { dst := some 51, op := _, type := _, pos := _, after := _, guard := _ }) (v := undef) rfl (by kernel_rfl) (by kernel_rfl) (by kernel_rfl) (fun _ _ _ h => h) (Or.inr ⟨by kernel_rfl, rfl⟩) (by assumption) ?_
      try simp only [Act.put, List.setIfInBounds_toArray, List.set_cons_zero, List.set_cons_succ]
      refine wpAnyH_take (i := 18) (oi := { dst := some 52, op := _, type := _, pos := _, after := _, guard := _ }) (v := undef) rfl (by kernel_rfl) (by kernel_rfl) (by kernel_rfl) (fun _ _ _ h => h) (Or.inr ⟨by kernel_rfl, rfl⟩) (by assumption) ?_
      try simp only [Act.put, List.setIfInBounds_toArray, List.set_cons_zero, List.set_cons_succ]
      refine wpAnyH_take (i := 19) (oi := { dst := some 53, op := _, type := _, pos := _, after := _, guard := _ }) (v := undef) rfl (by kernel_rfl) (by kernel_rfl) (by kernel_rfl) (fun _ _ _ h => h) (Or.inr ⟨by kernel_rfl, rfl⟩) (by assumption) ?_
      try simp only [Act.put, List.setIfInBounds_toArray, List.set_cons_zero, List.set_cons_succ]
      refine wpAnyH_take (i := 20) (oi := { dst := some 54, op := _, type := _, pos := _, after := _, guard := _ }) (v := ?_) rfl (by kernel_rfl) (by kernel_rfl) (by kernel_rfl) (fun _ _ _ h => h) (Or.inl ⟨by kernel_rfl, ?_⟩) (by assumption) ?_
      rotate_left
      · intro w hSw; (try dsimp only at hSw); go_simp; try (with_reducible rfl)
      try simp only [Act.put, List.setIfInBounds_toArray, List.set_cons_zero, List.set_cons_succ]
      refine wpAnyH_take (i := 21) (oi := { dst := some 55, op := _, type := _, pos := _, after := _, guard := _ }) (v := ?_) rfl (by kernel_rfl) (by kernel_rfl) (by kernel_rfl) (fun _ _ _ h => h) (Or.inl ⟨by kernel_rfl, ?_⟩) (by assumption) ?_
      rotate_left
      · intro w hSw; (try dsimp only at hSw); go_simp; try (with_reducible rfl)
      try simp only [Act.put, List.setIfInBounds_toArray, List.set_cons_zero, List.set_cons_succ]
      refine wpAnyH_take (i := 22) (oi := { dst := some 4, op := _, type := _, pos := _, after := _, guard := _ }) (v := ?_) rfl (by kernel_rfl) (by kernel_rfl) (by kernel_rfl) (fun _ _ _ h => h) (Or.inl ⟨by kernel_rfl, ?_⟩) (by assumption) ?_
      rotate_left
      · intro w hSw; (try dsimp only at hSw); go_simp; try (with_reducible rfl)
      try simp only [Act.put, List.setIfInBounds_toArray, List.set_cons_zero, List.set_cons_succ]
      refine wpAnyH_done (by kernel_rfl) ?_ _
      go_wp2_with fail
      go_ret
      exact ⟨rfl, (unhide HBA).trans (hcur2.mono (unhide HBA).size)⟩
  | true =>
    by_cases h64 : t.length = 64
    · have hd4 : (S t).extract 4 (S t).size = S (t.drop 4) := S_drop t 4
      rw [hsz, h64] at hd4
      rw [h64] at hsz
      have hdl : (t.drop 4).length = 60 := by rw [List.length_drop]; omega
      have HSU := hide (fun wy => refSum_any (t.drop 4) wy (by omega))
      have HFO := hide (fun wy => refFour_any (t.drop 4) wy)
      have hap : S (Codec.sumOf (t.drop 4)) ++ S (t.drop 4) = S (Codec.sumOf (t.drop 4) ++ t.drop 4) := S_append _ _
      have hlT : (Codec.sumOf (t.drop 4) ++ t.drop 4).length ≤ 1000 := by rw [List.length_append]; show 4 + _ ≤ _; omega
      have hs1 : (S (Codec.sumOf (t.drop 4))).size = 4 := rfl
      have hs2 : (S (t.drop 4)).size = 60 := hdl
      generalize Codec.sumOf (t.drop 4) ++ t.drop 4 = T at *
      generalize Codec.sumOf (t.drop 4) = sm at *
      generalize Crc.crc (t.drop 4) = qn at *
      generalize t.drop 4 = q at *
      go_wp2_with fail
      have hcur : Below w.heap.size w w.drew := (Below.refl _ _).drew
      go_region_held3 (fun _ => True) (go_keep)
        (first
          | (go_at_call 14; refine (unhide HSU _).mono ?_; rintro e w5 ⟨rfl, rfl⟩)
          | (go_at_call 13; refine (unhide HFO _).mono ?_; rintro e w5 ⟨rfl, hb5⟩; replace hcur := hcur.trans (hb5.mono hcur.size); clear hb5)
          | fail)
      clear HB
      have HB := hide hcur
      clear hcur HSU HFO
      go_wp2_with fail
      have hmk := parse_mark T
      have hpo := parse_ok T
      refine (unhide HPS T _ hlT).mono ?_
      rintro e w2 ⟨rfl, hb2⟩
      have HB2 := hide ((unhide HB).trans (hb2.mono (unhide HB).size))
      have HRX := hide (fun wy => unhide HRP T wy hlT)
      clear hb2
      generalize Codec.parse T = P at *
      obtain ⟨⟨n, mk, t3⟩, pe⟩ := P
      unfold SV
      unfold RV at HRX
      dsimp only at *
      have HTO := hide (fun wy => told_any (n : Int) mk t3 wy (by omega))
      go_wp2_with fail
      refine (unhide HRX _).mono ?_
      rintro e w3 ⟨rfl, hb3⟩
      have hq2 : w3.heap[w2.heap.size]? = some (.cells #[.int .i64 (n : Int), .int .u8 (mk : Int), .string (S t3)] 23 (0, 0)) := (hb3.block w2.heap.size (by simp)).trans (heap_alloc_new w2 _)
      have hlt2 := blt hq2
      have hbA := (((unhide HB2).alloc (unhide HB2).size (.cells #[.int .i64 (n : Int), .int .u8 (mk : Int), .string (S t3)] 23)).trans (hb3.mono (by have := (unhide HB2).size; simp; omega)))
      obtain ⟨W2, hW2⟩ : ∃ W2, w3.alloc (.cells #[.int .i64 (n : Int), .int .i64 (mk : Int), .string (S t3)] 30) = W2 := ⟨_, rfl⟩
      have hs2 : W2.heap.size = w3.heap.size + 1 := by rw [← hW2]; simp
      have hq3 : W2.heap[w3.heap.size]? = some (.cells #[.int .i64 (n : Int), .int .i64 (mk : Int), .string (S t3)] 30 (0, 0)) := by rw [← hW2]; exact heap_alloc_new w3 _
      have hcA : Below w3.heap.size w3 W2 := by rw [← hW2]; exact (Below.refl _ _).alloc (Nat.le_refl _) _
      have HBA := hide (hbA.trans (hcA.mono hbA.size))
      have CELLS := hide (fun w' (hx : Below W2.heap.size W2 w') => (show w'.cell? ⟨w2.heap.size, 0, none⟩ = some (.int .i64 (n : Int)) ∧ w'.cell? ⟨w2.heap.size, 1, none⟩ = some (.int .u8 (mk : Int)) ∧ w'.cell? ⟨w2.heap.size, 2, none⟩ = some (.string (S t3)) ∧ w'.cell? ⟨w3.heap.size, 0, none⟩ = some (.int .i64 (n : Int)) ∧ w'.cell? ⟨w3.heap.size, 1, none⟩ = some (.int .i64 (mk : Int)) ∧ w'.cell? ⟨w3.heap.size, 2, none⟩ = some (.string (S t3)) from
        ⟨((hx.cell (p := ⟨w2.heap.size, 0, none⟩) (by show w2.heap.size < _; omega)).trans (hcA.cell (p := ⟨w2.heap.size, 0, none⟩) hlt2)).trans (bcell hq2 0),
         ((hx.cell (p := ⟨w2.heap.size, 1, none⟩) (by show w2.heap.size < _; omega)).trans (hcA.cell (p := ⟨w2.heap.size, 1, none⟩) hlt2)).trans (bcell hq2 1),
         ((hx.cell (p := ⟨w2.heap.size, 2, none⟩) (by show w2.heap.size < _; omega)).trans (hcA.cell (p := ⟨w2.heap.size, 2, none⟩) hlt2)).trans (bcell hq2 2),
         (hx.cell (p := ⟨w3.heap.size, 0, none⟩) (by show w3.heap.size < _; omega)).trans (bcell hq3 0),
         (hx.cell (p := ⟨w3.heap.size, 1, none⟩) (by show w3.heap.size < _; omega)).trans (bcell hq3 1),
         (hx.cell (p := ⟨w3.heap.size, 2, none⟩) (by show w3.heap.size < _; omega)).trans (bcell hq3 2)⟩))
      have HW2 := hide hW2
      clear hcA hq2 hq3 hs2 hW2 hbA hb3 hlt2 HB2 HB HRX HPS HRP
      go_wp2_with fail
      rw [unhide HW2]
      have hcur2 : Below W2.heap.size W2 W2.drew := (Below.refl _ _).drew
      obtain ⟨f0, f1, f2, f3, f4, f5⟩ := unhide CELLS _ hcur2
      by_cases hpe : pe = 0
      · subst hpe
        obtain ⟨hok, h44, htx⟩ := hpo rfl
        have HT := hide (fun wy => stext_any ⟨n, mk, t3⟩ wy hok h44)
        rw [htx] at HT
        unfold SV at HT
        dsimp only at HT
        clear hok h44 htx hpo
        go_region_held3 (fun w' => w'.cell? ⟨w2.heap.size, 0, none⟩ = some (.int .i64 (n : Int)) ∧ w'.cell? ⟨w2.heap.size, 1, none⟩ = some (.int .u8 (mk : Int)) ∧ w'.cell? ⟨w2.heap.size, 2, none⟩ = some (.string (S t3)) ∧ w'.cell? ⟨w3.heap.size, 0, none⟩ = some (.int .i64 (n : Int)) ∧ w'.cell? ⟨w3.heap.size, 1, none⟩ = some (.int .i64 (mk : Int)) ∧ w'.cell? ⟨w3.heap.size, 2, none⟩ = some (.string (S t3))) (go_keep)
          (first
            | (go_at_call 6; refine (unhide HAW _).mono ?_; rintro e w7 ⟨rfl, hb7⟩; replace hcur2 := hcur2.trans (hb7.mono hcur2.size); obtain ⟨f0, f1, f2, f3, f4, f5⟩ := unhide CELLS _ hcur2; clear hb7)
            | (go_at_call 9; refine (unhide HTO _).mono ?_; rintro e w7 ⟨rfl, hb7⟩; replace hcur2 := hcur2.trans (hb7.mono hcur2.size); obtain ⟨f0, f1, f2, f3, f4, f5⟩ := unhide CELLS _ hcur2; clear hb7)
            | (go_at_call 11; refine (unhide HT _).mono ?_; rintro e w7 ⟨rfl, hb7⟩; replace hcur2 := hcur2.trans (hb7.mono hcur2.size); obtain ⟨f0, f1, f2, f3, f4, f5⟩ := unhide CELLS _ hcur2; clear hb7)
            | fail)
        go_wp2_with fail
        go_ret
        exact ⟨rfl, (unhide HBA).trans (hcur2.mono (unhide HBA).size)⟩
      · have hpe0 : ∀ t : TypeId, binOp .neq t (.int .i64 pe) (.int .i64 0) = pure (.bool true) := fun t => by rw [binOp_neq, bne_iff_ne.2 hpe]
        refine wp_region_held_drew (S := (fun w' => w'.cell? ⟨w2.heap.size, 0, none⟩ = some (.int .i64 (n : Int)) ∧ w'.cell? ⟨w2.heap.size, 1, none⟩ = some (.int .u8 (mk : Int)) ∧ w'.cell? ⟨w2.heap.size, 2, none⟩ = some (.string (S t3)) ∧ w'.cell? ⟨w3.heap.size, 0, none⟩ = some (.int .i64 (n : Int)) ∧ w'.cell? ⟨w3.heap.size, 1, none⟩ = some (.int .i64 (mk : Int)) ∧ w'.cell? ⟨w3.heap.size, 2, none⟩ = some (.string (S t3)))) (by kernel_rfl) ?_ (fun hHeld => ?_)
        · go_keep
        refine wpAnyH_ready (rs := [0]) (by kernel_rfl) (by simp) ?_
        refine AllReadyH.cons rfl (fun K hK => ?_) AllReadyH.nil
        go_simp
        (go_at_call 6; refine (unhide HAW _).mono ?_; rintro e w7 ⟨rfl, hb7⟩; replace hcur2 := hcur2.trans (hb7.mono hcur2.size); obtain ⟨f0, f1, f2, f3, f4, f5⟩ := unhide CELLS _ hcur2; clear hb7)
        refine hK.out _ _ ?_ (fun hHeld => ?_)
        · go_keep
        clear hK K
        try simp only [Act.put, List.setIfInBounds_toArray, List.set_cons_zero, List.set_cons_succ]
        refine wpAnyH_take (i := 1) (oi := { dst := some 35, op := _, type := _, pos := _, after := _, guard := _ }) (v := ?_) rfl (by kernel_rfl) (by kernel_rfl) (by kernel_rfl) (fun _ _ _ h => h) (Or.inl ⟨by kernel_rfl, ?_⟩) (by assumption) ?_
        rotate_left
        · intro w hSw; (try dsimp only at hSw); go_simp; try (with_reducible rfl)
        try simp only [Act.put, List.setIfInBounds_toArray, List.set_cons_zero, List.set_cons_succ]
        refine wpAnyH_take (i := 2) (oi := { dst := some 36, op := _, type := _, pos := _, after := _, guard := _ }) (v := ?_) rfl (by kernel_rfl) (by kernel_rfl) (by kernel_rfl) (fun _ _ _ h => h) (Or.inl ⟨by kernel_rfl, ?_⟩) (by assumption) ?_
        rotate_left
        · intro w hSw; (try dsimp only at hSw); go_simp; try (with_reducible rfl)
        try simp only [Act.put, List.setIfInBounds_toArray, List.set_cons_zero, List.set_cons_succ]
        refine wpAnyH_take (i := 3) (oi := { dst := some 37, op := _, type := _, pos := _, after := _, guard := _ }) (v := ?_) rfl (by kernel_rfl) (by kernel_rfl) (by kernel_rfl) (fun _ _ _ h => h) (Or.inl ⟨by kernel_rfl, ?_⟩) (by assumption) ?_
        rotate_left
        · intro w hSw; (try dsimp only at hSw); go_simp; try (with_reducible rfl)
        try simp only [Act.put, List.setIfInBounds_toArray, List.set_cons_zero, List.set_cons_succ]
        refine wpAnyH_take (i := 4) (oi := { dst := some 38, op := _, type := _, pos := _, after := _, guard := _ }) (v := ?_) rfl (by kernel_rfl) (by kernel_rfl) (by kernel_rfl) (fun _ _ _ h => h) (Or.inl ⟨by kernel_rfl, ?_⟩) (by assumption) ?_
        rotate_left
        · intro w hSw; (try dsimp only at hSw); go_simp; try (with_reducible rfl)
        try simp only [Act.put, List.setIfInBounds_toArray, List.set_cons_zero, List.set_cons_succ]
        refine wpAnyH_take (i := 5) (oi := { dst := some 39, op := _, type := _, pos := _, after := _, guard := _ }) (v := ?_) rfl (by kernel_rfl) (by kernel_rfl) (by kernel_rfl) (fun _ _ _ h => h) (Or.inl ⟨by kernel_rfl, ?_⟩) (by assumption) ?_
        rotate_left
        · intro w hSw; (try dsimp only at hSw); go_simp; try (with_reducible rfl)
        try simp only [Act.put, List.setIfInBounds_toArray, List.set_cons_zero, List.set_cons_succ]
        refine wpAnyH_take (i := 6) (oi := { dst := some 40, op := _, type := _, pos := _, after := _, guard := _ }) (v := ?_) rfl (by kernel_rfl) (by kernel_rfl) (by kernel_rfl) (fun _ _ _ h => h) (Or.inl ⟨by kernel_rfl, ?_⟩) (by assumption) ?_
        rotate_left
        · intro w hSw; (try dsimp only at hSw); go_simp; try (with_reducible rfl)
        try simp only [Act.put, List.setIfInBounds_toArray, List.set_cons_zero, List.set_cons_succ]
        refine wpAnyH_take (i := 7) (oi := { dst := some 41, op := _, type := _, pos := _, after := _, guard := _ }) (v := ?_) rfl (by kernel_rfl) (by kernel_rfl) (by kernel_rfl) (fun _ _ _ h => h) (Or.inl ⟨by kernel_rfl, ?_⟩) (by assumption) ?_
        rotate_left
        · intro w hSw; (try dsimp only at hSw); go_simp; try (with_reducible rfl)
        try simp only [Act.put, List.setIfInBounds_toArray, List.set_cons_zero, List.set_cons_succ]
        refine wpAnyH_take (i := 9) (oi := { dst := some 43, op := _, type := _, pos := _, after := _, guard := _ }) (v := ?_) rfl (by kernel_rfl) (by kernel_rfl) (by kernel_rfl) (fun _ _ _ h => h) (Or.inl ⟨by kernel_rfl, ?_⟩) (by assumption) ?_
        rotate_left
        · intro w hSw; (try dsimp only at hSw); go_simp; try (with_reducible rfl)
        try simp only [Act.put, List.setIfInBounds_toArray, List.set_cons_zero, List.set_cons_succ]
        refine wpAnyH_ready (rs := [8]) (by kernel_rfl) (by simp) ?_
        refine AllReadyH.cons rfl (fun K hK => ?_) AllReadyH.nil
        go_simp
        (go_at_call 9; refine (unhide HTO _).mono ?_; rintro e w7 ⟨rfl, hb7⟩; replace hcur2 := hcur2.trans (hb7.mono hcur2.size); obtain ⟨f0, f1, f2, f3, f4, f5⟩ := unhide CELLS _ hcur2; clear hb7)
        refine hK.out _ _ ?_ (fun hHeld => ?_)
        · go_keep
        clear hK K
        try simp only [Act.put, List.setIfInBounds_toArray, List.set_cons_zero, List.set_cons_succ]
        refine wpAnyH_take (i := 10) (oi := { dst := some 44, op := _, type := _, pos := _, after := _, guard := _ }) (v := ?_) rfl (by kernel_rfl) (by kernel_rfl) (by kernel_rfl) (fun _ _ _ h => h) (Or.inl ⟨by kernel_rfl, ?_⟩) (by assumption) ?_
        rotate_left
        · intro w hSw; (try dsimp only at hSw); go_simp; try (with_reducible rfl)
        try simp only [Act.put, List.setIfInBounds_toArray, List.set_cons_zero, List.set_cons_succ]
        refine wpAnyH_take (i := 11) (oi := { dst := some 45, op := _, type := _, pos := _, after := _, guard := _ }) (v := ?_) rfl (by kernel_rfl) (by kernel_rfl) (by kernel_rfl) (fun _ _ _ h => h) (Or.inl ⟨by kernel_rfl, ?_⟩) (by assumption) ?_
        rotate_left
        · intro w hSw; (try dsimp only at hSw); go_simp; try (with_reducible rfl)
        try simp only [Act.put, List.setIfInBounds_toArray, List.set_cons_zero, List.set_cons_succ]
        refine wpAnyH_take (i := 12) (oi := { dst := some 46, op := _, type := _, pos := _, after := _, guard := _ }) (v := ?_) rfl (by kernel_rfl) (by kernel_rfl) (by kernel_rfl) (fun _ _ _ h => h) (Or.inl ⟨by kernel_rfl, ?_⟩) (by assumption) ?_
        rotate_left
        · intro w hSw; (try dsimp only at hSw); go_simp; try (with_reducible rfl)
        try simp only [Act.put, List.setIfInBounds_toArray, List.set_cons_zero, List.set_cons_succ]
        refine wpAnyH_take (i := 13) (oi := { dst := some 47, op := _, type := _, pos := _, after := _, guard := _ }) (v := ?_) rfl (by kernel_rfl) (by kernel_rfl) (by kernel_rfl) (fun _ _ _ h => h) (Or.inl ⟨by kernel_rfl, ?_⟩) (by assumption) ?_
        rotate_left
        · intro w hSw; (try dsimp only at hSw); go_simp; try (with_reducible rfl)
        try simp only [Act.put, List.setIfInBounds_toArray, List.set_cons_zero, List.set_cons_succ]
        refine wpAnyH_take (i := 14) (oi := { dst := some 48, op := _, type := _, pos := _, after := _, guard := _ }) (v := ?_) rfl (by kernel_rfl) (by kernel_rfl) (by kernel_rfl) (fun _ _ _ h => h) (Or.inl ⟨by kernel_rfl, ?_⟩) (by assumption) ?_
        rotate_left
        · intro w hSw; (try dsimp only at hSw); go_simp; try (with_reducible rfl)
        try simp only [Act.put, List.setIfInBounds_toArray, List.set_cons_zero, List.set_cons_succ]
        refine wpAnyH_take (i := 15) (oi := { dst := some 49, op := _, type := _, pos := _, after := _, guard := _ }) (v := ?_) rfl (by kernel_rfl) (by kernel_rfl) (by kernel_rfl) (fun _ _ _ h => h) (Or.inl ⟨by kernel_rfl, ?_⟩) (by assumption) ?_
        rotate_left
        · intro w hSw; (try dsimp only at hSw); go_simp; try (with_reducible rfl)
        try simp only [Act.put, List.setIfInBounds_toArray, List.set_cons_zero, List.set_cons_succ]
        refine wpAnyH_take (i := 16) (oi := { dst := some 50, op := _, type := _, pos := _, after := _, guard := _ }) (v := undef) rfl (by kernel_rfl) (by kernel_rfl) (by kernel_rfl) (fun _ _ _ h => h) (Or.inr ⟨by kernel_rfl, rfl⟩) (by assumption) ?_
        try simp only [Act.put, List.setIfInBounds_toArray, List.set_cons_zero, List.set_cons_succ]
        refine wpAnyH_take (i := 17) (oi := { dst := some 51, op := _, type := _, pos := _, after := _, guard := _ }) (v := undef) rfl (by kernel_rfl) (by kernel_rfl) (by kernel_rfl) (fun _ _ _ h => h) (Or.inr ⟨by kernel_rfl, rfl⟩) (by assumption) ?_
        try simp only [Act.put, List.setIfInBounds_toArray, List.set_cons_zero, List.set_cons_succ]
        refine wpAnyH_take (i := 18) (oi := { dst := some 52, op := _, type := _, pos := _, after := _, guard := _ }) (v := undef) rfl (by kernel_rfl) (by kernel_rfl) (by kernel_rfl) (fun _ _ _ h => h) (Or.inr ⟨by kernel_rfl, rfl⟩) (by assumption) ?_
        try simp only [Act.put, List.setIfInBounds_toArray, List.set_cons_zero, List.set_cons_succ]
        refine wpAnyH_take (i := 19) (oi := { dst := some 53, op := _, type := _, pos := _, after := _, guard := _ }) (v := undef) rfl (by kernel_rfl) (by kernel_rfl) (by kernel_rfl) (fun _ _ _ h => h) (Or.inr ⟨by kernel_rfl, rfl⟩) (by assumption) ?_
        try simp only [Act.put, List.setIfInBounds_toArray, List.set_cons_zero, List.set_cons_succ]
        refine wpAnyH_take (i := 20) (oi := { dst := some 54, op := _, type := _, pos := _, after := _, guard := _ }) (v := ?_) rfl (by kernel_rfl) (by kernel_rfl) (by kernel_rfl) (fun _ _ _ h => h) (Or.inl ⟨by kernel_rfl, ?_⟩) (by assumption) ?_
        rotate_left
        · intro w hSw; (try dsimp only at hSw); go_simp; try (with_reducible rfl)
        try simp only [Act.put, List.setIfInBounds_toArray, List.set_cons_zero, List.set_cons_succ]
        refine wpAnyH_take (i := 21) (oi := { dst := some 55, op := _, type := _, pos := _, after := _, guard := _ }) (v := ?_) rfl (by kernel_rfl) (by kernel_rfl) (by kernel_rfl) (fun _ _ _ h => h) (Or.inl ⟨by kernel_rfl, ?_⟩) (by assumption) ?_
        rotate_left
        · intro w hSw; (try dsimp only at hSw); go_simp; try (with_reducible rfl)
        try simp only [Act.put, List.setIfInBounds_toArray, List.set_cons_zero, List.set_cons_succ]
        refine wpAnyH_take (i := 22) (oi := { dst := some 4, op := _, type := _, pos := _, after := _, guard := _ }) (v := ?_) rfl (by kernel_rfl) (by kernel_rfl) (by kernel_rfl) (fun _ _ _ h => h) (Or.inl ⟨by kernel_rfl, ?_⟩) (by assumption) ?_
        rotate_left
        · intro w hSw; (try dsimp only at hSw); go_simp; try (with_reducible rfl)
        try simp only [Act.put, List.setIfInBounds_toArray, List.set_cons_zero, List.set_cons_succ]
        refine wpAnyH_done (by kernel_rfl) ?_ _
        go_wp2_with fail
        go_ret
        exact ⟨rfl, (unhide HBA).trans (hcur2.mono (unhide HBA).size)⟩
    · have hne : ((t.length : Int) == 64) = false := by simp; omega
      go_wp2_with fail
      have hmk := parse_mark t
      have hpo := parse_ok t
      refine (unhide HPS t _ hl1).mono ?_
      rintro e w2 ⟨rfl, hb2⟩
      have HB2 := hide ((unhide HB).trans (hb2.mono (unhide HB).size))
      have HRX := hide (fun wy => unhide HRP t wy hl1)
      clear hb2
      generalize Codec.parse t = P at *
      obtain ⟨⟨n, mk, t3⟩, pe⟩ := P
      unfold SV
      unfold RV at HRX
      dsimp only at *
      have HTO := hide (fun wy => told_any (n : Int) mk t3 wy (by omega))
      go_wp2_with fail
      refine (unhide HRX _).mono ?_
      rintro e w3 ⟨rfl, hb3⟩
      have hq2 : w3.heap[w2.heap.size]? = some (.cells #[.int .i64 (n : Int), .int .u8 (mk : Int), .string (S t3)] 23 (0, 0)) := (hb3.block w2.heap.size (by simp)).trans (heap_alloc_new w2 _)
      have hlt2 := blt hq2
      have hbA := (((unhide HB2).alloc (unhide HB2).size (.cells #[.int .i64 (n : Int), .int .u8 (mk : Int), .string (S t3)] 23)).trans (hb3.mono (by have := (unhide HB2).size; simp; omega)))
      obtain ⟨W2, hW2⟩ : ∃ W2, w3.alloc (.cells #[.int .i64 (n : Int), .int .i64 (mk : Int), .string (S t3)] 30) = W2 := ⟨_, rfl⟩
      have hs2 : W2.heap.size = w3.heap.size + 1 := by rw [← hW2]; simp
      have hq3 : W2.heap[w3.heap.size]? = some (.cells #[.int .i64 (n : Int), .int .i64 (mk : Int), .string (S t3)] 30 (0, 0)) := by rw [← hW2]; exact heap_alloc_new w3 _
      have hcA : Below w3.heap.size w3 W2 := by rw [← hW2]; exact (Below.refl _ _).alloc (Nat.le_refl _) _
      have HBA := hide (hbA.trans (hcA.mono hbA.size))
      have CELLS := hide (fun w' (hx : Below W2.heap.size W2 w') => (show w'.cell? ⟨w2.heap.size, 0, none⟩ = some (.int .i64 (n : Int)) ∧ w'.cell? ⟨w2.heap.size, 1, none⟩ = some (.int .u8 (mk : Int)) ∧ w'.cell? ⟨w2.heap.size, 2, none⟩ = some (.string (S t3)) ∧ w'.cell? ⟨w3.heap.size, 0, none⟩ = some (.int .i64 (n : Int)) ∧ w'.cell? ⟨w3.heap.size, 1, none⟩ = some (.int .i64 (mk : Int)) ∧ w'.cell? ⟨w3.heap.size, 2, none⟩ = some (.string (S t3)) from
        ⟨((hx.cell (p := ⟨w2.heap.size, 0, none⟩) (by show w2.heap.size < _; omega)).trans (hcA.cell (p := ⟨w2.heap.size, 0, none⟩) hlt2)).trans (bcell hq2 0),
         ((hx.cell (p := ⟨w2.heap.size, 1, none⟩) (by show w2.heap.size < _; omega)).trans (hcA.cell (p := ⟨w2.heap.size, 1, none⟩) hlt2)).trans (bcell hq2 1),
         ((hx.cell (p := ⟨w2.heap.size, 2, none⟩) (by show w2.heap.size < _; omega)).trans (hcA.cell (p := ⟨w2.heap.size, 2, none⟩) hlt2)).trans (bcell hq2 2),
         (hx.cell (p := ⟨w3.heap.size, 0, none⟩) (by show w3.heap.size < _; omega)).trans (bcell hq3 0),
         (hx.cell (p := ⟨w3.heap.size, 1, none⟩) (by show w3.heap.size < _; omega)).trans (bcell hq3 1),
         (hx.cell (p := ⟨w3.heap.size, 2, none⟩) (by show w3.heap.size < _; omega)).trans (bcell hq3 2)⟩))
      have HW2 := hide hW2
      clear hcA hq2 hq3 hs2 hW2 hbA hb3 hlt2 HB2 HB HRX HPS HRP
      go_wp2_with fail
      rw [unhide HW2]
      have hcur2 : Below W2.heap.size W2 W2.drew := (Below.refl _ _).drew
      obtain ⟨f0, f1, f2, f3, f4, f5⟩ := unhide CELLS _ hcur2
      by_cases hpe : pe = 0
      · subst hpe
        obtain ⟨hok, h44, htx⟩ := hpo rfl
        have HT := hide (fun wy => stext_any ⟨n, mk, t3⟩ wy hok h44)
        rw [htx] at HT
        unfold SV at HT
        dsimp only at HT
        clear hok h44 htx hpo
        go_region_held3 (fun w' => w'.cell? ⟨w2.heap.size, 0, none⟩ = some (.int .i64 (n : Int)) ∧ w'.cell? ⟨w2.heap.size, 1, none⟩ = some (.int .u8 (mk : Int)) ∧ w'.cell? ⟨w2.heap.size, 2, none⟩ = some (.string (S t3)) ∧ w'.cell? ⟨w3.heap.size, 0, none⟩ = some (.int .i64 (n : Int)) ∧ w'.cell? ⟨w3.heap.size, 1, none⟩ = some (.int .i64 (mk : Int)) ∧ w'.cell? ⟨w3.heap.size, 2, none⟩ = some (.string (S t3))) (go_keep)
          (first
            | (go_at_call 6; refine (unhide HAW _).mono ?_; rintro e w7 ⟨rfl, hb7⟩; replace hcur2 := hcur2.trans (hb7.mono hcur2.size); obtain ⟨f0, f1, f2, f3, f4, f5⟩ := unhide CELLS _ hcur2; clear hb7)
            | (go_at_call 9; refine (unhide HTO _).mono ?_; rintro e w7 ⟨rfl, hb7⟩; replace hcur2 := hcur2.trans (hb7.mono hcur2.size); obtain ⟨f0, f1, f2, f3, f4, f5⟩ := unhide CELLS _ hcur2; clear hb7)
            | (go_at_call 11; refine (unhide HT _).mono ?_; rintro e w7 ⟨rfl, hb7⟩; replace hcur2 := hcur2.trans (hb7.mono hcur2.size); obtain ⟨f0, f1, f2, f3, f4, f5⟩ := unhide CELLS _ hcur2; clear hb7)
            | fail)
        go_wp2_with fail
        go_ret
        exact ⟨rfl, (unhide HBA).trans (hcur2.mono (unhide HBA).size)⟩
      · have hpe0 : ∀ t : TypeId, binOp .neq t (.int .i64 pe) (.int .i64 0) = pure (.bool true) := fun t => by rw [binOp_neq, bne_iff_ne.2 hpe]
        refine wp_region_held_drew (S := (fun w' => w'.cell? ⟨w2.heap.size, 0, none⟩ = some (.int .i64 (n : Int)) ∧ w'.cell? ⟨w2.heap.size, 1, none⟩ = some (.int .u8 (mk : Int)) ∧ w'.cell? ⟨w2.heap.size, 2, none⟩ = some (.string (S t3)) ∧ w'.cell? ⟨w3.heap.size, 0, none⟩ = some (.int .i64 (n : Int)) ∧ w'.cell? ⟨w3.heap.size, 1, none⟩ = some (.int .i64 (mk : Int)) ∧ w'.cell? ⟨w3.heap.size, 2, none⟩ = some (.string (S t3)))) (by kernel_rfl) ?_ (fun hHeld => ?_)
        · go_keep
        refine wpAnyH_ready (rs := [0]) (by kernel_rfl) (by simp) ?_
        refine AllReadyH.cons rfl (fun K hK => ?_) AllReadyH.nil
        go_simp
        (go_at_call 6; refine (unhide HAW _).mono ?_; rintro e w7 ⟨rfl, hb7⟩; replace hcur2 := hcur2.trans (hb7.mono hcur2.size); obtain ⟨f0, f1, f2, f3, f4, f5⟩ := unhide CELLS _ hcur2; clear hb7)
        refine hK.out _ _ ?_ (fun hHeld => ?_)
        · go_keep
        clear hK K
        try simp only [Act.put, List.setIfInBounds_toArray, List.set_cons_zero, List.set_cons_succ]
        refine wpAnyH_take (i := 1) (oi := { dst := some 35, op := _, type := _, pos := _, after := _, guard := _ }) (v := ?_) rfl (by kernel_rfl) (by kernel_rfl) (by kernel_rfl) (fun _ _ _ h => h) (Or.inl ⟨by kernel_rfl, ?_⟩) (by assumption) ?_
        rotate_left
        · intro w hSw; (try dsimp only at hSw); go_simp; try (with_reducible rfl)
        try simp only [Act.put, List.setIfInBounds_toArray, List.set_cons_zero, List.set_cons_succ]
        refine wpAnyH_take (i := 2) (oi := { dst := some 36, op := _, type := _, pos := _, after := _, guard := _ }) (v := ?_) rfl (by kernel_rfl) (by kernel_rfl) (by kernel_rfl) (fun _ _ _ h => h) (Or.inl ⟨by kernel_rfl, ?_⟩) (by assumption) ?_
        rotate_left
        · intro w hSw; (try dsimp only at hSw); go_simp; try (with_reducible rfl)
        try simp only [Act.put, List.setIfInBounds_toArray, List.set_cons_zero, List.set_cons_succ]
        refine wpAnyH_take (i := 3) (oi := { dst := some 37, op := _, type := _, pos := _, after := _, guard := _ }) (v := ?_) rfl (by kernel_rfl) (by kernel_rfl) (by kernel_rfl) (fun _ _ _ h => h) (Or.inl ⟨by kernel_rfl, ?_⟩) (by assumption) ?_
        rotate_left
        · intro w hSw; (try dsimp only at hSw); go_simp; try (with_reducible rfl)
        try simp only [Act.put, List.setIfInBounds_toArray, List.set_cons_zero, List.set_cons_succ]
        refine wpAnyH_take (i := 4) (oi := { dst := some 38, op := _, type := _, pos := _, after := _, guard := _ }) (v := ?_) rfl (by kernel_rfl) (by kernel_rfl) (by kernel_rfl) (fun _ _ _ h => h) (Or.inl ⟨by kernel_rfl, ?_⟩) (by assumption) ?_
        rotate_left
        · intro w hSw; (try dsimp only at hSw); go_simp; try (with_reducible rfl)
        try simp only [Act.put, List.setIfInBounds_toArray, List.set_cons_zero, List.set_cons_succ]
        refine wpAnyH_take (i := 5) (oi := { dst := some 39, op := _, type := _, pos := _, after := _, guard := _ }) (v := ?_) rfl (by kernel_rfl) (by kernel_rfl) (by kernel_rfl) (fun _ _ _ h => h) (Or.inl ⟨by kernel_rfl, ?_⟩) (by assumption) ?_
        rotate_left
        · intro w hSw; (try dsimp only at hSw); go_simp; try (with_reducible rfl)
        try simp only [Act.put, List.setIfInBounds_toArray, List.set_cons_zero, List.set_cons_succ]
        refine wpAnyH_take (i := 6) (oi := { dst := some 40, op := _, type := _, pos := _, after := _, guard := _ }) (v := ?_) rfl (by kernel_rfl) (by kernel_rfl) (by kernel_rfl) (fun _ _ _ h => h) (Or.inl ⟨by kernel_rfl, ?_⟩) (by assumption) ?_
        rotate_left
        · intro w hSw; (try dsimp only at hSw); go_simp; try (with_reducible rfl)
        try simp only [Act.put, List.setIfInBounds_toArray, List.set_cons_zero, List.set_cons_succ]
        refine wpAnyH_take (i := 7) (oi := { dst := some 41, op := _, type := _, pos := _, after := _, guard := _ }) (v := ?_) rfl (by kernel_rfl) (by kernel_rfl) (by kernel_rfl) (fun _ _ _ h => h) (Or.inl ⟨by kernel_rfl, ?_⟩) (by assumption) ?_
        rotate_left
        · intro w hSw; (try dsimp only at hSw); go_simp; try (with_reducible rfl)
        try simp only [Act.put, List.setIfInBounds_toArray, List.set_cons_zero, List.set_cons_succ]
        refine wpAnyH_take (i := 9) (oi := { dst := some 43, op := _, type := _, pos := _, after := _, guard := _ }) (v := ?_) rfl (by kernel_rfl) (by kernel_rfl) (by kernel_rfl) (fun _ _ _ h => h) (Or.inl ⟨by kernel_rfl, ?_⟩) (by assumption) ?_
        rotate_left
        · intro w hSw; (try dsimp only at hSw); go_simp; try (with_reducible rfl)
        try simp only [Act.put, List.setIfInBounds_toArray, List.set_cons_zero, List.set_cons_succ]
        refine wpAnyH_ready (rs := [8]) (by kernel_rfl) (by simp) ?_
        refine AllReadyH.cons rfl (fun K hK => ?_) AllReadyH.nil
        go_simp
        (go_at_call 9; refine (unhide HTO _).mono ?_; rintro e w7 ⟨rfl, hb7⟩; replace hcur2 := hcur2.trans (hb7.mono hcur2.size); obtain ⟨f0, f1, f2, f3, f4, f5⟩ := unhide CELLS _ hcur2; clear hb7)
        refine hK.out _ _ ?_ (fun hHeld => ?_)
        · go_keep
        clear hK K
        try simp only [Act.put, List.setIfInBounds_toArray, List.set_cons_zero, List.set_cons_succ]
        refine wpAnyH_take (i := 10) (oi := { dst := some 44, op := _, type := _, pos := _, after := _, guard := _ }) (v := ?_) rfl (by kernel_rfl) (by kernel_rfl) (by kernel_rfl) (fun _ _ _ h => h) (Or.inl ⟨by kernel_rfl, ?_⟩) (by assumption) ?_
        rotate_left
        · intro w hSw; (try dsimp only at hSw); go_simp; try (with_reducible rfl)
        try simp only [Act.put, List.setIfInBounds_toArray, List.set_cons_zero, List.set_cons_succ]
        refine wpAnyH_take (i := 11) (oi := { dst := some 45, op := _, type := _, pos := _, after := _, guard := _ }) (v := ?_) rfl (by kernel_rfl) (by kernel_rfl) (by kernel_rfl) (fun _ _ _ h => h) (Or.inl ⟨by kernel_rfl, ?_⟩) (by assumption) ?_
        rotate_left
        · intro w hSw; (try dsimp only at hSw); go_simp; try (with_reducible rfl)
        try simp only [Act.put, List.setIfInBounds_toArray, List.set_cons_zero, List.set_cons_succ]
        refine wpAnyH_take (i := 12) (oi := { dst := some 46, op := _, type := _, pos := _, after := _, guard := _ }) (v := ?_) rfl (by kernel_rfl) (by kernel_rfl) (by kernel_rfl) (fun _ _ _ h => h) (Or.inl ⟨by kernel_rfl, ?_⟩) (by assumption) ?_
        rotate_left
        · intro w hSw; (try dsimp only at hSw); go_simp; try (with_reducible rfl)
        try simp only [Act.put, List.setIfInBounds_toArray, List.set_cons_zero, List.set_cons_succ]
        refine wpAnyH_take (i := 13) (oi := { dst := some 47, op := _, type := _, pos := _, after := _, guard := _ }) (v := ?_) rfl (by kernel_rfl) (by kernel_rfl) (by kernel_rfl) (fun _ _ _ h => h) (Or.inl ⟨by kernel_rfl, ?_⟩) (by assumption) ?_
        rotate_left
        · intro w hSw; (try dsimp only at hSw); go_simp; try (with_reducible rfl)
        try simp only [Act.put, List.setIfInBounds_toArray, List.set_cons_zero, List.set_cons_succ]
        refine wpAnyH_take (i := 14) (oi := { dst := some 48, op := _, type := _, pos := _, after := _, guard := _ }) (v := ?_) rfl (by kernel_rfl) (by kernel_rfl) (by kernel_rfl) (fun _ _ _ h => h) (Or.inl ⟨by kernel_rfl, ?_⟩) (by assumption) ?_
        rotate_left
        · intro w hSw; (try dsimp only at hSw); go_simp; try (with_reducible rfl)
        try simp only [Act.put, List.setIfInBounds_toArray, List.set_cons_zero, List.set_cons_succ]
        refine wpAnyH_take (i := 15) (oi := { dst := some 49, op := _, type := _, pos := _, after := _, guard := _ }) (v := ?_) rfl (by kernel_rfl) (by kernel_rfl) (by kernel_rfl) (fun _ _ _ h => h) (Or.inl ⟨by kernel_rfl, ?_⟩) (by assumption) ?_
        rotate_left
        · intro w hSw; (try dsimp only at hSw); go_simp; try (with_reducible rfl)
        try simp only [Act.put, List.setIfInBounds_toArray, List.set_cons_zero, List.set_cons_succ]
        refine wpAnyH_take (i := 16) (oi := { dst := some 50, op := _, type := _, pos := _, after := _, guard := _ }) (v := undef) rfl (by kernel_rfl) (by kernel_rfl) (by kernel_rfl) (fun _ _ _ h => h) (Or.inr ⟨by kernel_rfl, rfl⟩) (by assumption) ?_
        try simp only [Act.put, List.setIfInBounds_toArray, List.set_cons_zero, List.set_cons_succ]
        refine wpAnyH_take (i := 17) (oi := { dst := some 51, op := _, type := _, pos := _, after := _, guard := _ }) (v := undef) rfl (by kernel_rfl) (by kernel_rfl) (by kernel_rfl) (fun _ _ _ h => h) (Or.inr ⟨by kernel_rfl, rfl⟩) (by assumption) ?_
        try simp only [Act.put, List.setIfInBounds_toArray, List.set_cons_zero, List.set_cons_succ]
        refine wpAnyH_take (i := 18) (oi := { dst := some 52, op := _, type := _, pos := _, after := _, guard := _ }) (v := undef) rfl (by kernel_rfl) (by kernel_rfl) (by kernel_rfl) (fun _ _ _ h => h) (Or.inr ⟨by kernel_rfl, rfl⟩) (by assumption) ?_
        try simp only [Act.put, List.setIfInBounds_toArray, List.set_cons_zero, List.set_cons_succ]
        refine wpAnyH_take (i := 19) (oi := { dst := some 53, op := _, type := _, pos := _, after := _, guard := _ }) (v := undef) rfl (by kernel_rfl) (by kernel_rfl) (by kernel_rfl) (fun _ _ _ h => h) (Or.inr ⟨by kernel_rfl, rfl⟩) (by assumption) ?_
        try simp only [Act.put, List.setIfInBounds_toArray, List.set_cons_zero, List.set_cons_succ]
        refine wpAnyH_take (i := 20) (oi := { dst := some 54, op := _, type := _, pos := _, after := _, guard := _ }) (v := ?_) rfl (by kernel_rfl) (by kernel_rfl) (by kernel_rfl) (fun _ _ _ h => h) (Or.inl ⟨by kernel_rfl, ?_⟩) (by assumption) ?_
        rotate_left
        · intro w hSw; (try dsimp only at hSw); go_simp; try (with_reducible rfl)
        try simp only [Act.put, List.setIfInBounds_toArray, List.set_cons_zero, List.set_cons_succ]
        refine wpAnyH_take (i := 21) (oi := { dst := some 55, op := _, type := _, pos := _, after := _, guard := _ }) (v := ?_) rfl (by kernel_rfl) (by kernel_rfl) (by kernel_rfl) (fun _ _ _ h => h) (Or.inl ⟨by kernel_rfl, ?_⟩) (by assumption) ?_
        rotate_left
        · intro w hSw; (try dsimp only at hSw); go_simp; try (with_reducible rfl)
        try simp only [Act.put, List.setIfInBounds_toArray, List.set_cons_zero, List.set_cons_succ]
        refine wpAnyH_take (i := 22) (oi := { dst := some 4, op := _, type := _, pos := _, after := _, guard := _ }) (v := ?_) rfl (by kernel_rfl) (by kernel_rfl) (by kernel_rfl) (fun _ _ _ h => h) (Or.inl ⟨by kernel_rfl, ?_⟩) (by assumption) ?_
        rotate_left
        · intro w hSw; (try dsimp only at hSw); go_simp; try (with_reducible rfl)
        try simp only [Act.put, List.setIfInBounds_toArray, List.set_cons_zero, List.set_cons_succ]
        refine wpAnyH_done (by kernel_rfl) ?_ _
        go_wp2_with fail
        go_ret
        exact ⟨rfl, (unhide HBA).trans (hcur2.mono (unhide HBA).size)⟩

theorem stampParses_walk (d : ByteArray) (hd : d.size ≤ maxLen) (r : Bool) (w : World) :
    Calls Tryd.prog 4 #[.string d, .bool r] w fun e w' => e = .returned (.bool true) ∧ Below w.heap.size w w' := by
  have e : S d.data.toList = d := by cases d; simp [S]
  have := sparses_any d.data.toList r w (by have : d.data.toList.length = d.size := Array.length_toList
                                            unfold maxLen at hd; omega)
  rwa [e] at this
end Go.Proofs.YtbggjkokfbcbcaaDoor
