/- The walk of ValueTexts. -/
import Derived.Test.YtgeibmlhmljhpaaDoorBundleV18
namespace Go.Proofs.YtgeibmlhmljhpaaDoor
open Go.RowKit
set_option linter.unusedVariables false
set_option maxRecDepth 100000

/- The law's own box of a state. -/
structure Bz (w : World) (X : VS) (v : Value) (wr : World) : Prop where
  low : Below w.heap.size w wr
  bx : ∃ t, wr.heap[w.heap.size]? = some (.cells #[.int .i64 X.kind, .int .i64 X.n, v] t (0, 0))
  row : Row2 wr v X.rows
theorem Bz.later {w wr w' : World} {X : VS} {v : Value} (h : Bz w X v wr) (hb : Below wr.heap.size wr w') : Bz w X v w' := by
  obtain ⟨t, hx⟩ := h.bx
  have := block_lt hx
  exact ⟨h.low.trans (hb.mono (by omega)), ⟨t, (hb.block _ this).trans hx⟩, h.row.later hb⟩
theorem Bz.cells {w wr : World} {X : VS} {v : Value} (h : Bz w X v wr) : wr.cell? ⟨w.heap.size, 0, none⟩ = some (.int .i64 X.kind) ∧ wr.cell? ⟨w.heap.size, 1, none⟩ = some (.int .i64 X.n) ∧ wr.cell? ⟨w.heap.size, 2, none⟩ = some v ∧ ∀ j, wr.frozen? ⟨w.heap.size, j, none⟩ = false := by
  obtain ⟨t, hx⟩ := h.bx
  refine ⟨?_, ?_, ?_, fun j => block_frozen hx j⟩ <;> rw [block_cell hx] <;> rfl
theorem Bz.boxes {w W : World} {X : VS} {v : Value} (h : Bz w X v W) : (∀ wy, Bl W wy → wy.cell? ⟨w.heap.size, 0, none⟩ = some (.int .i64 X.kind)) ∧ (∀ wy, Bl W wy → wy.cell? ⟨w.heap.size, 1, none⟩ = some (.int .i64 X.n)) ∧ (∀ wy, Bl W wy → wy.cell? ⟨w.heap.size, 2, none⟩ = some v) ∧ True :=
  ⟨fun wy hy => (h.later hy.low).cells.1, fun wy hy => (h.later hy.low).cells.2.1, fun wy hy => (h.later hy.low).cells.2.2.1, trivial⟩
theorem Bz.put {w wr : World} {X Y : VS} {v u : Value} {e : TypeId} (h : Bz w X v wr) (ho : wr.ownsRow (w.heap.size + 1) e 2 u Y.rows.length (R9 Y.rows)) : Bz w Y u (((wr.setCell ⟨w.heap.size, 0, none⟩ (.int .i64 Y.kind)).setCell ⟨w.heap.size, 1, none⟩ (.int .i64 Y.n)).setCell ⟨w.heap.size, 2, none⟩ u) := by
  show Bz w Y u (put3 wr w.heap.size (.int .i64 Y.kind) (.int .i64 Y.n) u)
  obtain ⟨t, hx⟩ := h.bx
  refine ⟨⟨h.low.os, h.low.tape, h.low.output, by rw [put3_size]; exact h.low.size, fun k hk => ?_⟩, ⟨t, ?_⟩, Row2.of_own (ownsRow_same ho fun k hk => ?_)⟩
  · rw [put3_other _ _ _ _ (by omega)]; exact h.low.block k hk
  · have e1 := heap_setCell_same wr w.heap.size 0 _ _ (.int .i64 Y.kind) hx
    have e2 := heap_setCell_same _ w.heap.size 1 _ _ (.int .i64 Y.n) e1
    have e3 := heap_setCell_same _ w.heap.size 2 _ _ u e2
    unfold put3
    simpa [Array.setIfInBounds] using e3
  · have := (ho.lt k hk).1
    rw [put3_other _ _ _ _ (by omega)]

set_option maxHeartbeats 25600000 in
theorem texts_any {w : World} {v : Value} {s : VS} (h : StAt w v s) (hk : -9223372036854775808 ≤ s.kind ∧ s.kind ≤ 9223372036854775807) (hn : -9223372036854775808 ≤ s.n ∧ s.n ≤ 9223372036854775807) (hsz : ∀ i (h : i < s.rows.length), (s.rows[i]'h).1.length ≤ maxLen ∧ (s.rows[i]'h).2.length ≤ maxLen) (td : Bool) (hw : WD w) :
    Calls Tryd.prog 3 #[v, .bool td] w fun e w' => e = .returned (.bool true) ∧ Below w.heap.size w w' := by
  have HWD := hide (fun (wy : World) (hb : Below w.heap.size w wy) => hw.later hb)
  have HFW := hide (fun (o : Obj) => vfew_any (h.later (under_box (w := w) o)) hsz)
  obtain ⟨k0, rfl, hr⟩ := h
  obtain ⟨a, c, rfl, hc, hm⟩ := hr.shape
  have HS0 : Hid (∀ t, Bz w s (.slice a s.rows.length c) (w.alloc (.cells #[.int .i64 s.kind, .int .i64 s.n, .slice a s.rows.length c] t))) := fun t => ⟨under_box _, ⟨t, heap_alloc_new w _⟩, hr.later (under_box _)⟩
  have HF10 := hide (few_len s)
  have HFT := hide (few_texts s)
  have HFK : Hid (s.few.kind = s.kind ∧ s.few.n = s.n) := ⟨rfl, rfl⟩
  have HK := hide hk
  have HN := hide hn
  clear hr hc hm hsz hw hk hn
  generalize s.few = X0 at *
  cases td
  · go_enter Tryd.func3, Tryd.ntmps3
    go_wp2_with fail
    refine (unhide HFW _).mono ?_
    rintro e w1 ⟨v1, rfl, ho1, hb1⟩
    rw [World.size_alloc] at ho1 hb1
    obtain ⟨k1, rfl, hr1⟩ := ho1
    obtain ⟨xa, xc, rfl, _⟩ := ownsRow_slice hr1
    have hz1 := (unhide HS0 _).later (by rw [World.size_alloc]; exact hb1)
    have HZ := hide (hz1.put hr1)
    obtain ⟨p0, p1, p2, pf⟩ := hz1.cells
    clear hz1 hr1 hb1 HFW HS0
    obtain ⟨X, hX⟩ : ∃ X, X0 = X := ⟨_, rfl⟩
    have HXK : Hid (-9223372036854775808 ≤ X.kind ∧ X.kind ≤ 9223372036854775807) := by show _ ∧ _; rw [← hX, (unhide HFK).1]; exact unhide HK
    have HXN : Hid (-9223372036854775808 ≤ X.n ∧ X.n ≤ 9223372036854775807) := by show _ ∧ _; rw [← hX, (unhide HFK).2]; exact unhide HN
    have HX10 : Hid (X.rows.length ≤ 10) := by show _ ≤ _; rw [← hX]; exact unhide HF10
    have HXT : Hid (∀ i (h : i < X.rows.length), (X.rows[i]'h).1.length ≤ 40 ∧ (X.rows[i]'h).2.length ≤ 40) := by
      subst hX
      intro i hi
      have := unhide HFT i hi
      omega
    rw [hX] at HZ ⊢
    clear hX HK HN HFK HF10 HFT
    go_wp2_with fail
    obtain ⟨W, hW⟩ : ∃ W, ((w1.setCell ⟨w.heap.size, 0, none⟩ (.int .i64 X.kind)).setCell ⟨w.heap.size, 1, none⟩ (.int .i64 X.n)).setCell ⟨w.heap.size, 2, none⟩ (.slice xa X.rows.length xc) = W := ⟨_, rfl⟩
    rw [hW] at HZ ⊢
    clear hW p0 p1 p2 pf
    obtain ⟨C, hCC⟩ : ∃ C, X.check = C := ⟨_, rfl⟩
    have HSX : Hid (∀ wy, Bl W wy → StAt wy (.agg #[.int .i64 X.kind, .int .i64 X.n, .slice xa X.rows.length xc]) X) := fun wy h => ⟨_, rfl, (unhide HZ).row.later h.low⟩
    have HLOW : Hid (∀ wy, Bl W wy → Below w.heap.size w wy) := fun wy h => (unhide HZ).low.trans (h.low.mono (unhide HZ).low.size)
    have HAW := hide (fun (wy : World) (h : Bl W wy) => vawake_any (unhide HWD wy (unhide HLOW wy h)))
    have HCK := hide (fun (wy : World) (h : Bl W wy) => vcheck_any (unhide HSX wy h) (unhide HWD wy (unhide HLOW wy h)))
    have HTO := hide (fun (wy : World) (h : Bl W wy) => told_any (unhide HSX wy h) (by have := unhide HX10; omega))
    have HRC := hide (fun (wy : World) (vt : Value) (h : StAt wy vt X) => rcheck_any h)
    have HTX := hide (fun (wy : World) (h : Bl W wy) => vtext_any (unhide HSX wy h) (unhide HXK) (unhide HXN) (unhide HX10) (unhide HXT))
    have HRT := hide (fun (wy : World) (vt : Value) (h : StAt wy vt X) => rtext_any h (unhide HXK) (unhide HXN) (unhide HX10) (unhide HXT))
    have HTLN : Hid (X.text.length ≤ 1099511627776) := by
      show _ ≤ _
      have h10 := unhide HX10
      have hsh := rows_short X.rows (unhide HXT) X.rows.length (Nat.le_refl _)
      rw [List.take_length] at hsh
      have a1 := Codec.enc_short (max X.kind 0).toNat (by have := unhide HXK; omega)
      have a2 := Codec.enc_short (Codec.fold X.n) (Codec.fold_lt _ (unhide HXN).1 (unhide HXN).2)
      have a3 := Codec.enc_short X.rows.length (by omega)
      unfold VS.text headT
      simp only [List.length_append]
      omega
    have HMY : Hid (C = 0 → X.may) := fun h => ⟨by rw [hCC]; exact h, unhide HXN⟩
    rw [hCC] at HCK HRC
    have hcn : (C != C) = false := by simp
    obtain ⟨c0, c1, c2, cfz⟩ := (unhide HZ).boxes
    have hst : Bl W W.drew := (Below.refl _ _).drew
    clear hCC HXK HXN HX10 HXT cfz
    refine wp_region_held_drew (S := fun w' => Bl W w') (by kernel_rfl) ?_ (fun hHeld => ?_)
    · exact hst
    refine wpAnyH_ready (rs := [0]) (by kernel_rfl) (by simp) ?_
    refine AllReadyH.cons rfl (fun K hK => ?_) AllReadyH.nil
    go_simp
    (go_at_call 11; refine (unhide HAW _ (by assumption)).mono ?_; rintro e wa ⟨rfl, hba⟩)
    refine hK.out _ _ ?_ (fun hHeld => ?_)
    · exact Bl.below (by assumption) hba
    clear hK K
    try simp only [Act.put, List.setIfInBounds_toArray, List.set_cons_zero, List.set_cons_succ]
    refine wpAnyH_take (i := 1) (oi := { dst := some 14, op := _, type := _, pos := _, after := _, guard := _ }) (v := ?_) rfl (by kernel_rfl) (by kernel_rfl) (by kernel_rfl) (fun _ _ _ h => h) (Or.inl ⟨by kernel_rfl, ?_⟩) (by assumption) ?_
    rotate_left
    · intro w hSw; (try dsimp only at hSw); go_simp; try (with_reducible rfl)
    try simp only [Act.put, List.setIfInBounds_toArray, List.set_cons_zero, List.set_cons_succ]
    refine wpAnyH_take (i := 2) (oi := { dst := some 15, op := _, type := _, pos := _, after := _, guard := _ }) (v := ?_) rfl (by kernel_rfl) (by kernel_rfl) (by kernel_rfl) (fun _ _ _ h => h) (Or.inl ⟨by kernel_rfl, ?_⟩) (by assumption) ?_
    rotate_left
    · intro w hSw; (try dsimp only at hSw); go_simp; try (with_reducible rfl)
    try simp only [Act.put, List.setIfInBounds_toArray, List.set_cons_zero, List.set_cons_succ]
    refine wpAnyH_take (i := 3) (oi := { dst := some 16, op := _, type := _, pos := _, after := _, guard := _ }) (v := ?_) rfl (by kernel_rfl) (by kernel_rfl) (by kernel_rfl) (fun _ _ _ h => h) (Or.inl ⟨by kernel_rfl, ?_⟩) (by assumption) ?_
    rotate_left
    · intro w hSw; (try dsimp only at hSw); go_simp; try (with_reducible rfl)
    try simp only [Act.put, List.setIfInBounds_toArray, List.set_cons_zero, List.set_cons_succ]
    refine wpAnyH_take (i := 5) (oi := { dst := some 18, op := _, type := _, pos := _, after := _, guard := _ }) (v := ?_) rfl (by kernel_rfl) (by kernel_rfl) (by kernel_rfl) (fun _ _ _ h => h) (Or.inl ⟨by kernel_rfl, ?_⟩) (by assumption) ?_
    rotate_left
    · intro w hSw; (try dsimp only at hSw); go_simp; try (with_reducible rfl)
    try simp only [Act.put, List.setIfInBounds_toArray, List.set_cons_zero, List.set_cons_succ]
    refine wpAnyH_ready (rs := [4]) (by kernel_rfl) (by simp) ?_
    refine AllReadyH.cons rfl (fun K hK => ?_) AllReadyH.nil
    go_simp
    (go_at_call 12; refine (unhide HCK _ (by assumption)).mono ?_; rintro e wk ⟨rfl, hbk⟩)
    refine hK.out _ _ ?_ (fun hHeld => ?_)
    · exact Bl.below (by assumption) hbk
    clear hK K
    try simp only [Act.put, List.setIfInBounds_toArray, List.set_cons_zero, List.set_cons_succ]
    refine wpAnyH_ready (rs := [6]) (by kernel_rfl) (by simp) ?_
    refine AllReadyH.cons rfl (fun K hK => ?_) AllReadyH.nil
    go_simp
    (go_at_call 14; refine (unhide HTO _ (by assumption)).mono ?_; rintro e wt ⟨vt, rfl, hot, hbt⟩; obtain ⟨kt, rfl, hrt⟩ := hot; obtain ⟨ta, tc, rfl, _⟩ := ownsRow_slice hrt; have HT := hide (Row2.of_own hrt); clear hrt)
    refine hK.out _ _ ?_ (fun hHeld => ?_)
    · exact Bl.below (by assumption) hbt
    clear hK K
    try simp only [Act.put, List.setIfInBounds_toArray, List.set_cons_zero, List.set_cons_succ]
    refine wpAnyH_ready (rs := [7]) (by kernel_rfl) (by simp) ?_
    refine AllReadyH.cons rfl (fun K hK => ?_) AllReadyH.nil
    go_simp
    (go_at_call 13; refine (unhide HRC _ _ ⟨_, rfl, unhide HT⟩).mono ?_; rintro e wr ⟨rfl, hbr⟩)
    refine hK.out _ _ ?_ (fun hHeld => ?_)
    · exact Bl.below (by assumption) hbr
    clear hK K
    try simp only [Act.put, List.setIfInBounds_toArray, List.set_cons_zero, List.set_cons_succ]
    refine wpAnyH_take (i := 8) (oi := { dst := some 21, op := _, type := _, pos := _, after := _, guard := _ }) (v := ?_) rfl (by kernel_rfl) (by kernel_rfl) (by kernel_rfl) (fun _ _ _ h => h) (Or.inl ⟨by kernel_rfl, ?_⟩) (by assumption) ?_
    rotate_left
    · intro w hSw; (try dsimp only at hSw); go_simp; try (with_reducible rfl)
    try simp only [Act.put, List.setIfInBounds_toArray, List.set_cons_zero, List.set_cons_succ]
    refine wpAnyH_take (i := 9) (oi := { dst := some 22, op := _, type := _, pos := _, after := _, guard := _ }) (v := ?_) rfl (by kernel_rfl) (by kernel_rfl) (by kernel_rfl) (fun _ _ _ h => h) (Or.inl ⟨by kernel_rfl, ?_⟩) (by assumption) ?_
    rotate_left
    · intro w hSw; (try dsimp only at hSw); go_simp; try (with_reducible rfl)
    try simp only [Act.put, List.setIfInBounds_toArray, List.set_cons_zero, List.set_cons_succ]
    refine wpAnyH_take (i := 10) (oi := { dst := some 23, op := _, type := _, pos := _, after := _, guard := _ }) (v := ?_) rfl (by kernel_rfl) (by kernel_rfl) (by kernel_rfl) (fun _ _ _ h => h) (Or.inl ⟨by kernel_rfl, ?_⟩) (by assumption) ?_
    rotate_left
    · intro w hSw; (try dsimp only at hSw); go_simp; try (with_reducible rfl)
    try simp only [Act.put, List.setIfInBounds_toArray, List.set_cons_zero, List.set_cons_succ]
    refine wpAnyH_take (i := 11) (oi := { dst := some 24, op := _, type := _, pos := _, after := _, guard := _ }) (v := ?_) rfl (by kernel_rfl) (by kernel_rfl) (by kernel_rfl) (fun _ _ _ h => h) (Or.inl ⟨by kernel_rfl, ?_⟩) (by assumption) ?_
    rotate_left
    · intro w hSw; (try dsimp only at hSw); go_simp; try (with_reducible rfl)
    try simp only [Act.put, List.setIfInBounds_toArray, List.set_cons_zero, List.set_cons_succ]
    refine wpAnyH_take (i := 12) (oi := { dst := some 25, op := _, type := _, pos := _, after := _, guard := _ }) (v := ?_) rfl (by kernel_rfl) (by kernel_rfl) (by kernel_rfl) (fun _ _ _ h => h) (Or.inl ⟨by kernel_rfl, ?_⟩) (by assumption) ?_
    rotate_left
    · intro w hSw; (try dsimp only at hSw); go_simp; try (with_reducible rfl)
    try simp only [Act.put, List.setIfInBounds_toArray, List.set_cons_zero, List.set_cons_succ]
    refine wpAnyH_take (i := 13) (oi := { dst := some 26, op := _, type := _, pos := _, after := _, guard := _ }) (v := undef) rfl (by kernel_rfl) (by kernel_rfl) (by kernel_rfl) (fun _ _ _ h => h) (Or.inr ⟨by kernel_rfl, rfl⟩) (by assumption) ?_
    try simp only [Act.put, List.setIfInBounds_toArray, List.set_cons_zero, List.set_cons_succ]
    refine wpAnyH_take (i := 14) (oi := { dst := some 27, op := _, type := _, pos := _, after := _, guard := _ }) (v := undef) rfl (by kernel_rfl) (by kernel_rfl) (by kernel_rfl) (fun _ _ _ h => h) (Or.inr ⟨by kernel_rfl, rfl⟩) (by assumption) ?_
    try simp only [Act.put, List.setIfInBounds_toArray, List.set_cons_zero, List.set_cons_succ]
    refine wpAnyH_take (i := 15) (oi := { dst := some 28, op := _, type := _, pos := _, after := _, guard := _ }) (v := undef) rfl (by kernel_rfl) (by kernel_rfl) (by kernel_rfl) (fun _ _ _ h => h) (Or.inr ⟨by kernel_rfl, rfl⟩) (by assumption) ?_
    try simp only [Act.put, List.setIfInBounds_toArray, List.set_cons_zero, List.set_cons_succ]
    refine wpAnyH_take (i := 16) (oi := { dst := some 29, op := _, type := _, pos := _, after := _, guard := _ }) (v := ?_) rfl (by kernel_rfl) (by kernel_rfl) (by kernel_rfl) (fun _ _ _ h => h) (Or.inl ⟨by kernel_rfl, ?_⟩) (by assumption) ?_
    rotate_left
    · intro w hSw; (try dsimp only at hSw); go_simp; try (with_reducible rfl)
    try simp only [Act.put, List.setIfInBounds_toArray, List.set_cons_zero, List.set_cons_succ]
    refine wpAnyH_take (i := 17) (oi := { dst := some 30, op := _, type := _, pos := _, after := _, guard := _ }) (v := ?_) rfl (by kernel_rfl) (by kernel_rfl) (by kernel_rfl) (fun _ _ _ h => h) (Or.inl ⟨by kernel_rfl, ?_⟩) (by assumption) ?_
    rotate_left
    · intro w hSw; (try dsimp only at hSw); go_simp; try (with_reducible rfl)
    try simp only [Act.put, List.setIfInBounds_toArray, List.set_cons_zero, List.set_cons_succ]
    refine wpAnyH_done (by kernel_rfl) ?_ _
    have hB4 : Bl W wr := by assumption
    have HB4 := hide hB4
    have d0 := c0 _ hB4
    have d1 := c1 _ hB4
    have d2 := c2 _ hB4
    clear hB4 HAW
    go_wp2_with fail
    refine (unhide HCK _ (unhide HB4)).mono ?_
    rintro e w5 ⟨rfl, hb5⟩
    have HB5 := hide ((unhide HB4).below hb5)
    clear hb5 d0 d1 d2 HB4
    have d0 := c0 _ (unhide HB5)
    have d1 := c1 _ (unhide HB5)
    have d2 := c2 _ (unhide HB5)
    by_cases hC : C = 0
    case neg =>
      have ec : (C != 0) = true := by rw [bne_iff_ne]; exact hC
      have HLO := hide (unhide HLOW _ (unhide HB5))
      clear hC
      go_wp2_with fail
      go_ret
      exact ⟨rfl, unhide HLO⟩
    have ec : (C != 0) = false := by rw [hC]; rfl
    have hmay := unhide HMY hC
    obtain ⟨hpe, hps⟩ := parse_text hmay
    have HAL := hide (alike_self X)
    have HPA := hide (fun (wy : World) (hb : Below w.heap.size w wy) (hl : X.text.length ≤ 1099511627776) => vparse_any (unhide HWD wy hb) X.text hl)
    rw [hpe, hps] at HPA
    have HTL : Hid (X.text.length ≤ 1099511627776) := unhide HTLN
    clear hC hmay hpe hps
    generalize X.text = l at *
    have hss : ((S l).toList == (S l).toList) = true := by simp
    go_wp2_with fail
    refine (unhide HTX _ (unhide HB5)).mono ?_
    rintro e w6 ⟨rfl, hb6⟩
    have HB6 := hide ((unhide HB5).below hb6)
    clear hb6 d0 d1 d2 HB5
    go_wp2_with fail
    refine (unhide HPA _ (unhide HLOW _ (unhide HB6)) (unhide HTL)).mono ?_
    rintro e w7 ⟨v7, rfl, ho7, hb7⟩
    have HB7 := hide ((unhide HB6).below hb7)
    obtain ⟨k7, rfl, hr7⟩ := ho7
    obtain ⟨a7, c7, rfl, _⟩ := ownsRow_slice hr7
    have HR7 := hide (Row2.of_own hr7)
    clear hr7 hb7 HPA HB6
    obtain ⟨Z, hZ⟩ : ∃ Z : Obj, Z = .cells #[.int .i64 X.kind, .int .i64 X.n, .slice a7 X.rows.length c7] 24 (0, 0) := ⟨_, rfl⟩
    obtain ⟨W2, hW2⟩ : ∃ W2, w7.alloc Z = W2 := ⟨_, rfl⟩
    have hx2 : W2.heap[w7.heap.size]? = some Z := by rw [← hW2]; exact heap_alloc_new w7 _
    have hl2 : Below w7.heap.size w7 W2 := by rw [← hW2]; exact under_box _
    have HBW2 : Hid (∀ wy, Bl W2 wy → Bl W wy) := fun wy h => ((unhide HB7).below hl2).below h.low
    rw [hZ] at hx2
    have hlt2 := block_lt hx2
    have y0 : ∀ wy, Bl W2 wy → wy.cell? ⟨w7.heap.size, 0, none⟩ = some (.int .i64 X.kind) := fun wy h => by rw [h.low.cell (p := ⟨w7.heap.size, 0, none⟩) hlt2, block_cell hx2]; rfl
    have y1 : ∀ wy, Bl W2 wy → wy.cell? ⟨w7.heap.size, 1, none⟩ = some (.int .i64 X.n) := fun wy h => by rw [h.low.cell (p := ⟨w7.heap.size, 1, none⟩) hlt2, block_cell hx2]; rfl
    have y2 : ∀ wy, Bl W2 wy → wy.cell? ⟨w7.heap.size, 2, none⟩ = some (.slice a7 X.rows.length c7) := fun wy h => by rw [h.low.cell (p := ⟨w7.heap.size, 2, none⟩) hlt2, block_cell hx2]; rfl
    have x0 : ∀ wy, Bl W2 wy → wy.cell? ⟨w.heap.size, 0, none⟩ = some (.int .i64 X.kind) := fun wy h => c0 _ (unhide HBW2 _ h)
    have x1 : ∀ wy, Bl W2 wy → wy.cell? ⟨w.heap.size, 1, none⟩ = some (.int .i64 X.n) := fun wy h => c1 _ (unhide HBW2 _ h)
    have x2 : ∀ wy, Bl W2 wy → wy.cell? ⟨w.heap.size, 2, none⟩ = some (.slice xa X.rows.length xc) := fun wy h => c2 _ (unhide HBW2 _ h)
    have HS7 : Hid (∀ wy, Bl W2 wy → StAt wy (.agg #[.int .i64 X.kind, .int .i64 X.n, .slice a7 X.rows.length c7]) X) := fun wy h => ⟨_, rfl, ((unhide HR7).later hl2).later h.low⟩
    have HSA1 := hide (fun (wy : World) (h : Bl W2 wy) => vsame_any (unhide HS7 wy h) (unhide HSX wy (unhide HBW2 _ h)))
    have HSA2 := hide (fun (wy : World) (h : Bl W2 wy) => vsame_any (unhide HSX wy (unhide HBW2 _ h)) (unhide HS7 wy h))
    rw [unhide HAL] at HSA1 HSA2
    have HTX2 := hide (fun (wy : World) (h : Bl W2 wy) => unhide HTX wy (unhide HBW2 _ h))
    have HTO2 := hide (fun (wy : World) (h : Bl W2 wy) => unhide HTO wy (unhide HBW2 _ h))
    have HLOW2 := hide (fun (wy : World) (h : Bl W2 wy) => unhide HLOW wy (unhide HBW2 _ h))
    have hst2 : Bl W2 W2.drew := (Below.refl _ _).drew
    have HW2 := hide hW2
    clear hx2 hlt2 hl2 hW2 HR7 HS7 HB7 HBW2 HTX HTO HLOW HSX c0 c1 c2 HCK HRC hst
    go_wp2_with fail
    rw [← hZ, unhide HW2]
    clear HW2 hZ
    go_region_held3 (fun w' => Bl W2 w') (with_reducible (first | exact hst2 | (refine Bl.below ?_ (by assumption) <;> assumption)))
      (first
        | (go_at_call 16; refine (unhide HTX2 _ (by assumption)).mono ?_; rintro e wa2 ⟨rfl, hba2⟩)
        | (go_at_call 14; refine (unhide HTO2 _ (by assumption)).mono ?_; rintro e wt2 ⟨vt2, rfl, hot2, hbt2⟩; obtain ⟨kt2, rfl, hrt2⟩ := hot2; obtain ⟨ta2, tc2, rfl, _⟩ := ownsRow_slice hrt2; have HT2 := hide (Row2.of_own hrt2); clear hrt2)
        | (go_at_call 17; refine (unhide HRT _ _ ⟨_, rfl, unhide HT2⟩).mono ?_; rintro e wr2 ⟨rfl, hbr2⟩)
        | (go_at_call 18; have hq9 := hbs1; clear hq9; refine (unhide HSA2 _ (by assumption)).mono ?_; rintro e ws2 ⟨rfl, hbs2⟩)
        | (go_at_call 18; refine (unhide HSA1 _ (by assumption)).mono ?_; rintro e ws1 ⟨rfl, hbs1⟩)
        | fail)
    all_goals
      have HFIN := hide (unhide HLOW2 _ (by assumption))
      go_wp2_with fail
      go_ret
      exact ⟨rfl, unhide HFIN⟩
  · go_enter Tryd.func3, Tryd.ntmps3
    go_wp2_with fail
    refine (unhide HFW _).mono ?_
    rintro e w1 ⟨v1, rfl, ho1, hb1⟩
    rw [World.size_alloc] at ho1 hb1
    obtain ⟨k1, rfl, hr1⟩ := ho1
    obtain ⟨xa1, xc1, rfl, _⟩ := ownsRow_slice hr1
    have hz1 := (unhide HS0 _).later (by rw [World.size_alloc]; exact hb1)
    have HZ1 := hide (hz1.put hr1)
    obtain ⟨p0, p1, p2, pf⟩ := hz1.cells
    clear hz1 hr1 hb1 HFW HS0
    go_wp2_with fail
    obtain ⟨W1, hW1⟩ : ∃ W1, ((w1.setCell ⟨w.heap.size, 0, none⟩ (.int .i64 X0.kind)).setCell ⟨w.heap.size, 1, none⟩ (.int .i64 X0.n)).setCell ⟨w.heap.size, 2, none⟩ (.slice xa1 X0.rows.length xc1) = W1 := ⟨_, rfl⟩
    rw [hW1] at HZ1 ⊢
    clear hW1 p0 p1 p2 pf
    have HTD := hide (tidy_any (w := W1) (v := .agg #[.int .i64 X0.kind, .int .i64 X0.n, .slice xa1 X0.rows.length xc1]) (s := X0) ⟨_, rfl, (unhide HZ1).row⟩ (by rw [(unhide HFK).2]; exact unhide HN) (fun i hi => by have := unhide HFT i hi; unfold maxLen; omega))
    clear HK HN HFK HF10 HFT
    refine (unhide HTD).mono ?_
    rintro e w2 ⟨v2, rfl, X, hmay, ho2, hb2⟩
    have HZ2 := hide ((unhide HZ1).later hb2)
    have hx8 := Nat.le_trans (VS.may_rows hmay).1 (VS.most_le X)
    have HOW := hide (own_any ho2.at (by omega))
    obtain ⟨k2, rfl, hr2⟩ := ho2
    obtain ⟨ya, yc, rfl, _⟩ := ownsRow_slice hr2
    have HWS := hide (show w.heap.size + 1 ≤ w2.heap.size by obtain ⟨t, hx⟩ := (unhide HZ2).bx; exact block_lt hx)
    clear hr2 hb2 HZ1 HTD
    go_wp2_with fail
    refine (unhide HOW).mono ?_
    rintro e w3 ⟨v3, rfl, ho3, hb3⟩
    obtain ⟨k3, rfl, hr3⟩ := ho3
    obtain ⟨xa, xc, rfl, _⟩ := ownsRow_slice hr3
    have hz3 := (unhide HZ2).later hb3
    have HZ := hide (hz3.put (ownsRow_less hr3 (unhide HWS)))
    obtain ⟨p0, p1, p2, pf⟩ := hz3.cells
    have HXK : Hid (-9223372036854775808 ≤ X.kind ∧ X.kind ≤ 9223372036854775807) := by have := VS.may_kind hmay; exact ⟨by omega, by omega⟩
    have HXN : Hid (-9223372036854775808 ≤ X.n ∧ X.n ≤ 9223372036854775807) := hmay.2
    have HX10 : Hid (X.rows.length ≤ 10) := by show _ ≤ _; omega
    have HXT : Hid (∀ i (h : i < X.rows.length), (X.rows[i]'h).1.length ≤ 40 ∧ (X.rows[i]'h).2.length ≤ 40) := fun i hi => by have := VS.may_len hmay i hi; omega
    have HC00 := hide hmay.1
    clear hz3 hr3 hb3 HZ2 HOW hmay hx8
    go_wp2_with fail
    obtain ⟨W, hW⟩ : ∃ W, ((w3.setCell ⟨w.heap.size, 0, none⟩ (.int .i64 X.kind)).setCell ⟨w.heap.size, 1, none⟩ (.int .i64 X.n)).setCell ⟨w.heap.size, 2, none⟩ (.slice xa X.rows.length xc) = W := ⟨_, rfl⟩
    rw [hW] at HZ ⊢
    clear hW p0 p1 p2 pf
    obtain ⟨C, hCC⟩ : ∃ C, X.check = C := ⟨_, rfl⟩
    have ec0 : (C != 0) = false := by rw [← hCC, unhide HC00]; rfl
    have HSX : Hid (∀ wy, Bl W wy → StAt wy (.agg #[.int .i64 X.kind, .int .i64 X.n, .slice xa X.rows.length xc]) X) := fun wy h => ⟨_, rfl, (unhide HZ).row.later h.low⟩
    have HLOW : Hid (∀ wy, Bl W wy → Below w.heap.size w wy) := fun wy h => (unhide HZ).low.trans (h.low.mono (unhide HZ).low.size)
    have HAW := hide (fun (wy : World) (h : Bl W wy) => vawake_any (unhide HWD wy (unhide HLOW wy h)))
    have HCK := hide (fun (wy : World) (h : Bl W wy) => vcheck_any (unhide HSX wy h) (unhide HWD wy (unhide HLOW wy h)))
    have HTO := hide (fun (wy : World) (h : Bl W wy) => told_any (unhide HSX wy h) (by have := unhide HX10; omega))
    have HRC := hide (fun (wy : World) (vt : Value) (h : StAt wy vt X) => rcheck_any h)
    have HTX := hide (fun (wy : World) (h : Bl W wy) => vtext_any (unhide HSX wy h) (unhide HXK) (unhide HXN) (unhide HX10) (unhide HXT))
    have HRT := hide (fun (wy : World) (vt : Value) (h : StAt wy vt X) => rtext_any h (unhide HXK) (unhide HXN) (unhide HX10) (unhide HXT))
    have HTLN : Hid (X.text.length ≤ 1099511627776) := by
      show _ ≤ _
      have h10 := unhide HX10
      have hsh := rows_short X.rows (unhide HXT) X.rows.length (Nat.le_refl _)
      rw [List.take_length] at hsh
      have a1 := Codec.enc_short (max X.kind 0).toNat (by have := unhide HXK; omega)
      have a2 := Codec.enc_short (Codec.fold X.n) (Codec.fold_lt _ (unhide HXN).1 (unhide HXN).2)
      have a3 := Codec.enc_short X.rows.length (by omega)
      unfold VS.text headT
      simp only [List.length_append]
      omega
    have HMY : Hid (C = 0 → X.may) := fun h => ⟨by rw [hCC]; exact h, unhide HXN⟩
    rw [hCC] at HCK HRC
    have hcn : (C != C) = false := by simp
    obtain ⟨c0, c1, c2, cfz⟩ := (unhide HZ).boxes
    have hst : Bl W W.drew := (Below.refl _ _).drew
    clear hCC HXK HXN HX10 HXT cfz
    refine wp_region_held_drew (S := fun w' => Bl W w') (by kernel_rfl) ?_ (fun hHeld => ?_)
    · exact hst
    refine wpAnyH_ready (rs := [0]) (by kernel_rfl) (by simp) ?_
    refine AllReadyH.cons rfl (fun K hK => ?_) AllReadyH.nil
    go_simp
    (go_at_call 11; refine (unhide HAW _ (by assumption)).mono ?_; rintro e wa ⟨rfl, hba⟩)
    refine hK.out _ _ ?_ (fun hHeld => ?_)
    · exact Bl.below (by assumption) hba
    clear hK K
    try simp only [Act.put, List.setIfInBounds_toArray, List.set_cons_zero, List.set_cons_succ]
    refine wpAnyH_take (i := 1) (oi := { dst := some 14, op := _, type := _, pos := _, after := _, guard := _ }) (v := ?_) rfl (by kernel_rfl) (by kernel_rfl) (by kernel_rfl) (fun _ _ _ h => h) (Or.inl ⟨by kernel_rfl, ?_⟩) (by assumption) ?_
    rotate_left
    · intro w hSw; (try dsimp only at hSw); go_simp; try (with_reducible rfl)
    try simp only [Act.put, List.setIfInBounds_toArray, List.set_cons_zero, List.set_cons_succ]
    refine wpAnyH_take (i := 2) (oi := { dst := some 15, op := _, type := _, pos := _, after := _, guard := _ }) (v := ?_) rfl (by kernel_rfl) (by kernel_rfl) (by kernel_rfl) (fun _ _ _ h => h) (Or.inl ⟨by kernel_rfl, ?_⟩) (by assumption) ?_
    rotate_left
    · intro w hSw; (try dsimp only at hSw); go_simp; try (with_reducible rfl)
    try simp only [Act.put, List.setIfInBounds_toArray, List.set_cons_zero, List.set_cons_succ]
    refine wpAnyH_take (i := 3) (oi := { dst := some 16, op := _, type := _, pos := _, after := _, guard := _ }) (v := ?_) rfl (by kernel_rfl) (by kernel_rfl) (by kernel_rfl) (fun _ _ _ h => h) (Or.inl ⟨by kernel_rfl, ?_⟩) (by assumption) ?_
    rotate_left
    · intro w hSw; (try dsimp only at hSw); go_simp; try (with_reducible rfl)
    try simp only [Act.put, List.setIfInBounds_toArray, List.set_cons_zero, List.set_cons_succ]
    refine wpAnyH_take (i := 5) (oi := { dst := some 18, op := _, type := _, pos := _, after := _, guard := _ }) (v := ?_) rfl (by kernel_rfl) (by kernel_rfl) (by kernel_rfl) (fun _ _ _ h => h) (Or.inl ⟨by kernel_rfl, ?_⟩) (by assumption) ?_
    rotate_left
    · intro w hSw; (try dsimp only at hSw); go_simp; try (with_reducible rfl)
    try simp only [Act.put, List.setIfInBounds_toArray, List.set_cons_zero, List.set_cons_succ]
    refine wpAnyH_ready (rs := [4]) (by kernel_rfl) (by simp) ?_
    refine AllReadyH.cons rfl (fun K hK => ?_) AllReadyH.nil
    go_simp
    (go_at_call 12; refine (unhide HCK _ (by assumption)).mono ?_; rintro e wk ⟨rfl, hbk⟩)
    refine hK.out _ _ ?_ (fun hHeld => ?_)
    · exact Bl.below (by assumption) hbk
    clear hK K
    try simp only [Act.put, List.setIfInBounds_toArray, List.set_cons_zero, List.set_cons_succ]
    refine wpAnyH_ready (rs := [6]) (by kernel_rfl) (by simp) ?_
    refine AllReadyH.cons rfl (fun K hK => ?_) AllReadyH.nil
    go_simp
    (go_at_call 14; refine (unhide HTO _ (by assumption)).mono ?_; rintro e wt ⟨vt, rfl, hot, hbt⟩; obtain ⟨kt, rfl, hrt⟩ := hot; obtain ⟨ta, tc, rfl, _⟩ := ownsRow_slice hrt; have HT := hide (Row2.of_own hrt); clear hrt)
    refine hK.out _ _ ?_ (fun hHeld => ?_)
    · exact Bl.below (by assumption) hbt
    clear hK K
    try simp only [Act.put, List.setIfInBounds_toArray, List.set_cons_zero, List.set_cons_succ]
    refine wpAnyH_ready (rs := [7]) (by kernel_rfl) (by simp) ?_
    refine AllReadyH.cons rfl (fun K hK => ?_) AllReadyH.nil
    go_simp
    (go_at_call 13; refine (unhide HRC _ _ ⟨_, rfl, unhide HT⟩).mono ?_; rintro e wr ⟨rfl, hbr⟩)
    refine hK.out _ _ ?_ (fun hHeld => ?_)
    · exact Bl.below (by assumption) hbr
    clear hK K
    try simp only [Act.put, List.setIfInBounds_toArray, List.set_cons_zero, List.set_cons_succ]
    refine wpAnyH_take (i := 8) (oi := { dst := some 21, op := _, type := _, pos := _, after := _, guard := _ }) (v := ?_) rfl (by kernel_rfl) (by kernel_rfl) (by kernel_rfl) (fun _ _ _ h => h) (Or.inl ⟨by kernel_rfl, ?_⟩) (by assumption) ?_
    rotate_left
    · intro w hSw; (try dsimp only at hSw); go_simp; try (with_reducible rfl)
    try simp only [Act.put, List.setIfInBounds_toArray, List.set_cons_zero, List.set_cons_succ]
    refine wpAnyH_take (i := 9) (oi := { dst := some 22, op := _, type := _, pos := _, after := _, guard := _ }) (v := ?_) rfl (by kernel_rfl) (by kernel_rfl) (by kernel_rfl) (fun _ _ _ h => h) (Or.inl ⟨by kernel_rfl, ?_⟩) (by assumption) ?_
    rotate_left
    · intro w hSw; (try dsimp only at hSw); go_simp; try (with_reducible rfl)
    try simp only [Act.put, List.setIfInBounds_toArray, List.set_cons_zero, List.set_cons_succ]
    refine wpAnyH_take (i := 10) (oi := { dst := some 23, op := _, type := _, pos := _, after := _, guard := _ }) (v := ?_) rfl (by kernel_rfl) (by kernel_rfl) (by kernel_rfl) (fun _ _ _ h => h) (Or.inl ⟨by kernel_rfl, ?_⟩) (by assumption) ?_
    rotate_left
    · intro w hSw; (try dsimp only at hSw); go_simp; try (with_reducible rfl)
    try simp only [Act.put, List.setIfInBounds_toArray, List.set_cons_zero, List.set_cons_succ]
    refine wpAnyH_take (i := 11) (oi := { dst := some 24, op := _, type := _, pos := _, after := _, guard := _ }) (v := ?_) rfl (by kernel_rfl) (by kernel_rfl) (by kernel_rfl) (fun _ _ _ h => h) (Or.inl ⟨by kernel_rfl, ?_⟩) (by assumption) ?_
    rotate_left
    · intro w hSw; (try dsimp only at hSw); go_simp; try (with_reducible rfl)
    try simp only [Act.put, List.setIfInBounds_toArray, List.set_cons_zero, List.set_cons_succ]
    refine wpAnyH_take (i := 12) (oi := { dst := some 25, op := _, type := _, pos := _, after := _, guard := _ }) (v := ?_) rfl (by kernel_rfl) (by kernel_rfl) (by kernel_rfl) (fun _ _ _ h => h) (Or.inl ⟨by kernel_rfl, ?_⟩) (by assumption) ?_
    rotate_left
    · intro w hSw; (try dsimp only at hSw); go_simp; try (with_reducible rfl)
    try simp only [Act.put, List.setIfInBounds_toArray, List.set_cons_zero, List.set_cons_succ]
    refine wpAnyH_take (i := 13) (oi := { dst := some 26, op := _, type := _, pos := _, after := _, guard := _ }) (v := ?_) rfl (by kernel_rfl) (by kernel_rfl) (by kernel_rfl) (fun _ _ _ h => h) (Or.inl ⟨by kernel_rfl, ?_⟩) (by assumption) ?_
    rotate_left
    · intro w hSw; (try dsimp only at hSw); go_simp; try (with_reducible rfl)
    try simp only [Act.put, List.setIfInBounds_toArray, List.set_cons_zero, List.set_cons_succ]
    refine wpAnyH_ready (rs := [14]) (by kernel_rfl) (by simp) ?_
    refine AllReadyH.cons rfl (fun K hK => ?_) AllReadyH.nil
    go_simp
    (go_at_call 12; refine (unhide HCK _ (by assumption)).mono ?_; rintro e wk2 ⟨rfl, hbk2⟩)
    refine hK.out _ _ ?_ (fun hHeld => ?_)
    · exact Bl.below (by assumption) hbk2
    clear hK K
    try simp only [Act.put, List.setIfInBounds_toArray, List.set_cons_zero, List.set_cons_succ]
    refine wpAnyH_take (i := 15) (oi := { dst := some 28, op := _, type := _, pos := _, after := _, guard := _ }) (v := ?_) rfl (by kernel_rfl) (by kernel_rfl) (by kernel_rfl) (fun _ _ _ h => h) (Or.inl ⟨by kernel_rfl, ?_⟩) (by assumption) ?_
    rotate_left
    · intro w hSw; (try dsimp only at hSw); go_simp; try (with_reducible rfl)
    try simp only [Act.put, List.setIfInBounds_toArray, List.set_cons_zero, List.set_cons_succ]
    refine wpAnyH_take (i := 16) (oi := { dst := some 29, op := _, type := _, pos := _, after := _, guard := _ }) (v := ?_) rfl (by kernel_rfl) (by kernel_rfl) (by kernel_rfl) (fun _ _ _ h => h) (Or.inl ⟨by kernel_rfl, ?_⟩) (by assumption) ?_
    rotate_left
    · intro w hSw; (try dsimp only at hSw); go_simp; try (with_reducible rfl)
    try simp only [Act.put, List.setIfInBounds_toArray, List.set_cons_zero, List.set_cons_succ]
    refine wpAnyH_take (i := 17) (oi := { dst := some 30, op := _, type := _, pos := _, after := _, guard := _ }) (v := ?_) rfl (by kernel_rfl) (by kernel_rfl) (by kernel_rfl) (fun _ _ _ h => h) (Or.inl ⟨by kernel_rfl, ?_⟩) (by assumption) ?_
    rotate_left
    · intro w hSw; (try dsimp only at hSw); go_simp; try (with_reducible rfl)
    try simp only [Act.put, List.setIfInBounds_toArray, List.set_cons_zero, List.set_cons_succ]
    refine wpAnyH_done (by kernel_rfl) ?_ _
    have hB4 : Bl W wk2 := by assumption
    have HB4 := hide hB4
    have d0 := c0 _ hB4
    have d1 := c1 _ hB4
    have d2 := c2 _ hB4
    clear hB4 HAW
    go_wp2_with fail
    refine (unhide HCK _ (unhide HB4)).mono ?_
    rintro e w5 ⟨rfl, hb5⟩
    have HB5 := hide ((unhide HB4).below hb5)
    clear hb5 d0 d1 d2 HB4
    have d0 := c0 _ (unhide HB5)
    have d1 := c1 _ (unhide HB5)
    have d2 := c2 _ (unhide HB5)
    by_cases hC : C = 0
    case neg => exact absurd (by simpa using ec0) hC
    have ec : (C != 0) = false := by rw [hC]; rfl
    have hmay := unhide HMY hC
    obtain ⟨hpe, hps⟩ := parse_text hmay
    have HAL := hide (alike_self X)
    have HPA := hide (fun (wy : World) (hb : Below w.heap.size w wy) (hl : X.text.length ≤ 1099511627776) => vparse_any (unhide HWD wy hb) X.text hl)
    rw [hpe, hps] at HPA
    have HTL : Hid (X.text.length ≤ 1099511627776) := unhide HTLN
    clear hC hmay hpe hps
    generalize X.text = l at *
    have hss : ((S l).toList == (S l).toList) = true := by simp
    go_wp2_with fail
    refine (unhide HTX _ (unhide HB5)).mono ?_
    rintro e w6 ⟨rfl, hb6⟩
    have HB6 := hide ((unhide HB5).below hb6)
    clear hb6 d0 d1 d2 HB5
    go_wp2_with fail
    refine (unhide HPA _ (unhide HLOW _ (unhide HB6)) (unhide HTL)).mono ?_
    rintro e w7 ⟨v7, rfl, ho7, hb7⟩
    have HB7 := hide ((unhide HB6).below hb7)
    obtain ⟨k7, rfl, hr7⟩ := ho7
    obtain ⟨a7, c7, rfl, _⟩ := ownsRow_slice hr7
    have HR7 := hide (Row2.of_own hr7)
    clear hr7 hb7 HPA HB6
    obtain ⟨Z, hZ⟩ : ∃ Z : Obj, Z = .cells #[.int .i64 X.kind, .int .i64 X.n, .slice a7 X.rows.length c7] 24 (0, 0) := ⟨_, rfl⟩
    obtain ⟨W2, hW2⟩ : ∃ W2, w7.alloc Z = W2 := ⟨_, rfl⟩
    have hx2 : W2.heap[w7.heap.size]? = some Z := by rw [← hW2]; exact heap_alloc_new w7 _
    have hl2 : Below w7.heap.size w7 W2 := by rw [← hW2]; exact under_box _
    have HBW2 : Hid (∀ wy, Bl W2 wy → Bl W wy) := fun wy h => ((unhide HB7).below hl2).below h.low
    rw [hZ] at hx2
    have hlt2 := block_lt hx2
    have y0 : ∀ wy, Bl W2 wy → wy.cell? ⟨w7.heap.size, 0, none⟩ = some (.int .i64 X.kind) := fun wy h => by rw [h.low.cell (p := ⟨w7.heap.size, 0, none⟩) hlt2, block_cell hx2]; rfl
    have y1 : ∀ wy, Bl W2 wy → wy.cell? ⟨w7.heap.size, 1, none⟩ = some (.int .i64 X.n) := fun wy h => by rw [h.low.cell (p := ⟨w7.heap.size, 1, none⟩) hlt2, block_cell hx2]; rfl
    have y2 : ∀ wy, Bl W2 wy → wy.cell? ⟨w7.heap.size, 2, none⟩ = some (.slice a7 X.rows.length c7) := fun wy h => by rw [h.low.cell (p := ⟨w7.heap.size, 2, none⟩) hlt2, block_cell hx2]; rfl
    have x0 : ∀ wy, Bl W2 wy → wy.cell? ⟨w.heap.size, 0, none⟩ = some (.int .i64 X.kind) := fun wy h => c0 _ (unhide HBW2 _ h)
    have x1 : ∀ wy, Bl W2 wy → wy.cell? ⟨w.heap.size, 1, none⟩ = some (.int .i64 X.n) := fun wy h => c1 _ (unhide HBW2 _ h)
    have x2 : ∀ wy, Bl W2 wy → wy.cell? ⟨w.heap.size, 2, none⟩ = some (.slice xa X.rows.length xc) := fun wy h => c2 _ (unhide HBW2 _ h)
    have HS7 : Hid (∀ wy, Bl W2 wy → StAt wy (.agg #[.int .i64 X.kind, .int .i64 X.n, .slice a7 X.rows.length c7]) X) := fun wy h => ⟨_, rfl, ((unhide HR7).later hl2).later h.low⟩
    have HSA1 := hide (fun (wy : World) (h : Bl W2 wy) => vsame_any (unhide HS7 wy h) (unhide HSX wy (unhide HBW2 _ h)))
    have HSA2 := hide (fun (wy : World) (h : Bl W2 wy) => vsame_any (unhide HSX wy (unhide HBW2 _ h)) (unhide HS7 wy h))
    rw [unhide HAL] at HSA1 HSA2
    have HTX2 := hide (fun (wy : World) (h : Bl W2 wy) => unhide HTX wy (unhide HBW2 _ h))
    have HTO2 := hide (fun (wy : World) (h : Bl W2 wy) => unhide HTO wy (unhide HBW2 _ h))
    have HLOW2 := hide (fun (wy : World) (h : Bl W2 wy) => unhide HLOW wy (unhide HBW2 _ h))
    have hst2 : Bl W2 W2.drew := (Below.refl _ _).drew
    have HW2 := hide hW2
    clear hx2 hlt2 hl2 hW2 HR7 HS7 HB7 HBW2 HTX HTO HLOW HSX c0 c1 c2 HCK HRC hst
    go_wp2_with fail
    rw [← hZ, unhide HW2]
    clear HW2 hZ
    go_region_held3 (fun w' => Bl W2 w') (with_reducible (first | exact hst2 | (refine Bl.below ?_ (by assumption) <;> assumption)))
      (first
        | (go_at_call 16; refine (unhide HTX2 _ (by assumption)).mono ?_; rintro e wa2 ⟨rfl, hba2⟩)
        | (go_at_call 14; refine (unhide HTO2 _ (by assumption)).mono ?_; rintro e wt2 ⟨vt2, rfl, hot2, hbt2⟩; obtain ⟨kt2, rfl, hrt2⟩ := hot2; obtain ⟨ta2, tc2, rfl, _⟩ := ownsRow_slice hrt2; have HT2 := hide (Row2.of_own hrt2); clear hrt2)
        | (go_at_call 17; refine (unhide HRT _ _ ⟨_, rfl, unhide HT2⟩).mono ?_; rintro e wr2 ⟨rfl, hbr2⟩)
        | (go_at_call 18; have hq9 := hbs1; clear hq9; refine (unhide HSA2 _ (by assumption)).mono ?_; rintro e ws2 ⟨rfl, hbs2⟩)
        | (go_at_call 18; refine (unhide HSA1 _ (by assumption)).mono ?_; rintro e ws1 ⟨rfl, hbs1⟩)
        | fail)
    all_goals
      have HFIN := hide (unhide HLOW2 _ (by assumption))
      go_wp2_with fail
      go_ret
      exact ⟨rfl, unhide HFIN⟩

theorem valueTexts_walk {H : Type} {enc : TypeId × Value → H} {base b0 : Nat} {spare : Nat → Bool} {held : Bool} {r : Reach} {v : Value} {d : DataW H} {p : List MemPlace} (w : World)
    (hv : Value.okWide Tryd.prog w r b0 24 v) (hd : DataW.Trod enc Tryd.prog w base spare held 24 v d p) (td : Bool) (hw : WD w) :
    Calls Tryd.prog 3 #[v, .bool td] w fun e w' => e = .returned (.bool true) ∧ Below w.heap.size w w' := by
  obtain ⟨s, hs, hk, hn, hz⟩ := open_state hv hd
  exact texts_any hs hk hn hz td hw
end Go.Proofs.YtgeibmlhmljhpaaDoor
