/- Texts that this proof needs, one behind the other: TRApply, TROwn. -/
import Derived.Test.YteaiidcconggcaaDoorBundleT9
/- The contract of the document's Apply. -/
namespace Go.Proofs.YteaiidcconggcaaDoor
open Go.RowKit
set_option linter.unusedVariables false
set_option maxRecDepth 100000

theorem own_one (w : World) (base : Nat) (a b : Value) (e : TypeId) (hb : base ≤ w.heap.size) : (w.alloc (.cells #[a, b] e)).ownsRow base e 2 (.slice (some ⟨w.heap.size, 0, none⟩) 1 1) 1 [a, b] :=
  ⟨rfl, Or.inr ⟨w.heap.size, 1, #[a, b], rfl, hb, heap_alloc_new w _, Nat.le_refl _, by simp [maxLen], rfl, rfl⟩⟩
set_option maxHeartbeats 51200000 in
theorem rapply_eq {w : World} {v : Value} {s : VS} {c : MC} (h : StAt w v s) (hs : s.rows.length ≤ 1000) (hop : okOp c.op) (hcb : c.op ≠ 11 → c.b = []) (hf : s.fit) (r : MR) (hk : (mfact c.op).kind = s.kind) :
    Calls Tryd.prog 37 #[v, mcV c, mrV r] w fun e w' => ∃ v', e = .returned v' ∧ (StOwn w.heap.size 77 w' v' (apply2 s c r) ∨ (v' = v ∧ apply2 s c r = s)) ∧ Below w.heap.size w w' := by
  have HKI := hide (fun (w1 : World) => rkind_any (w := w1) c.op hop)
  have HCH := hide (fun (w1 : World) => rchanges_any (w := w1) c r)
  have HWI := hide (fun (w1 : World) (hb : Below w.heap.size w w1) (x : List UInt8 × List UInt8) => rwith_any (h.later hb) hs x)
  have HGO := hide (fun (w1 : World) (hb : Below w.heap.size w w1) (t : List UInt8) => rgone_any (h.later hb) hs t)
  have HOPE := hide (fun (hch : mchanges c.op c.n r.code = true) => apply_op (put := VS.rwith) hk hch)
  have HNOT := hide (fun (hch : mchanges c.op c.n r.code = false) => apply_not (put := VS.rwith) (s := s) hch)
  unfold apply2
  rw [hk] at HKI
  obtain ⟨op, ca, cb, cn⟩ := c
  obtain ⟨y1, y2, y3⟩ := r
  unfold mcV mrV at *
  dsimp only at *
  have e0 : (s.kind != s.kind) = false := by simp
  obtain ⟨X, hX⟩ : ∃ X, mchanges op cn y1 = X := ⟨_, rfl⟩
  have HX := hide hX
  rw [hX] at HCH HOPE HNOT
  clear hX
  cases X
  · rw [unhide HNOT rfl]
    clear HNOT HOPE HWI HGO hk HX hf hcb
    obtain ⟨k0, rfl, hr⟩ := h
    obtain ⟨a, cc, rfl, hcc, hmm⟩ := hr.shape
    obtain ⟨kd, n, rows⟩ := s
    dsimp only at *
    obtain ⟨A, hA⟩ : ∃ A : Obj, A = .cells #[.int .i64 kd, .int .i64 n, .slice a rows.length cc] 38 (0, 0) := ⟨_, rfl⟩
    obtain ⟨B, hB⟩ : ∃ B : Obj, B = .cells #[.int .i64 op, .string (S ca), .string (S cb), .int .i64 cn] 29 (0, 0) := ⟨_, rfl⟩
    obtain ⟨C, hC⟩ : ∃ C : Obj, C = .cells #[.int .i64 y1, .string (S y2), .int .i64 y3] 30 (0, 0) := ⟨_, rfl⟩
    obtain ⟨c0, c1, c2, k0, k1, k2, k3, r0, r1, r2⟩ := B4.scr (w := w) (D := .cells #[.int .i64 0, .int .i64 0, .slice none 0 0] 38 (0, 0)) hA hB hC
    have hst := B4.start w A B C (.cells #[.int .i64 0, .int .i64 0, .slice none 0 0] 38 (0, 0))
    have hstd := hst.drew
    clear hr hs hop
    go_enter Tryd.func37, Tryd.ntmps37
    go_wp2_with fail
    rw [← hA, ← hB, ← hC]
    clear hA hB hC
    refine wp_region_held_drew (S := fun w' => B4 w A B C (.cells #[.int .i64 0, .int .i64 0, .slice none 0 0] 38 (0, 0)) w') (by kernel_rfl) ?_ (fun hHeld => ?_)
    · exact hstd
    refine wpAnyH_take (i := 0) (oi := { dst := some 7, op := _, type := _, pos := _, after := _, guard := _ }) (v := ?_) rfl (by kernel_rfl) (by kernel_rfl) (by kernel_rfl) (fun _ _ _ h => h) (Or.inl ⟨by kernel_rfl, ?_⟩) (by assumption) ?_
    rotate_left
    · intro w hSw; (try dsimp only at hSw); go_simp; try (with_reducible rfl)
    try simp only [Act.put, List.setIfInBounds_toArray, List.set_cons_zero, List.set_cons_succ]
    refine wpAnyH_take (i := 1) (oi := { dst := some 8, op := _, type := _, pos := _, after := _, guard := _ }) (v := ?_) rfl (by kernel_rfl) (by kernel_rfl) (by kernel_rfl) (fun _ _ _ h => h) (Or.inl ⟨by kernel_rfl, ?_⟩) (by assumption) ?_
    rotate_left
    · intro w hSw; (try dsimp only at hSw); go_simp; try (with_reducible rfl)
    try simp only [Act.put, List.setIfInBounds_toArray, List.set_cons_zero, List.set_cons_succ]
    refine wpAnyH_ready (rs := [2]) (by kernel_rfl) (by simp) ?_
    refine AllReadyH.cons rfl (fun K hK => ?_) AllReadyH.nil
    go_simp
    (go_at_call 56; refine (unhide HCH _).mono ?_; rintro e wn ⟨rfl, hbn⟩)
    refine hK.out _ _ ?_ (fun hHeld => ?_)
    · exact B4.below (by assumption) hbn
    clear hK K
    try simp only [Act.put, List.setIfInBounds_toArray, List.set_cons_zero, List.set_cons_succ]
    refine wpAnyH_take (i := 3) (oi := { dst := some 10, op := _, type := _, pos := _, after := _, guard := _ }) (v := ?_) rfl (by kernel_rfl) (by kernel_rfl) (by kernel_rfl) (fun _ _ _ h => h) (Or.inl ⟨by kernel_rfl, ?_⟩) (by assumption) ?_
    rotate_left
    · intro w hSw; (try dsimp only at hSw); go_simp; try (with_reducible rfl)
    try simp only [Act.put, List.setIfInBounds_toArray, List.set_cons_zero, List.set_cons_succ]
    refine wpAnyH_take (i := 4) (oi := { dst := some 11, op := _, type := _, pos := _, after := _, guard := _ }) (v := ?_) rfl (by kernel_rfl) (by kernel_rfl) (by kernel_rfl) (fun _ _ _ h => h) (Or.inl ⟨by kernel_rfl, ?_⟩) (by assumption) ?_
    rotate_left
    · intro w hSw; (try dsimp only at hSw); go_simp; try (with_reducible rfl)
    try simp only [Act.put, List.setIfInBounds_toArray, List.set_cons_zero, List.set_cons_succ]
    refine wpAnyH_take (i := 5) (oi := { dst := some 12, op := _, type := _, pos := _, after := _, guard := _ }) (v := undef) rfl (by kernel_rfl) (by kernel_rfl) (by kernel_rfl) (fun _ _ _ h => h) (Or.inr ⟨by kernel_rfl, rfl⟩) (by assumption) ?_
    try simp only [Act.put, List.setIfInBounds_toArray, List.set_cons_zero, List.set_cons_succ]
    refine wpAnyH_take (i := 6) (oi := { dst := some 13, op := _, type := _, pos := _, after := _, guard := _ }) (v := undef) rfl (by kernel_rfl) (by kernel_rfl) (by kernel_rfl) (fun _ _ _ h => h) (Or.inr ⟨by kernel_rfl, rfl⟩) (by assumption) ?_
    try simp only [Act.put, List.setIfInBounds_toArray, List.set_cons_zero, List.set_cons_succ]
    refine wpAnyH_take (i := 7) (oi := { dst := some 14, op := _, type := _, pos := _, after := _, guard := _ }) (v := undef) rfl (by kernel_rfl) (by kernel_rfl) (by kernel_rfl) (fun _ _ _ h => h) (Or.inr ⟨by kernel_rfl, rfl⟩) (by assumption) ?_
    try simp only [Act.put, List.setIfInBounds_toArray, List.set_cons_zero, List.set_cons_succ]
    refine wpAnyH_take (i := 8) (oi := { dst := some 15, op := _, type := _, pos := _, after := _, guard := _ }) (v := undef) rfl (by kernel_rfl) (by kernel_rfl) (by kernel_rfl) (fun _ _ _ h => h) (Or.inr ⟨by kernel_rfl, rfl⟩) (by assumption) ?_
    try simp only [Act.put, List.setIfInBounds_toArray, List.set_cons_zero, List.set_cons_succ]
    refine wpAnyH_take (i := 9) (oi := { dst := some 16, op := _, type := _, pos := _, after := _, guard := _ }) (v := undef) rfl (by kernel_rfl) (by kernel_rfl) (by kernel_rfl) (fun _ _ _ h => h) (Or.inr ⟨by kernel_rfl, rfl⟩) (by assumption) ?_
    try simp only [Act.put, List.setIfInBounds_toArray, List.set_cons_zero, List.set_cons_succ]
    refine wpAnyH_take (i := 10) (oi := { dst := some 17, op := _, type := _, pos := _, after := _, guard := _ }) (v := undef) rfl (by kernel_rfl) (by kernel_rfl) (by kernel_rfl) (fun _ _ _ h => h) (Or.inr ⟨by kernel_rfl, rfl⟩) (by assumption) ?_
    try simp only [Act.put, List.setIfInBounds_toArray, List.set_cons_zero, List.set_cons_succ]
    refine wpAnyH_take (i := 11) (oi := { dst := some 18, op := _, type := _, pos := _, after := _, guard := _ }) (v := ?_) rfl (by kernel_rfl) (by kernel_rfl) (by kernel_rfl) (fun _ _ _ h => h) (Or.inl ⟨by kernel_rfl, ?_⟩) (by assumption) ?_
    rotate_left
    · intro w hSw; (try dsimp only at hSw); go_simp; try (with_reducible rfl)
    try simp only [Act.put, List.setIfInBounds_toArray, List.set_cons_zero, List.set_cons_succ]
    refine wpAnyH_done (by kernel_rfl) ?_ _
    have hx0 : B4 w A B C (.cells #[.int .i64 0, .int .i64 0, .slice none 0 0] 38 (0, 0)) wn := by assumption
    clear hbn hst hstd HKI HCH
    obtain ⟨z0, z1, z2, zl, zo, y0, y1, y2, f1⟩ := hx0.give (.int .i64 kd) (.int .i64 n) (.slice a rows.length cc)
    unfold put3 at z0 z1 z2 zl
    have ZL := hide zl
    have s0 := c0 _ hx0
    have s1 := c1 _ hx0
    have s2 := c2 _ hx0
    clear zo zl
    go_wp2_with fail
    exact bodyPost_ret (v := .agg #[.int .i64 kd, .int .i64 n, .slice a rows.length cc]) (by simp [results, Tryd.results37, go_sem, z0, z1, z2]) rfl ⟨_, rfl, Or.inr (by simp), unhide ZL⟩
  · rw [unhide HOPE rfl]
    clear HNOT HOPE
    have HK := hide hk
    rcases no_change hop (unhide HX) with rfl | rfl | rfl | rfl | rfl | rfl | rfl | rfl | rfl | rfl | rfl | rfl
    · rw [if_pos rfl]
      have hk1 : s.kind = 1 := by rw [← unhide HK]; decide
      have hn0 := hf.zero hk1
      have he := S_isEmpty ca
      by_cases hca : ca = []
      · subst hca
        rw [if_pos rfl]
        have het : (S []).toList.isEmpty = true := by rw [S_isEmpty]; rfl
        rw [hk1, hn0]
        obtain ⟨A1, hA1⟩ : ∃ z : VS, (⟨1, 0, []⟩ : VS) = z := ⟨_, rfl⟩
        have HRES : Hid (A1 = ⟨1, 0, []⟩) := hA1.symm
        rw [hA1]
        clear hA1 he
        clear HWI HGO hk HX HK hf hcb
        obtain ⟨k0, rfl, hr⟩ := h
        obtain ⟨a, cc, rfl, hcc, hmm⟩ := hr.shape
        obtain ⟨kd, n, rows⟩ := s
        dsimp only at *
        obtain ⟨A, hA⟩ : ∃ A : Obj, A = .cells #[.int .i64 kd, .int .i64 n, .slice a rows.length cc] 38 (0, 0) := ⟨_, rfl⟩
        obtain ⟨B, hB⟩ : ∃ B : Obj, B = .cells #[.int .i64 2, .string (S []), .string (S cb), .int .i64 cn] 29 (0, 0) := ⟨_, rfl⟩
        obtain ⟨C, hC⟩ : ∃ C : Obj, C = .cells #[.int .i64 y1, .string (S y2), .int .i64 y3] 30 (0, 0) := ⟨_, rfl⟩
        obtain ⟨c0, c1, c2, k0, k1, k2, k3, r0, r1, r2⟩ := B4.scr (w := w) (D := .cells #[.int .i64 0, .int .i64 0, .slice none 0 0] 38 (0, 0)) hA hB hC
        have hst := B4.start w A B C (.cells #[.int .i64 0, .int .i64 0, .slice none 0 0] 38 (0, 0))
        have hstd := hst.drew
        clear hr hs hop hk1 hn0
        go_enter Tryd.func37, Tryd.ntmps37
        go_wp2_with fail
        rw [← hA, ← hB, ← hC]
        clear hA hB hC
        go_region_held3 (fun w' => B4 w A B C (.cells #[.int .i64 0, .int .i64 0, .slice none 0 0] 38 (0, 0)) w') (with_reducible (first | exact hstd | exact hst | (refine B4.below ?_ (by assumption) <;> assumption)))
          (first | (go_at_call 56; refine (unhide HCH _).mono ?_; rintro e wm ⟨rfl, hbm⟩) | (go_at_call 11; refine (unhide HKI _).mono ?_; rintro e wn ⟨rfl, hbn⟩) | fail)
        have hx0 : B4 w A B C (.cells #[.int .i64 0, .int .i64 0, .slice none 0 0] 38 (0, 0)) wn := by assumption
        clear hbm hbn hst hstd HKI HCH
        obtain ⟨z0, z1, z2, zl, zo, y0, y1, y2, f1⟩ := hx0.give (.int .i64 1) (.int .i64 0) (.slice none 0 0)
        unfold put3 at z0 z1 z2 zl
        have ZL := hide zl
        clear zo zl
        go_wp2_with fail
        exact bodyPost_ret (v := .agg #[.int .i64 1, .int .i64 0, .slice none 0 0]) (by simp [results, Tryd.results37, go_sem, z0, z1, z2]) rfl ⟨_, rfl, Or.inl (by rw [unhide HRES]; exact ⟨_, rfl, World.ownsRow_nil _ _ _ _⟩), unhide ZL⟩
      · rw [if_neg hca]
        have het : (S ca).toList.isEmpty = false := by rw [S_isEmpty]; cases ca <;> simp_all
        have het2 : ca.isEmpty = false := by cases ca <;> simp_all
        rw [hk1, hn0]
        obtain ⟨A1, hA1⟩ : ∃ z : VS, (VS.rwith ⟨1, 0, []⟩ (ca, [])) = z := ⟨_, rfl⟩
        have HRES : Hid (A1 = ⟨1, 0, [(ca, [])]⟩) := hA1.symm
        rw [hA1]
        clear hA1 he
        clear HWI HGO hk HX HK hf hcb
        obtain ⟨k0, rfl, hr⟩ := h
        obtain ⟨a, cc, rfl, hcc, hmm⟩ := hr.shape
        obtain ⟨kd, n, rows⟩ := s
        dsimp only at *
        obtain ⟨A, hA⟩ : ∃ A : Obj, A = .cells #[.int .i64 kd, .int .i64 n, .slice a rows.length cc] 38 (0, 0) := ⟨_, rfl⟩
        obtain ⟨B, hB⟩ : ∃ B : Obj, B = .cells #[.int .i64 2, .string (S ca), .string (S cb), .int .i64 cn] 29 (0, 0) := ⟨_, rfl⟩
        obtain ⟨C, hC⟩ : ∃ C : Obj, C = .cells #[.int .i64 y1, .string (S y2), .int .i64 y3] 30 (0, 0) := ⟨_, rfl⟩
        obtain ⟨c0, c1, c2, k0, k1, k2, k3, r0, r1, r2⟩ := B4.scr (w := w) (D := .cells #[.int .i64 0, .int .i64 0, .slice none 0 0] 38 (0, 0)) hA hB hC
        have hst := B4.start w A B C (.cells #[.int .i64 0, .int .i64 0, .slice none 0 0] 38 (0, 0))
        have hstd := hst.drew
        clear hr hs hop hk1 hn0
        go_enter Tryd.func37, Tryd.ntmps37
        go_wp2_with fail
        rw [← hA, ← hB, ← hC]
        clear hA hB hC
        go_region_held3 (fun w' => B4 w A B C (.cells #[.int .i64 0, .int .i64 0, .slice none 0 0] 38 (0, 0)) w') (with_reducible (first | exact hstd | exact hst | (refine B4.below ?_ (by assumption) <;> assumption)))
          (first | (go_at_call 56; refine (unhide HCH _).mono ?_; rintro e wm ⟨rfl, hbm⟩) | (go_at_call 11; refine (unhide HKI _).mono ?_; rintro e wn ⟨rfl, hbn⟩) | fail)
        have hx0 : B4 w A B C (.cells #[.int .i64 0, .int .i64 0, .slice none 0 0] 38 (0, 0)) wn := by assumption
        clear hbm hbn hst hstd HKI HCH
        obtain ⟨z0, z1, z2, zl, zo, y0, y1, y2, f1⟩ := (hx0.below (under_box (.cells #[.string (S ca), .string ⟨#[]⟩] 77))).give (.int .i64 1) (.int .i64 0) (.slice (some ⟨wn.heap.size, 0, none⟩) 1 1)
        have ZO := hide (zo _ _ _ _ _ _ hx0.size (own_one wn wn.heap.size (.string (S ca)) (.string ⟨#[]⟩) 77 (Nat.le_refl _)))
        unfold put3 at z0 z1 z2 zl ZO
        have ZL := hide zl
        clear zo zl
        go_wp2_with fail
        exact bodyPost_ret (v := .agg #[.int .i64 1, .int .i64 0, .slice (some ⟨wn.heap.size, 0, none⟩) 1 1]) (by simp [results, Tryd.results37, go_sem, z0, z1, z2]) rfl ⟨_, rfl, Or.inl (by rw [unhide HRES]; exact ⟨_, rfl, unhide ZO⟩), unhide ZL⟩
    · rw [if_neg (by decide), if_pos (by decide)]
      have hk1 : s.kind = 2 := by rw [← unhide HK]; decide
      have hro := hf.bare (Or.inl hk1)
      obtain ⟨q, hq⟩ : ∃ q, wrap64 (s.n + cn) = q := ⟨_, rfl⟩
      have HQ := hide (wrap_eq hq)
      rw [hq, hro]
      clear HWI HGO hk HX HK hf hcb hq hro hk1
      obtain ⟨k0, rfl, hr⟩ := h
      obtain ⟨a, cc, rfl, hcc, hmm⟩ := hr.shape
      obtain ⟨kd, n, rows⟩ := s
      dsimp only at *
      obtain ⟨A, hA⟩ : ∃ A : Obj, A = .cells #[.int .i64 kd, .int .i64 n, .slice a rows.length cc] 38 (0, 0) := ⟨_, rfl⟩
      obtain ⟨B, hB⟩ : ∃ B : Obj, B = .cells #[.int .i64 3, .string (S ca), .string (S cb), .int .i64 cn] 29 (0, 0) := ⟨_, rfl⟩
      obtain ⟨C, hC⟩ : ∃ C : Obj, C = .cells #[.int .i64 y1, .string (S y2), .int .i64 y3] 30 (0, 0) := ⟨_, rfl⟩
      obtain ⟨c0, c1, c2, k0, k1, k2, k3, r0, r1, r2⟩ := B4.scr (w := w) (D := .cells #[.int .i64 0, .int .i64 0, .slice none 0 0] 38 (0, 0)) hA hB hC
      have hst := B4.start w A B C (.cells #[.int .i64 0, .int .i64 0, .slice none 0 0] 38 (0, 0))
      have hstd := hst.drew
      clear hr hs hop
      go_enter Tryd.func37, Tryd.ntmps37
      go_wp2_with fail
      rw [← hA, ← hB, ← hC]
      clear hA hB hC
      go_region_held3 (fun w' => B4 w A B C (.cells #[.int .i64 0, .int .i64 0, .slice none 0 0] 38 (0, 0)) w') (with_reducible (first | exact hstd | exact hst | (refine B4.below ?_ (by assumption) <;> assumption)))
        (first | (go_at_call 56; refine (unhide HCH _).mono ?_; rintro e wm ⟨rfl, hbm⟩) | (go_at_call 11; refine (unhide HKI _).mono ?_; rintro e wn ⟨rfl, hbn⟩) | fail)
      have hx0 : B4 w A B C (.cells #[.int .i64 0, .int .i64 0, .slice none 0 0] 38 (0, 0)) wn := by assumption
      clear hbm hbn hst hstd HKI HCH
      have hq := unhide HQ
      clear HQ
      obtain ⟨z0, z1, z2, zl, zo, y0, y1, y2, f1⟩ := hx0.give (.int .i64 kd) (.int .i64 q) (.slice none 0 0)
      unfold put3 at z0 z1 z2 zl
      have ZL := hide zl
      clear zo zl
      go_wp2_with fail
      exact bodyPost_ret (v := .agg #[.int .i64 kd, .int .i64 q, .slice none 0 0]) (by simp [results, Tryd.results37, go_sem, z0, z1, z2]) rfl ⟨_, rfl, Or.inl ⟨_, rfl, World.ownsRow_nil _ _ _ _⟩, unhide ZL⟩
    · rw [if_neg (by decide), if_pos (by decide)]
      have hk1 : s.kind = 3 := by rw [← unhide HK]; decide
      have hro := hf.bare (Or.inr hk1)
      obtain ⟨q, hq⟩ : ∃ q, wrap64 (s.n + cn) = q := ⟨_, rfl⟩
      have HQ := hide (wrap_eq hq)
      rw [hq, hro]
      clear HWI HGO hk HX HK hf hcb hq hro hk1
      obtain ⟨k0, rfl, hr⟩ := h
      obtain ⟨a, cc, rfl, hcc, hmm⟩ := hr.shape
      obtain ⟨kd, n, rows⟩ := s
      dsimp only at *
      obtain ⟨A, hA⟩ : ∃ A : Obj, A = .cells #[.int .i64 kd, .int .i64 n, .slice a rows.length cc] 38 (0, 0) := ⟨_, rfl⟩
      obtain ⟨B, hB⟩ : ∃ B : Obj, B = .cells #[.int .i64 5, .string (S ca), .string (S cb), .int .i64 cn] 29 (0, 0) := ⟨_, rfl⟩
      obtain ⟨C, hC⟩ : ∃ C : Obj, C = .cells #[.int .i64 y1, .string (S y2), .int .i64 y3] 30 (0, 0) := ⟨_, rfl⟩
      obtain ⟨c0, c1, c2, k0, k1, k2, k3, r0, r1, r2⟩ := B4.scr (w := w) (D := .cells #[.int .i64 0, .int .i64 0, .slice none 0 0] 38 (0, 0)) hA hB hC
      have hst := B4.start w A B C (.cells #[.int .i64 0, .int .i64 0, .slice none 0 0] 38 (0, 0))
      have hstd := hst.drew
      clear hr hs hop
      go_enter Tryd.func37, Tryd.ntmps37
      go_wp2_with fail
      rw [← hA, ← hB, ← hC]
      clear hA hB hC
      go_region_held3 (fun w' => B4 w A B C (.cells #[.int .i64 0, .int .i64 0, .slice none 0 0] 38 (0, 0)) w') (with_reducible (first | exact hstd | exact hst | (refine B4.below ?_ (by assumption) <;> assumption)))
        (first | (go_at_call 56; refine (unhide HCH _).mono ?_; rintro e wm ⟨rfl, hbm⟩) | (go_at_call 11; refine (unhide HKI _).mono ?_; rintro e wn ⟨rfl, hbn⟩) | fail)
      have hx0 : B4 w A B C (.cells #[.int .i64 0, .int .i64 0, .slice none 0 0] 38 (0, 0)) wn := by assumption
      clear hbm hbn hst hstd HKI HCH
      have hq := unhide HQ
      clear HQ
      obtain ⟨z0, z1, z2, zl, zo, y0, y1, y2, f1⟩ := hx0.give (.int .i64 kd) (.int .i64 q) (.slice none 0 0)
      unfold put3 at z0 z1 z2 zl
      have ZL := hide zl
      clear zo zl
      go_wp2_with fail
      exact bodyPost_ret (v := .agg #[.int .i64 kd, .int .i64 q, .slice none 0 0]) (by simp [results, Tryd.results37, go_sem, z0, z1, z2]) rfl ⟨_, rfl, Or.inl ⟨_, rfl, World.ownsRow_nil _ _ _ _⟩, unhide ZL⟩
    · rw [if_neg (by decide), if_neg (by decide), if_pos rfl]
      have hk1 : s.kind = 3 := by rw [← unhide HK]; decide
      have hro := hf.bare (Or.inr hk1)
      obtain ⟨q, hq⟩ : ∃ q, wrap64 (s.n - cn) = q := ⟨_, rfl⟩
      have HQ := hide (wrap_eq hq)
      rw [hq, hro]
      clear HWI HGO hk HX HK hf hcb hq hro hk1
      obtain ⟨k0, rfl, hr⟩ := h
      obtain ⟨a, cc, rfl, hcc, hmm⟩ := hr.shape
      obtain ⟨kd, n, rows⟩ := s
      dsimp only at *
      obtain ⟨A, hA⟩ : ∃ A : Obj, A = .cells #[.int .i64 kd, .int .i64 n, .slice a rows.length cc] 38 (0, 0) := ⟨_, rfl⟩
      obtain ⟨B, hB⟩ : ∃ B : Obj, B = .cells #[.int .i64 6, .string (S ca), .string (S cb), .int .i64 cn] 29 (0, 0) := ⟨_, rfl⟩
      obtain ⟨C, hC⟩ : ∃ C : Obj, C = .cells #[.int .i64 y1, .string (S y2), .int .i64 y3] 30 (0, 0) := ⟨_, rfl⟩
      obtain ⟨c0, c1, c2, k0, k1, k2, k3, r0, r1, r2⟩ := B4.scr (w := w) (D := .cells #[.int .i64 0, .int .i64 0, .slice none 0 0] 38 (0, 0)) hA hB hC
      have hst := B4.start w A B C (.cells #[.int .i64 0, .int .i64 0, .slice none 0 0] 38 (0, 0))
      have hstd := hst.drew
      clear hr hs hop
      go_enter Tryd.func37, Tryd.ntmps37
      go_wp2_with fail
      rw [← hA, ← hB, ← hC]
      clear hA hB hC
      go_region_held3 (fun w' => B4 w A B C (.cells #[.int .i64 0, .int .i64 0, .slice none 0 0] 38 (0, 0)) w') (with_reducible (first | exact hstd | exact hst | (refine B4.below ?_ (by assumption) <;> assumption)))
        (first | (go_at_call 56; refine (unhide HCH _).mono ?_; rintro e wm ⟨rfl, hbm⟩) | (go_at_call 11; refine (unhide HKI _).mono ?_; rintro e wn ⟨rfl, hbn⟩) | fail)
      have hx0 : B4 w A B C (.cells #[.int .i64 0, .int .i64 0, .slice none 0 0] 38 (0, 0)) wn := by assumption
      clear hbm hbn hst hstd HKI HCH
      have hq := unhide HQ
      clear HQ
      obtain ⟨z0, z1, z2, zl, zo, y0, y1, y2, f1⟩ := hx0.give (.int .i64 kd) (.int .i64 q) (.slice none 0 0)
      unfold put3 at z0 z1 z2 zl
      have ZL := hide zl
      clear zo zl
      go_wp2_with fail
      exact bodyPost_ret (v := .agg #[.int .i64 kd, .int .i64 q, .slice none 0 0]) (by simp [results, Tryd.results37, go_sem, z0, z1, z2]) rfl ⟨_, rfl, Or.inl ⟨_, rfl, World.ownsRow_nil _ _ _ _⟩, unhide ZL⟩
    · rw [if_neg (by decide), if_neg (by decide), if_neg (by decide), if_pos (by decide)]
      have hb0 := hcb (by decide)
      subst hb0
      have HC2 : Hid (∀ (w1 : World) (hb : Below w.heap.size w w1), Calls Tryd.prog 55 #[v, .agg #[.string (S ca), .string ⟨#[]⟩]] w1 fun e w' => ∃ v', e = .returned v' ∧ StOwn w1.heap.size 77 w' v' (s.rwith (ca, [])) ∧ Below w1.heap.size w1 w') := fun w1 hb => unhide HWI w1 hb (ca, [])
      generalize s.rwith (ca, []) = y at *
      clear HWI HGO hk HX HK hf hcb
      obtain ⟨k0, rfl, hr⟩ := h
      obtain ⟨a, cc, rfl, hcc, hmm⟩ := hr.shape
      obtain ⟨kd, n, rows⟩ := s
      dsimp only at *
      obtain ⟨A, hA⟩ : ∃ A : Obj, A = .cells #[.int .i64 kd, .int .i64 n, .slice a rows.length cc] 38 (0, 0) := ⟨_, rfl⟩
      obtain ⟨B, hB⟩ : ∃ B : Obj, B = .cells #[.int .i64 8, .string (S ca), .string (S []), .int .i64 cn] 29 (0, 0) := ⟨_, rfl⟩
      obtain ⟨C, hC⟩ : ∃ C : Obj, C = .cells #[.int .i64 y1, .string (S y2), .int .i64 y3] 30 (0, 0) := ⟨_, rfl⟩
      obtain ⟨c0, c1, c2, k0, k1, k2, k3, r0, r1, r2⟩ := B4.scr (w := w) (D := .cells #[.int .i64 0, .int .i64 0, .slice none 0 0] 38 (0, 0)) hA hB hC
      have hst := B4.start w A B C (.cells #[.int .i64 0, .int .i64 0, .slice none 0 0] 38 (0, 0))
      have hstd := hst.drew
      clear hr hs hop
      go_enter Tryd.func37, Tryd.ntmps37
      go_wp2_with fail
      rw [← hA, ← hB, ← hC]
      clear hA hB hC
      go_region_held3 (fun w' => B4 w A B C (.cells #[.int .i64 0, .int .i64 0, .slice none 0 0] 38 (0, 0)) w') (with_reducible (first | exact hstd | exact hst | (refine B4.below ?_ (by assumption) <;> assumption)))
        (first | (go_at_call 56; refine (unhide HCH _).mono ?_; rintro e wm ⟨rfl, hbm⟩) | (go_at_call 11; refine (unhide HKI _).mono ?_; rintro e wn ⟨rfl, hbn⟩) | fail)
      have hx0 : B4 w A B C (.cells #[.int .i64 0, .int .i64 0, .slice none 0 0] 38 (0, 0)) wn := by assumption
      clear hbm hbn hst hstd HKI HCH
      go_wp2_with fail
      refine (unhide HC2 _ hx0.low).mono ?_
      rintro e w2 ⟨v2, rfl, ⟨k2, rfl, ho⟩, hb⟩
      obtain ⟨ka, kc, rfl, _⟩ := ownsRow_slice ho
      have hx2 := hx0.below hb
      obtain ⟨z0, z1, z2, zl, zo, y0, y1, y2, f1⟩ := hx2.give (.int .i64 y.kind) (.int .i64 y.n) (.slice ka y.rows.length kc)
      have ZO := hide (zo _ _ _ _ _ _ (by have := hx0.size; omega) ho)
      unfold put3 at z0 z1 z2 zl ZO
      have ZL := hide zl
      clear hx2 hb ho zo zl hx0
      go_wp2_with fail
      exact bodyPost_ret (v := .agg #[.int .i64 y.kind, .int .i64 y.n, .slice ka y.rows.length kc]) (by simp [results, Tryd.results37, go_sem, z0, z1, z2]) rfl ⟨_, rfl, Or.inl ⟨_, rfl, unhide ZO⟩, unhide ZL⟩
    · have HC2 := hide (fun (w1 : World) (hb : Below w.heap.size w w1) => unhide HGO w1 hb ca)
      rw [if_neg (by decide), if_neg (by decide), if_neg (by decide), if_neg (by decide), if_pos (by decide)]
      generalize s.gone ca = y at *
      clear HWI HGO hk HX HK hf hcb
      obtain ⟨k0, rfl, hr⟩ := h
      obtain ⟨a, cc, rfl, hcc, hmm⟩ := hr.shape
      obtain ⟨kd, n, rows⟩ := s
      dsimp only at *
      obtain ⟨A, hA⟩ : ∃ A : Obj, A = .cells #[.int .i64 kd, .int .i64 n, .slice a rows.length cc] 38 (0, 0) := ⟨_, rfl⟩
      obtain ⟨B, hB⟩ : ∃ B : Obj, B = .cells #[.int .i64 9, .string (S ca), .string (S cb), .int .i64 cn] 29 (0, 0) := ⟨_, rfl⟩
      obtain ⟨C, hC⟩ : ∃ C : Obj, C = .cells #[.int .i64 y1, .string (S y2), .int .i64 y3] 30 (0, 0) := ⟨_, rfl⟩
      obtain ⟨c0, c1, c2, k0, k1, k2, k3, r0, r1, r2⟩ := B4.scr (w := w) (D := .cells #[.int .i64 0, .int .i64 0, .slice none 0 0] 38 (0, 0)) hA hB hC
      have hst := B4.start w A B C (.cells #[.int .i64 0, .int .i64 0, .slice none 0 0] 38 (0, 0))
      have hstd := hst.drew
      clear hr hs hop
      go_enter Tryd.func37, Tryd.ntmps37
      go_wp2_with fail
      rw [← hA, ← hB, ← hC]
      clear hA hB hC
      go_region_held3 (fun w' => B4 w A B C (.cells #[.int .i64 0, .int .i64 0, .slice none 0 0] 38 (0, 0)) w') (with_reducible (first | exact hstd | exact hst | (refine B4.below ?_ (by assumption) <;> assumption)))
        (first | (go_at_call 56; refine (unhide HCH _).mono ?_; rintro e wm ⟨rfl, hbm⟩) | (go_at_call 11; refine (unhide HKI _).mono ?_; rintro e wn ⟨rfl, hbn⟩) | fail)
      have hx0 : B4 w A B C (.cells #[.int .i64 0, .int .i64 0, .slice none 0 0] 38 (0, 0)) wn := by assumption
      clear hbm hbn hst hstd HKI HCH
      go_wp2_with fail
      refine (unhide HC2 _ hx0.low).mono ?_
      rintro e w2 ⟨v2, rfl, hor, hb⟩
      rcases hor with ⟨k2, rfl, ho⟩ | ⟨rfl, hsame⟩
      · obtain ⟨ka, kc, rfl, _⟩ := ownsRow_slice ho
        have hx2 := hx0.below hb
        obtain ⟨z0, z1, z2, zl, zo, y0, y1, y2, f1⟩ := hx2.give (.int .i64 y.kind) (.int .i64 y.n) (.slice ka y.rows.length kc)
        have ZO := hide (zo _ _ _ _ _ _ (by have := hx0.size; omega) ho)
        unfold put3 at z0 z1 z2 zl ZO
        have ZL := hide zl
        clear hx2 hb ho zo zl hx0
        go_wp2_with fail
        exact bodyPost_ret (v := .agg #[.int .i64 y.kind, .int .i64 y.n, .slice ka y.rows.length kc]) (by simp [results, Tryd.results37, go_sem, z0, z1, z2]) rfl ⟨_, rfl, Or.inl ⟨_, rfl, unhide ZO⟩, unhide ZL⟩
      · have hx2 := hx0.below hb
        obtain ⟨z0, z1, z2, zl, zo, y0, y1, y2, f1⟩ := hx2.give (.int .i64 kd) (.int .i64 n) (.slice a rows.length cc)
        unfold put3 at z0 z1 z2 zl
        have ZL := hide zl
        have HSM := hide hsame
        clear hx2 hb zo zl hx0 hsame
        go_wp2_with fail
        exact bodyPost_ret (v := .agg #[.int .i64 kd, .int .i64 n, .slice a rows.length cc]) (by simp [results, Tryd.results37, go_sem, z0, z1, z2]) rfl ⟨_, rfl, Or.inr ⟨rfl, unhide HSM⟩, unhide ZL⟩
    · rw [if_neg (by decide), if_neg (by decide), if_neg (by decide), if_pos (by decide)]
      have HC2 := hide (fun (w1 : World) (hb : Below w.heap.size w w1) => unhide HWI w1 hb (ca, cb))
      generalize s.rwith (ca, cb) = y at *
      clear HWI HGO hk HX HK hf hcb
      obtain ⟨k0, rfl, hr⟩ := h
      obtain ⟨a, cc, rfl, hcc, hmm⟩ := hr.shape
      obtain ⟨kd, n, rows⟩ := s
      dsimp only at *
      obtain ⟨A, hA⟩ : ∃ A : Obj, A = .cells #[.int .i64 kd, .int .i64 n, .slice a rows.length cc] 38 (0, 0) := ⟨_, rfl⟩
      obtain ⟨B, hB⟩ : ∃ B : Obj, B = .cells #[.int .i64 11, .string (S ca), .string (S cb), .int .i64 cn] 29 (0, 0) := ⟨_, rfl⟩
      obtain ⟨C, hC⟩ : ∃ C : Obj, C = .cells #[.int .i64 y1, .string (S y2), .int .i64 y3] 30 (0, 0) := ⟨_, rfl⟩
      obtain ⟨c0, c1, c2, k0, k1, k2, k3, r0, r1, r2⟩ := B4.scr (w := w) (D := .cells #[.int .i64 0, .int .i64 0, .slice none 0 0] 38 (0, 0)) hA hB hC
      have hst := B4.start w A B C (.cells #[.int .i64 0, .int .i64 0, .slice none 0 0] 38 (0, 0))
      have hstd := hst.drew
      clear hr hs hop
      go_enter Tryd.func37, Tryd.ntmps37
      go_wp2_with fail
      rw [← hA, ← hB, ← hC]
      clear hA hB hC
      go_region_held3 (fun w' => B4 w A B C (.cells #[.int .i64 0, .int .i64 0, .slice none 0 0] 38 (0, 0)) w') (with_reducible (first | exact hstd | exact hst | (refine B4.below ?_ (by assumption) <;> assumption)))
        (first | (go_at_call 56; refine (unhide HCH _).mono ?_; rintro e wm ⟨rfl, hbm⟩) | (go_at_call 11; refine (unhide HKI _).mono ?_; rintro e wn ⟨rfl, hbn⟩) | fail)
      have hx0 : B4 w A B C (.cells #[.int .i64 0, .int .i64 0, .slice none 0 0] 38 (0, 0)) wn := by assumption
      clear hbm hbn hst hstd HKI HCH
      go_wp2_with fail
      refine (unhide HC2 _ hx0.low).mono ?_
      rintro e w2 ⟨v2, rfl, ⟨k2, rfl, ho⟩, hb⟩
      obtain ⟨ka, kc, rfl, _⟩ := ownsRow_slice ho
      have hx2 := hx0.below hb
      obtain ⟨z0, z1, z2, zl, zo, y0, y1, y2, f1⟩ := hx2.give (.int .i64 y.kind) (.int .i64 y.n) (.slice ka y.rows.length kc)
      have ZO := hide (zo _ _ _ _ _ _ (by have := hx0.size; omega) ho)
      unfold put3 at z0 z1 z2 zl ZO
      have ZL := hide zl
      clear hx2 hb ho zo zl hx0
      go_wp2_with fail
      exact bodyPost_ret (v := .agg #[.int .i64 y.kind, .int .i64 y.n, .slice ka y.rows.length kc]) (by simp [results, Tryd.results37, go_sem, z0, z1, z2]) rfl ⟨_, rfl, Or.inl ⟨_, rfl, unhide ZO⟩, unhide ZL⟩
    · have HC2 := hide (fun (w1 : World) (hb : Below w.heap.size w w1) => unhide HGO w1 hb ca)
      rw [if_neg (by decide), if_neg (by decide), if_neg (by decide), if_neg (by decide), if_pos (by decide)]
      generalize s.gone ca = y at *
      clear HWI HGO hk HX HK hf hcb
      obtain ⟨k0, rfl, hr⟩ := h
      obtain ⟨a, cc, rfl, hcc, hmm⟩ := hr.shape
      obtain ⟨kd, n, rows⟩ := s
      dsimp only at *
      obtain ⟨A, hA⟩ : ∃ A : Obj, A = .cells #[.int .i64 kd, .int .i64 n, .slice a rows.length cc] 38 (0, 0) := ⟨_, rfl⟩
      obtain ⟨B, hB⟩ : ∃ B : Obj, B = .cells #[.int .i64 12, .string (S ca), .string (S cb), .int .i64 cn] 29 (0, 0) := ⟨_, rfl⟩
      obtain ⟨C, hC⟩ : ∃ C : Obj, C = .cells #[.int .i64 y1, .string (S y2), .int .i64 y3] 30 (0, 0) := ⟨_, rfl⟩
      obtain ⟨c0, c1, c2, k0, k1, k2, k3, r0, r1, r2⟩ := B4.scr (w := w) (D := .cells #[.int .i64 0, .int .i64 0, .slice none 0 0] 38 (0, 0)) hA hB hC
      have hst := B4.start w A B C (.cells #[.int .i64 0, .int .i64 0, .slice none 0 0] 38 (0, 0))
      have hstd := hst.drew
      clear hr hs hop
      go_enter Tryd.func37, Tryd.ntmps37
      go_wp2_with fail
      rw [← hA, ← hB, ← hC]
      clear hA hB hC
      go_region_held3 (fun w' => B4 w A B C (.cells #[.int .i64 0, .int .i64 0, .slice none 0 0] 38 (0, 0)) w') (with_reducible (first | exact hstd | exact hst | (refine B4.below ?_ (by assumption) <;> assumption)))
        (first | (go_at_call 56; refine (unhide HCH _).mono ?_; rintro e wm ⟨rfl, hbm⟩) | (go_at_call 11; refine (unhide HKI _).mono ?_; rintro e wn ⟨rfl, hbn⟩) | fail)
      have hx0 : B4 w A B C (.cells #[.int .i64 0, .int .i64 0, .slice none 0 0] 38 (0, 0)) wn := by assumption
      clear hbm hbn hst hstd HKI HCH
      go_wp2_with fail
      refine (unhide HC2 _ hx0.low).mono ?_
      rintro e w2 ⟨v2, rfl, hor, hb⟩
      rcases hor with ⟨k2, rfl, ho⟩ | ⟨rfl, hsame⟩
      · obtain ⟨ka, kc, rfl, _⟩ := ownsRow_slice ho
        have hx2 := hx0.below hb
        obtain ⟨z0, z1, z2, zl, zo, y0, y1, y2, f1⟩ := hx2.give (.int .i64 y.kind) (.int .i64 y.n) (.slice ka y.rows.length kc)
        have ZO := hide (zo _ _ _ _ _ _ (by have := hx0.size; omega) ho)
        unfold put3 at z0 z1 z2 zl ZO
        have ZL := hide zl
        clear hx2 hb ho zo zl hx0
        go_wp2_with fail
        exact bodyPost_ret (v := .agg #[.int .i64 y.kind, .int .i64 y.n, .slice ka y.rows.length kc]) (by simp [results, Tryd.results37, go_sem, z0, z1, z2]) rfl ⟨_, rfl, Or.inl ⟨_, rfl, unhide ZO⟩, unhide ZL⟩
      · have hx2 := hx0.below hb
        obtain ⟨z0, z1, z2, zl, zo, y0, y1, y2, f1⟩ := hx2.give (.int .i64 kd) (.int .i64 n) (.slice a rows.length cc)
        unfold put3 at z0 z1 z2 zl
        have ZL := hide zl
        have HSM := hide hsame
        clear hx2 hb zo zl hx0 hsame
        go_wp2_with fail
        exact bodyPost_ret (v := .agg #[.int .i64 kd, .int .i64 n, .slice a rows.length cc]) (by simp [results, Tryd.results37, go_sem, z0, z1, z2]) rfl ⟨_, rfl, Or.inr ⟨rfl, unhide HSM⟩, unhide ZL⟩
    · rw [if_neg (by decide), if_neg (by decide), if_neg (by decide), if_pos (by decide)]
      have hb0 := hcb (by decide)
      subst hb0
      have HC2 : Hid (∀ (w1 : World) (hb : Below w.heap.size w w1), Calls Tryd.prog 55 #[v, .agg #[.string (S ca), .string ⟨#[]⟩]] w1 fun e w' => ∃ v', e = .returned v' ∧ StOwn w1.heap.size 77 w' v' (s.rwith (ca, [])) ∧ Below w1.heap.size w1 w') := fun w1 hb => unhide HWI w1 hb (ca, [])
      generalize s.rwith (ca, []) = y at *
      clear HWI HGO hk HX HK hf hcb
      obtain ⟨k0, rfl, hr⟩ := h
      obtain ⟨a, cc, rfl, hcc, hmm⟩ := hr.shape
      obtain ⟨kd, n, rows⟩ := s
      dsimp only at *
      obtain ⟨A, hA⟩ : ∃ A : Obj, A = .cells #[.int .i64 kd, .int .i64 n, .slice a rows.length cc] 38 (0, 0) := ⟨_, rfl⟩
      obtain ⟨B, hB⟩ : ∃ B : Obj, B = .cells #[.int .i64 14, .string (S ca), .string (S []), .int .i64 cn] 29 (0, 0) := ⟨_, rfl⟩
      obtain ⟨C, hC⟩ : ∃ C : Obj, C = .cells #[.int .i64 y1, .string (S y2), .int .i64 y3] 30 (0, 0) := ⟨_, rfl⟩
      obtain ⟨c0, c1, c2, k0, k1, k2, k3, r0, r1, r2⟩ := B4.scr (w := w) (D := .cells #[.int .i64 0, .int .i64 0, .slice none 0 0] 38 (0, 0)) hA hB hC
      have hst := B4.start w A B C (.cells #[.int .i64 0, .int .i64 0, .slice none 0 0] 38 (0, 0))
      have hstd := hst.drew
      clear hr hs hop
      go_enter Tryd.func37, Tryd.ntmps37
      go_wp2_with fail
      rw [← hA, ← hB, ← hC]
      clear hA hB hC
      go_region_held3 (fun w' => B4 w A B C (.cells #[.int .i64 0, .int .i64 0, .slice none 0 0] 38 (0, 0)) w') (with_reducible (first | exact hstd | exact hst | (refine B4.below ?_ (by assumption) <;> assumption)))
        (first | (go_at_call 56; refine (unhide HCH _).mono ?_; rintro e wm ⟨rfl, hbm⟩) | (go_at_call 11; refine (unhide HKI _).mono ?_; rintro e wn ⟨rfl, hbn⟩) | fail)
      have hx0 : B4 w A B C (.cells #[.int .i64 0, .int .i64 0, .slice none 0 0] 38 (0, 0)) wn := by assumption
      clear hbm hbn hst hstd HKI HCH
      go_wp2_with fail
      refine (unhide HC2 _ hx0.low).mono ?_
      rintro e w2 ⟨v2, rfl, ⟨k2, rfl, ho⟩, hb⟩
      obtain ⟨ka, kc, rfl, _⟩ := ownsRow_slice ho
      have hx2 := hx0.below hb
      obtain ⟨z0, z1, z2, zl, zo, y0, y1, y2, f1⟩ := hx2.give (.int .i64 y.kind) (.int .i64 y.n) (.slice ka y.rows.length kc)
      have ZO := hide (zo _ _ _ _ _ _ (by have := hx0.size; omega) ho)
      unfold put3 at z0 z1 z2 zl ZO
      have ZL := hide zl
      clear hx2 hb ho zo zl hx0
      go_wp2_with fail
      exact bodyPost_ret (v := .agg #[.int .i64 y.kind, .int .i64 y.n, .slice ka y.rows.length kc]) (by simp [results, Tryd.results37, go_sem, z0, z1, z2]) rfl ⟨_, rfl, Or.inl ⟨_, rfl, unhide ZO⟩, unhide ZL⟩
    · have HC2 := hide (fun (w1 : World) (hb : Below w.heap.size w w1) => unhide HGO w1 hb y2)
      rw [if_neg (by decide), if_neg (by decide), if_neg (by decide), if_neg (by decide), if_neg (by decide)]
      generalize s.gone y2 = y at *
      clear HWI HGO hk HX HK hf hcb
      obtain ⟨k0, rfl, hr⟩ := h
      obtain ⟨a, cc, rfl, hcc, hmm⟩ := hr.shape
      obtain ⟨kd, n, rows⟩ := s
      dsimp only at *
      obtain ⟨A, hA⟩ : ∃ A : Obj, A = .cells #[.int .i64 kd, .int .i64 n, .slice a rows.length cc] 38 (0, 0) := ⟨_, rfl⟩
      obtain ⟨B, hB⟩ : ∃ B : Obj, B = .cells #[.int .i64 15, .string (S ca), .string (S cb), .int .i64 cn] 29 (0, 0) := ⟨_, rfl⟩
      obtain ⟨C, hC⟩ : ∃ C : Obj, C = .cells #[.int .i64 y1, .string (S y2), .int .i64 y3] 30 (0, 0) := ⟨_, rfl⟩
      obtain ⟨c0, c1, c2, k0, k1, k2, k3, r0, r1, r2⟩ := B4.scr (w := w) (D := .cells #[.int .i64 0, .int .i64 0, .slice none 0 0] 38 (0, 0)) hA hB hC
      have hst := B4.start w A B C (.cells #[.int .i64 0, .int .i64 0, .slice none 0 0] 38 (0, 0))
      have hstd := hst.drew
      clear hr hs hop
      go_enter Tryd.func37, Tryd.ntmps37
      go_wp2_with fail
      rw [← hA, ← hB, ← hC]
      clear hA hB hC
      go_region_held3 (fun w' => B4 w A B C (.cells #[.int .i64 0, .int .i64 0, .slice none 0 0] 38 (0, 0)) w') (with_reducible (first | exact hstd | exact hst | (refine B4.below ?_ (by assumption) <;> assumption)))
        (first | (go_at_call 56; refine (unhide HCH _).mono ?_; rintro e wm ⟨rfl, hbm⟩) | (go_at_call 11; refine (unhide HKI _).mono ?_; rintro e wn ⟨rfl, hbn⟩) | fail)
      have hx0 : B4 w A B C (.cells #[.int .i64 0, .int .i64 0, .slice none 0 0] 38 (0, 0)) wn := by assumption
      clear hbm hbn hst hstd HKI HCH
      go_wp2_with fail
      refine (unhide HC2 _ hx0.low).mono ?_
      rintro e w2 ⟨v2, rfl, hor, hb⟩
      rcases hor with ⟨k2, rfl, ho⟩ | ⟨rfl, hsame⟩
      · obtain ⟨ka, kc, rfl, _⟩ := ownsRow_slice ho
        have hx2 := hx0.below hb
        obtain ⟨z0, z1, z2, zl, zo, y0, y1, y2, f1⟩ := hx2.give (.int .i64 y.kind) (.int .i64 y.n) (.slice ka y.rows.length kc)
        have ZO := hide (zo _ _ _ _ _ _ (by have := hx0.size; omega) ho)
        unfold put3 at z0 z1 z2 zl ZO
        have ZL := hide zl
        clear hx2 hb ho zo zl hx0
        go_wp2_with fail
        exact bodyPost_ret (v := .agg #[.int .i64 y.kind, .int .i64 y.n, .slice ka y.rows.length kc]) (by simp [results, Tryd.results37, go_sem, z0, z1, z2]) rfl ⟨_, rfl, Or.inl ⟨_, rfl, unhide ZO⟩, unhide ZL⟩
      · have hx2 := hx0.below hb
        obtain ⟨z0, z1, z2, zl, zo, y0, y1, y2, f1⟩ := hx2.give (.int .i64 kd) (.int .i64 n) (.slice a rows.length cc)
        unfold put3 at z0 z1 z2 zl
        have ZL := hide zl
        have HSM := hide hsame
        clear hx2 hb zo zl hx0 hsame
        go_wp2_with fail
        exact bodyPost_ret (v := .agg #[.int .i64 kd, .int .i64 n, .slice a rows.length cc]) (by simp [results, Tryd.results37, go_sem, z0, z1, z2]) rfl ⟨_, rfl, Or.inr ⟨rfl, unhide HSM⟩, unhide ZL⟩
    · rw [if_neg (by decide), if_neg (by decide), if_neg (by decide), if_pos (by decide)]
      have hb0 := hcb (by decide)
      subst hb0
      have HC2 : Hid (∀ (w1 : World) (hb : Below w.heap.size w w1), Calls Tryd.prog 55 #[v, .agg #[.string (S ca), .string ⟨#[]⟩]] w1 fun e w' => ∃ v', e = .returned v' ∧ StOwn w1.heap.size 77 w' v' (s.rwith (ca, [])) ∧ Below w1.heap.size w1 w') := fun w1 hb => unhide HWI w1 hb (ca, [])
      generalize s.rwith (ca, []) = y at *
      clear HWI HGO hk HX HK hf hcb
      obtain ⟨k0, rfl, hr⟩ := h
      obtain ⟨a, cc, rfl, hcc, hmm⟩ := hr.shape
      obtain ⟨kd, n, rows⟩ := s
      dsimp only at *
      obtain ⟨A, hA⟩ : ∃ A : Obj, A = .cells #[.int .i64 kd, .int .i64 n, .slice a rows.length cc] 38 (0, 0) := ⟨_, rfl⟩
      obtain ⟨B, hB⟩ : ∃ B : Obj, B = .cells #[.int .i64 16, .string (S ca), .string (S []), .int .i64 cn] 29 (0, 0) := ⟨_, rfl⟩
      obtain ⟨C, hC⟩ : ∃ C : Obj, C = .cells #[.int .i64 y1, .string (S y2), .int .i64 y3] 30 (0, 0) := ⟨_, rfl⟩
      obtain ⟨c0, c1, c2, k0, k1, k2, k3, r0, r1, r2⟩ := B4.scr (w := w) (D := .cells #[.int .i64 0, .int .i64 0, .slice none 0 0] 38 (0, 0)) hA hB hC
      have hst := B4.start w A B C (.cells #[.int .i64 0, .int .i64 0, .slice none 0 0] 38 (0, 0))
      have hstd := hst.drew
      clear hr hs hop
      go_enter Tryd.func37, Tryd.ntmps37
      go_wp2_with fail
      rw [← hA, ← hB, ← hC]
      clear hA hB hC
      go_region_held3 (fun w' => B4 w A B C (.cells #[.int .i64 0, .int .i64 0, .slice none 0 0] 38 (0, 0)) w') (with_reducible (first | exact hstd | exact hst | (refine B4.below ?_ (by assumption) <;> assumption)))
        (first | (go_at_call 56; refine (unhide HCH _).mono ?_; rintro e wm ⟨rfl, hbm⟩) | (go_at_call 11; refine (unhide HKI _).mono ?_; rintro e wn ⟨rfl, hbn⟩) | fail)
      have hx0 : B4 w A B C (.cells #[.int .i64 0, .int .i64 0, .slice none 0 0] 38 (0, 0)) wn := by assumption
      clear hbm hbn hst hstd HKI HCH
      go_wp2_with fail
      refine (unhide HC2 _ hx0.low).mono ?_
      rintro e w2 ⟨v2, rfl, ⟨k2, rfl, ho⟩, hb⟩
      obtain ⟨ka, kc, rfl, _⟩ := ownsRow_slice ho
      have hx2 := hx0.below hb
      obtain ⟨z0, z1, z2, zl, zo, y0, y1, y2, f1⟩ := hx2.give (.int .i64 y.kind) (.int .i64 y.n) (.slice ka y.rows.length kc)
      have ZO := hide (zo _ _ _ _ _ _ (by have := hx0.size; omega) ho)
      unfold put3 at z0 z1 z2 zl ZO
      have ZL := hide zl
      clear hx2 hb ho zo zl hx0
      go_wp2_with fail
      exact bodyPost_ret (v := .agg #[.int .i64 y.kind, .int .i64 y.n, .slice ka y.rows.length kc]) (by simp [results, Tryd.results37, go_sem, z0, z1, z2]) rfl ⟨_, rfl, Or.inl ⟨_, rfl, unhide ZO⟩, unhide ZL⟩
    · have HC2 := hide (fun (w1 : World) (hb : Below w.heap.size w w1) => unhide HGO w1 hb y2)
      rw [if_neg (by decide), if_neg (by decide), if_neg (by decide), if_neg (by decide), if_neg (by decide)]
      generalize s.gone y2 = y at *
      clear HWI HGO hk HX HK hf hcb
      obtain ⟨k0, rfl, hr⟩ := h
      obtain ⟨a, cc, rfl, hcc, hmm⟩ := hr.shape
      obtain ⟨kd, n, rows⟩ := s
      dsimp only at *
      obtain ⟨A, hA⟩ : ∃ A : Obj, A = .cells #[.int .i64 kd, .int .i64 n, .slice a rows.length cc] 38 (0, 0) := ⟨_, rfl⟩
      obtain ⟨B, hB⟩ : ∃ B : Obj, B = .cells #[.int .i64 17, .string (S ca), .string (S cb), .int .i64 cn] 29 (0, 0) := ⟨_, rfl⟩
      obtain ⟨C, hC⟩ : ∃ C : Obj, C = .cells #[.int .i64 y1, .string (S y2), .int .i64 y3] 30 (0, 0) := ⟨_, rfl⟩
      obtain ⟨c0, c1, c2, k0, k1, k2, k3, r0, r1, r2⟩ := B4.scr (w := w) (D := .cells #[.int .i64 0, .int .i64 0, .slice none 0 0] 38 (0, 0)) hA hB hC
      have hst := B4.start w A B C (.cells #[.int .i64 0, .int .i64 0, .slice none 0 0] 38 (0, 0))
      have hstd := hst.drew
      clear hr hs hop
      go_enter Tryd.func37, Tryd.ntmps37
      go_wp2_with fail
      rw [← hA, ← hB, ← hC]
      clear hA hB hC
      go_region_held3 (fun w' => B4 w A B C (.cells #[.int .i64 0, .int .i64 0, .slice none 0 0] 38 (0, 0)) w') (with_reducible (first | exact hstd | exact hst | (refine B4.below ?_ (by assumption) <;> assumption)))
        (first | (go_at_call 56; refine (unhide HCH _).mono ?_; rintro e wm ⟨rfl, hbm⟩) | (go_at_call 11; refine (unhide HKI _).mono ?_; rintro e wn ⟨rfl, hbn⟩) | fail)
      have hx0 : B4 w A B C (.cells #[.int .i64 0, .int .i64 0, .slice none 0 0] 38 (0, 0)) wn := by assumption
      clear hbm hbn hst hstd HKI HCH
      go_wp2_with fail
      refine (unhide HC2 _ hx0.low).mono ?_
      rintro e w2 ⟨v2, rfl, hor, hb⟩
      rcases hor with ⟨k2, rfl, ho⟩ | ⟨rfl, hsame⟩
      · obtain ⟨ka, kc, rfl, _⟩ := ownsRow_slice ho
        have hx2 := hx0.below hb
        obtain ⟨z0, z1, z2, zl, zo, y0, y1, y2, f1⟩ := hx2.give (.int .i64 y.kind) (.int .i64 y.n) (.slice ka y.rows.length kc)
        have ZO := hide (zo _ _ _ _ _ _ (by have := hx0.size; omega) ho)
        unfold put3 at z0 z1 z2 zl ZO
        have ZL := hide zl
        clear hx2 hb ho zo zl hx0
        go_wp2_with fail
        exact bodyPost_ret (v := .agg #[.int .i64 y.kind, .int .i64 y.n, .slice ka y.rows.length kc]) (by simp [results, Tryd.results37, go_sem, z0, z1, z2]) rfl ⟨_, rfl, Or.inl ⟨_, rfl, unhide ZO⟩, unhide ZL⟩
      · have hx2 := hx0.below hb
        obtain ⟨z0, z1, z2, zl, zo, y0, y1, y2, f1⟩ := hx2.give (.int .i64 kd) (.int .i64 n) (.slice a rows.length cc)
        unfold put3 at z0 z1 z2 zl
        have ZL := hide zl
        have HSM := hide hsame
        clear hx2 hb zo zl hx0 hsame
        go_wp2_with fail
        exact bodyPost_ret (v := .agg #[.int .i64 kd, .int .i64 n, .slice a rows.length cc]) (by simp [results, Tryd.results37, go_sem, z0, z1, z2]) rfl ⟨_, rfl, Or.inr ⟨rfl, unhide HSM⟩, unhide ZL⟩
set_option maxHeartbeats 12800000 in
theorem rapply_ne {w : World} {v : Value} {s : VS} {c : MC} (h : StAt w v s) (hop : okOp c.op) (r : MR) (hk : (mfact c.op).kind ≠ s.kind) :
    Calls Tryd.prog 37 #[v, mcV c, mrV r] w fun e w' => ∃ v', e = .returned v' ∧ (StOwn w.heap.size 77 w' v' s ∨ (v' = v ∧ s = s)) ∧ Below w.heap.size w w' := by
  have HKI := hide (fun (w1 : World) => rkind_any (w := w1) c.op hop)
  have HCH := hide (fun (w1 : World) => rchanges_any (w := w1) c r)
  obtain ⟨op, ca, cb, cn⟩ := c
  obtain ⟨y1, y2, y3⟩ := r
  unfold mcV mrV at *
  dsimp only at *
  have e0 : ((mfact op).kind != s.kind) = true := by rw [bne_iff_ne]; exact hk
  generalize (mfact op).kind = K at *
  obtain ⟨X, hX⟩ : ∃ X, mchanges op cn y1 = X := ⟨_, rfl⟩
  rw [hX] at HCH
  clear hX hk
  cases X
  · obtain ⟨k0, rfl, hr⟩ := h
    obtain ⟨a, cc, rfl, hcc, hmm⟩ := hr.shape
    obtain ⟨kd, n, rows⟩ := s
    dsimp only at *
    obtain ⟨A, hA⟩ : ∃ A : Obj, A = .cells #[.int .i64 kd, .int .i64 n, .slice a rows.length cc] 38 (0, 0) := ⟨_, rfl⟩
    obtain ⟨B, hB⟩ : ∃ B : Obj, B = .cells #[.int .i64 op, .string (S ca), .string (S cb), .int .i64 cn] 29 (0, 0) := ⟨_, rfl⟩
    obtain ⟨C, hC⟩ : ∃ C : Obj, C = .cells #[.int .i64 y1, .string (S y2), .int .i64 y3] 30 (0, 0) := ⟨_, rfl⟩
    obtain ⟨c0, c1, c2, k0, k1, k2, k3, r0, r1, r2⟩ := B4.scr (w := w) (D := .cells #[.int .i64 0, .int .i64 0, .slice none 0 0] 38 (0, 0)) hA hB hC
    have hst := B4.start w A B C (.cells #[.int .i64 0, .int .i64 0, .slice none 0 0] 38 (0, 0))
    have hstd := hst.drew
    clear hr hop
    go_enter Tryd.func37, Tryd.ntmps37
    go_wp2_with fail
    rw [← hA, ← hB, ← hC]
    clear hA hB hC
    refine wp_region_held_drew (S := fun w' => B4 w A B C (.cells #[.int .i64 0, .int .i64 0, .slice none 0 0] 38 (0, 0)) w') (by kernel_rfl) ?_ (fun hHeld => ?_)
    · exact hstd
    refine wpAnyH_take (i := 0) (oi := { dst := some 7, op := _, type := _, pos := _, after := _, guard := _ }) (v := ?_) rfl (by kernel_rfl) (by kernel_rfl) (by kernel_rfl) (fun _ _ _ h => h) (Or.inl ⟨by kernel_rfl, ?_⟩) (by assumption) ?_
    rotate_left
    · intro w hSw; (try dsimp only at hSw); go_simp; try (with_reducible rfl)
    try simp only [Act.put, List.setIfInBounds_toArray, List.set_cons_zero, List.set_cons_succ]
    refine wpAnyH_take (i := 1) (oi := { dst := some 8, op := _, type := _, pos := _, after := _, guard := _ }) (v := ?_) rfl (by kernel_rfl) (by kernel_rfl) (by kernel_rfl) (fun _ _ _ h => h) (Or.inl ⟨by kernel_rfl, ?_⟩) (by assumption) ?_
    rotate_left
    · intro w hSw; (try dsimp only at hSw); go_simp; try (with_reducible rfl)
    try simp only [Act.put, List.setIfInBounds_toArray, List.set_cons_zero, List.set_cons_succ]
    refine wpAnyH_ready (rs := [2]) (by kernel_rfl) (by simp) ?_
    refine AllReadyH.cons rfl (fun K hK => ?_) AllReadyH.nil
    go_simp
    (go_at_call 56; refine (unhide HCH _).mono ?_; rintro e wn ⟨rfl, hbn⟩)
    refine hK.out _ _ ?_ (fun hHeld => ?_)
    · exact B4.below (by assumption) hbn
    clear hK K
    try simp only [Act.put, List.setIfInBounds_toArray, List.set_cons_zero, List.set_cons_succ]
    refine wpAnyH_take (i := 3) (oi := { dst := some 10, op := _, type := _, pos := _, after := _, guard := _ }) (v := ?_) rfl (by kernel_rfl) (by kernel_rfl) (by kernel_rfl) (fun _ _ _ h => h) (Or.inl ⟨by kernel_rfl, ?_⟩) (by assumption) ?_
    rotate_left
    · intro w hSw; (try dsimp only at hSw); go_simp; try (with_reducible rfl)
    try simp only [Act.put, List.setIfInBounds_toArray, List.set_cons_zero, List.set_cons_succ]
    refine wpAnyH_take (i := 4) (oi := { dst := some 11, op := _, type := _, pos := _, after := _, guard := _ }) (v := ?_) rfl (by kernel_rfl) (by kernel_rfl) (by kernel_rfl) (fun _ _ _ h => h) (Or.inl ⟨by kernel_rfl, ?_⟩) (by assumption) ?_
    rotate_left
    · intro w hSw; (try dsimp only at hSw); go_simp; try (with_reducible rfl)
    try simp only [Act.put, List.setIfInBounds_toArray, List.set_cons_zero, List.set_cons_succ]
    refine wpAnyH_take (i := 5) (oi := { dst := some 12, op := _, type := _, pos := _, after := _, guard := _ }) (v := undef) rfl (by kernel_rfl) (by kernel_rfl) (by kernel_rfl) (fun _ _ _ h => h) (Or.inr ⟨by kernel_rfl, rfl⟩) (by assumption) ?_
    try simp only [Act.put, List.setIfInBounds_toArray, List.set_cons_zero, List.set_cons_succ]
    refine wpAnyH_take (i := 6) (oi := { dst := some 13, op := _, type := _, pos := _, after := _, guard := _ }) (v := undef) rfl (by kernel_rfl) (by kernel_rfl) (by kernel_rfl) (fun _ _ _ h => h) (Or.inr ⟨by kernel_rfl, rfl⟩) (by assumption) ?_
    try simp only [Act.put, List.setIfInBounds_toArray, List.set_cons_zero, List.set_cons_succ]
    refine wpAnyH_take (i := 7) (oi := { dst := some 14, op := _, type := _, pos := _, after := _, guard := _ }) (v := undef) rfl (by kernel_rfl) (by kernel_rfl) (by kernel_rfl) (fun _ _ _ h => h) (Or.inr ⟨by kernel_rfl, rfl⟩) (by assumption) ?_
    try simp only [Act.put, List.setIfInBounds_toArray, List.set_cons_zero, List.set_cons_succ]
    refine wpAnyH_take (i := 8) (oi := { dst := some 15, op := _, type := _, pos := _, after := _, guard := _ }) (v := undef) rfl (by kernel_rfl) (by kernel_rfl) (by kernel_rfl) (fun _ _ _ h => h) (Or.inr ⟨by kernel_rfl, rfl⟩) (by assumption) ?_
    try simp only [Act.put, List.setIfInBounds_toArray, List.set_cons_zero, List.set_cons_succ]
    refine wpAnyH_take (i := 9) (oi := { dst := some 16, op := _, type := _, pos := _, after := _, guard := _ }) (v := undef) rfl (by kernel_rfl) (by kernel_rfl) (by kernel_rfl) (fun _ _ _ h => h) (Or.inr ⟨by kernel_rfl, rfl⟩) (by assumption) ?_
    try simp only [Act.put, List.setIfInBounds_toArray, List.set_cons_zero, List.set_cons_succ]
    refine wpAnyH_take (i := 10) (oi := { dst := some 17, op := _, type := _, pos := _, after := _, guard := _ }) (v := undef) rfl (by kernel_rfl) (by kernel_rfl) (by kernel_rfl) (fun _ _ _ h => h) (Or.inr ⟨by kernel_rfl, rfl⟩) (by assumption) ?_
    try simp only [Act.put, List.setIfInBounds_toArray, List.set_cons_zero, List.set_cons_succ]
    refine wpAnyH_take (i := 11) (oi := { dst := some 18, op := _, type := _, pos := _, after := _, guard := _ }) (v := ?_) rfl (by kernel_rfl) (by kernel_rfl) (by kernel_rfl) (fun _ _ _ h => h) (Or.inl ⟨by kernel_rfl, ?_⟩) (by assumption) ?_
    rotate_left
    · intro w hSw; (try dsimp only at hSw); go_simp; try (with_reducible rfl)
    try simp only [Act.put, List.setIfInBounds_toArray, List.set_cons_zero, List.set_cons_succ]
    refine wpAnyH_done (by kernel_rfl) ?_ _
    have hx0 : B4 w A B C (.cells #[.int .i64 0, .int .i64 0, .slice none 0 0] 38 (0, 0)) wn := by assumption
    clear hbn hst hstd HKI HCH
    obtain ⟨z0, z1, z2, zl, zo, y0, y1, y2, f1⟩ := hx0.give (.int .i64 kd) (.int .i64 n) (.slice a rows.length cc)
    unfold put3 at z0 z1 z2 zl
    have ZL := hide zl
    have s0 := c0 _ hx0
    have s1 := c1 _ hx0
    have s2 := c2 _ hx0
    clear zo zl
    go_wp2_with fail
    exact bodyPost_ret (v := .agg #[.int .i64 kd, .int .i64 n, .slice a rows.length cc]) (by simp [results, Tryd.results37, go_sem, z0, z1, z2]) rfl ⟨_, rfl, Or.inr (by simp), unhide ZL⟩
  · obtain ⟨k0, rfl, hr⟩ := h
    obtain ⟨a, cc, rfl, hcc, hmm⟩ := hr.shape
    obtain ⟨kd, n, rows⟩ := s
    dsimp only at *
    obtain ⟨A, hA⟩ : ∃ A : Obj, A = .cells #[.int .i64 kd, .int .i64 n, .slice a rows.length cc] 38 (0, 0) := ⟨_, rfl⟩
    obtain ⟨B, hB⟩ : ∃ B : Obj, B = .cells #[.int .i64 op, .string (S ca), .string (S cb), .int .i64 cn] 29 (0, 0) := ⟨_, rfl⟩
    obtain ⟨C, hC⟩ : ∃ C : Obj, C = .cells #[.int .i64 y1, .string (S y2), .int .i64 y3] 30 (0, 0) := ⟨_, rfl⟩
    obtain ⟨c0, c1, c2, k0, k1, k2, k3, r0, r1, r2⟩ := B4.scr (w := w) (D := .cells #[.int .i64 0, .int .i64 0, .slice none 0 0] 38 (0, 0)) hA hB hC
    have hst := B4.start w A B C (.cells #[.int .i64 0, .int .i64 0, .slice none 0 0] 38 (0, 0))
    have hstd := hst.drew
    clear hr hop
    go_enter Tryd.func37, Tryd.ntmps37
    go_wp2_with fail
    rw [← hA, ← hB, ← hC]
    clear hA hB hC
    go_region_held3 (fun w' => B4 w A B C (.cells #[.int .i64 0, .int .i64 0, .slice none 0 0] 38 (0, 0)) w') (with_reducible (first | exact hstd | exact hst | (refine B4.below ?_ (by assumption) <;> assumption)))
      (first | (go_at_call 56; refine (unhide HCH _).mono ?_; rintro e wm ⟨rfl, hbm⟩) | (go_at_call 11; refine (unhide HKI _).mono ?_; rintro e wn ⟨rfl, hbn⟩) | fail)
    have hx0 : B4 w A B C (.cells #[.int .i64 0, .int .i64 0, .slice none 0 0] 38 (0, 0)) wn := by assumption
    clear hbm hbn hst hstd HKI HCH
    obtain ⟨z0, z1, z2, zl, zo, y0, y1, y2, f1⟩ := hx0.give (.int .i64 kd) (.int .i64 n) (.slice a rows.length cc)
    unfold put3 at z0 z1 z2 zl
    have ZL := hide zl
    have s0 := c0 _ hx0
    have s1 := c1 _ hx0
    have s2 := c2 _ hx0
    clear zo zl
    go_wp2_with fail
    exact bodyPost_ret (v := .agg #[.int .i64 kd, .int .i64 n, .slice a rows.length cc]) (by simp [results, Tryd.results37, go_sem, z0, z1, z2]) rfl ⟨_, rfl, Or.inr (by simp), unhide ZL⟩
theorem rapply_any {w : World} {v : Value} {s : VS} {c : MC} (h : StAt w v s) (hs : s.rows.length ≤ 1000) (hop : okOp c.op) (hcb : c.op ≠ 11 → c.b = []) (hf : s.fit) (r : MR) :
    Calls Tryd.prog 37 #[v, mcV c, mrV r] w fun e w' => ∃ v', e = .returned v' ∧ StAt w' v' (apply2 s c r) ∧ Below w.heap.size w w' := by
  have key : Calls Tryd.prog 37 #[v, mcV c, mrV r] w fun e w' => ∃ v', e = .returned v' ∧ (StOwn w.heap.size 77 w' v' (apply2 s c r) ∨ (v' = v ∧ apply2 s c r = s)) ∧ Below w.heap.size w w' := by
    by_cases hk : (mfact c.op).kind = s.kind
    · exact rapply_eq h hs hop hcb hf r hk
    · rw [show apply2 s c r = s by unfold apply2 applyBy; rw [if_pos (Or.inl hk)]]
      exact rapply_ne h hop r hk
  refine key.mono fun e w' hh => ?_
  obtain ⟨v', rfl, hor, hb⟩ := hh
  rcases hor with ho | ⟨rfl, hs2⟩
  · exact ⟨_, rfl, ho.at, hb⟩
  · exact ⟨_, rfl, by rw [hs2]; exact h.later hb, hb⟩
end Go.Proofs.YteaiidcconggcaaDoor
/- The document's Apply: its rows are the call's own, or the state's own. -/
namespace Go.Proofs.YteaiidcconggcaaDoor
open Go.RowKit
set_option linter.unusedVariables false
set_option maxRecDepth 100000

theorem rapply_new {w : World} {s : VS} {sa : Option Addr} {sc : Nat} {c : MC} (h : w.ownsRow 0 77 2 (.slice sa s.rows.length sc) s.rows.length (R9 s.rows)) (hs : s.rows.length ≤ 1000) (hop : okOp c.op) (hcb : c.op ≠ 11 → c.b = []) (hf : s.fit) (r : MR) :
    Calls Tryd.prog 37 #[.agg #[.int .i64 s.kind, .int .i64 s.n, .slice sa s.rows.length sc], mcV c, mrV r] w fun e w' => ∃ ka kc, e = .returned (.agg #[.int .i64 (apply2 s c r).kind, .int .i64 (apply2 s c r).n, .slice ka (apply2 s c r).rows.length kc]) ∧ w'.ownsRow 0 77 2 (.slice ka (apply2 s c r).rows.length kc) (apply2 s c r).rows.length (R9 (apply2 s c r).rows) ∧ (∀ k, (Value.slice ka (apply2 s c r).rows.length kc).ownBlock = some k → w.heap.size ≤ k ∨ (Value.slice sa s.rows.length sc).ownBlock = some k) ∧ Below w.heap.size w w' := by
  have hat : StAt w (.agg #[.int .i64 s.kind, .int .i64 s.n, .slice sa s.rows.length sc]) s := ⟨_, rfl, Row2.of_own h⟩
  have key : Calls Tryd.prog 37 #[.agg #[.int .i64 s.kind, .int .i64 s.n, .slice sa s.rows.length sc], mcV c, mrV r] w fun e w' => ∃ v', e = .returned v' ∧ (StOwn w.heap.size 77 w' v' (apply2 s c r) ∨ (v' = .agg #[.int .i64 s.kind, .int .i64 s.n, .slice sa s.rows.length sc] ∧ apply2 s c r = s)) ∧ Below w.heap.size w w' := by
    by_cases hk : (mfact c.op).kind = s.kind
    · exact rapply_eq hat hs hop hcb hf r hk
    · rw [show apply2 s c r = s by unfold apply2 applyBy; rw [if_pos (Or.inl hk)]]
      exact rapply_ne hat hop r hk
  refine key.mono fun e w' hh => ?_
  obtain ⟨v', rfl, hor, hb⟩ := hh
  rcases hor with ⟨kk, rfl, ho⟩ | ⟨rfl, hs2⟩
  · obtain ⟨ka, kc, rfl, _⟩ := ownsRow_slice ho
    exact ⟨ka, kc, rfl, ownsRow_less ho (Nat.zero_le _), fun k hk => Or.inl (ho.lt k hk).1, hb⟩
  · rw [hs2]
    exact ⟨sa, sc, rfl, ownsRow_below h hb, fun k hk => Or.inr hk, hb⟩
end Go.Proofs.YteaiidcconggcaaDoor
