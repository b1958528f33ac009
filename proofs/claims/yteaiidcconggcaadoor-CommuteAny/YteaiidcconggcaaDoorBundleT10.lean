/- Texts that this proof needs, one behind the other: TRApply, TLaw, TOf, TOf2. -/
import Derived.Test.YteaiidcconggcaaDoorBundleT7
import Derived.Test.YteaiidcconggcaaDoorBundleT6
import Derived.Test.YteaiidcconggcaaDoorMTidy
import Derived.Test.YteaiidcconggcaaDoorVTidy
import Derived.Test.YteaiidcconggcaaDoorTAnsw
import Derived.Test.YteaiidcconggcaaDoorMRefs2
import Derived.Test.YteaiidcconggcaaDoorBundleA8
/- The contract of the document's Apply. -/
namespace Go.Proofs.YteaiidcconggcaaDoor
open Go.RowKit
set_option linter.unusedVariables false
set_option maxRecDepth 100000

theorem own_one (w : World) (base : Nat) (a b : Value) (e : TypeId) (hb : base ≤ w.heap.size) : (w.alloc (.cells #[a, b] e)).ownsRow base e 2 (.slice (some ⟨w.heap.size, 0, none⟩) 1 1) 1 [a, b] :=
  ⟨rfl, Or.inr ⟨w.heap.size, 1, #[a, b], rfl, hb, heap_alloc_new w _, Nat.le_refl _, by simp [maxLen], rfl, rfl⟩⟩
set_option maxHeartbeats 51200000 in
theorem rapply_eq {w : World} {v : Value} {s : VS} {c : MC} (h : StAt w v s) (hs : s.rows.length ≤ 1000) (hop : okOp c.op) (hcb : c.op ≠ 11 → c.b = []) (hf : s.fit) (r : MR) (hk : (mfact c.op).kind = s.kind) :
    Calls Tryd.prog 37 #[v, mcV c, mrV r] w fun e w' => ∃ v', e = .returned v' ∧ (StOwn w.heap.size 77 w' v' (apply2 s c r) ∨ (v' = v ∧ apply2 s c r = s)) ∧ Below w.heap.size w w' := by
  have HKI := hide (fun (w1 : World) => rkind_any (w := w1) c.op hop)
  have HCH := hide (fun (w1 : World) => rchanges_any (w := w1) c r)
  have HWI := hide (fun (w1 : World) (hb : Below w.heap.size w w1) (x : List UInt8 × List UInt8) => rwith_any (h.later hb) hs x)
  have HGO := hide (fun (w1 : World) (hb : Below w.heap.size w w1) (t : List UInt8) => rgone_any (h.later hb) hs t)
  have HOPE := hide (fun (hch : mchanges c.op c.n r.code = true) => apply_op (put := VS.rwith) hk hch)
  have HNOT := hide (fun (hch : mchanges c.op c.n r.code = false) => apply_not (put := VS.rwith) (s := s) hch)
  unfold apply2
  rw [hk] at HKI
  obtain ⟨op, ca, cb, cn⟩ := c
  obtain ⟨y1, y2, y3⟩ := r
  unfold mcV mrV at *
  dsimp only at *
  have e0 : (s.kind != s.kind) = false := by simp
  obtain ⟨X, hX⟩ : ∃ X, mchanges op cn y1 = X := ⟨_, rfl⟩
  have HX := hide hX
  rw [hX] at HCH HOPE HNOT
  clear hX
  cases X
  · rw [unhide HNOT rfl]
    clear HNOT HOPE HWI HGO hk HX hf hcb
    obtain ⟨k0, rfl, hr⟩ := h
    obtain ⟨a, cc, rfl, hcc, hmm⟩ := hr.shape
    obtain ⟨kd, n, rows⟩ := s
    dsimp only at *
    obtain ⟨A, hA⟩ : ∃ A : Obj, A = .cells #[.int .i64 kd, .int .i64 n, .slice a rows.length cc] 38 (0, 0) := ⟨_, rfl⟩
    obtain ⟨B, hB⟩ : ∃ B : Obj, B = .cells #[.int .i64 op, .string (S ca), .string (S cb), .int .i64 cn] 29 (0, 0) := ⟨_, rfl⟩
    obtain ⟨C, hC⟩ : ∃ C : Obj, C = .cells #[.int .i64 y1, .string (S y2), .int .i64 y3] 30 (0, 0) := ⟨_, rfl⟩
    obtain ⟨c0, c1, c2, k0, k1, k2, k3, r0, r1, r2⟩ := B4.scr (w := w) (D := .cells #[.int .i64 0, .int .i64 0, .slice none 0 0] 38 (0, 0)) hA hB hC
    have hst := B4.start w A B C (.cells #[.int .i64 0, .int .i64 0, .slice none 0 0] 38 (0, 0))
    have hstd := hst.drew
    clear hr hs hop
    go_enter Tryd.func37, Tryd.ntmps37
    go_wp2_with fail
    rw [← hA, ← hB, ← hC]
    clear hA hB hC
    refine wp_region_held_drew (S := fun w' => B4 w A B C (.cells #[.int .i64 0, .int .i64 0, .slice none 0 0] 38 (0, 0)) w') (by kernel_rfl) ?_ (fun hHeld => ?_)
    · exact hstd
    refine wpAnyH_take (i := 0) (oi := { dst := some 7, op := _, type := _, pos := _, after := _, guard := _ }) (v := ?_) rfl (by kernel_rfl) (by kernel_rfl) (by kernel_rfl) (fun _ _ _ h => h) (Or.inl ⟨by kernel_rfl, ?_⟩) (by assumption) ?_
    rotate_left
    · intro w hSw; (try dsimp only at hSw); go_simp; try (with_reducible rfl)
    try simp only [Act.put, List.setIfInBounds_toArray, List.set_cons_zero, List.set_cons_succ]
    refine wpAnyH_take (i := 1) (oi := { dst := some 8, op := _, type := _, pos := _, after := _, guard := _ }) (v := ?_) rfl (by kernel_rfl) (by kernel_rfl) (by kernel_rfl) (fun _ _ _ h => h) (Or.inl ⟨by kernel_rfl, ?_⟩) (by assumption) ?_
    rotate_left
    · intro w hSw; (try dsimp only at hSw); go_simp; try (with_reducible rfl)
    try simp only [Act.put, List.setIfInBounds_toArray, List.set_cons_zero, List.set_cons_succ]
    refine wpAnyH_ready (rs := [2]) (by kernel_rfl) (by simp) ?_
    refine AllReadyH.cons rfl (fun K hK => ?_) AllReadyH.nil
    go_simp
    (go_at_call 56; refine (unhide HCH _).mono ?_; rintro e wn ⟨rfl, hbn⟩)
    refine hK.out _ _ ?_ (fun hHeld => ?_)
    · exact B4.below (by assumption) hbn
    clear hK K
    try simp only [Act.put, List.setIfInBounds_toArray, List.set_cons_zero, List.set_cons_succ]
    refine wpAnyH_take (i := 3) (oi := { dst := some 10, op := _, type := _, pos := _, after := _, guard := _ }) (v := ?_) rfl (by kernel_rfl) (by kernel_rfl) (by kernel_rfl) (fun _ _ _ h => h) (Or.inl ⟨by kernel_rfl, ?_⟩) (by assumption) ?_
    rotate_left
    · intro w hSw; (try dsimp only at hSw); go_simp; try (with_reducible rfl)
    try simp only [Act.put, List.setIfInBounds_toArray, List.set_cons_zero, List.set_cons_succ]
    refine wpAnyH_take (i := 4) (oi := { dst := some 11, op := _, type := _, pos := _, after := _, guard := _ }) (v := ?_) rfl (by kernel_rfl) (by kernel_rfl) (by kernel_rfl) (fun _ _ _ h => h) (Or.inl ⟨by kernel_rfl, ?_⟩) (by assumption) ?_
    rotate_left
    · intro w hSw; (try dsimp only at hSw); go_simp; try (with_reducible rfl)
    try simp only [Act.put, List.setIfInBounds_toArray, List.set_cons_zero, List.set_cons_succ]
    refine wpAnyH_take (i := 5) (oi := { dst := some 12, op := _, type := _, pos := _, after := _, guard := _ }) (v := undef) rfl (by kernel_rfl) (by kernel_rfl) (by kernel_rfl) (fun _ _ _ h => h) (Or.inr ⟨by kernel_rfl, rfl⟩) (by assumption) ?_
    try simp only [Act.put, List.setIfInBounds_toArray, List.set_cons_zero, List.set_cons_succ]
    refine wpAnyH_take (i := 6) (oi := { dst := some 13, op := _, type := _, pos := _, after := _, guard := _ }) (v := undef) rfl (by kernel_rfl) (by kernel_rfl) (by kernel_rfl) (fun _ _ _ h => h) (Or.inr ⟨by kernel_rfl, rfl⟩) (by assumption) ?_
    try simp only [Act.put, List.setIfInBounds_toArray, List.set_cons_zero, List.set_cons_succ]
    refine wpAnyH_take (i := 7) (oi := { dst := some 14, op := _, type := _, pos := _, after := _, guard := _ }) (v := undef) rfl (by kernel_rfl) (by kernel_rfl) (by kernel_rfl) (fun _ _ _ h => h) (Or.inr ⟨by kernel_rfl, rfl⟩) (by assumption) ?_
    try simp only [Act.put, List.setIfInBounds_toArray, List.set_cons_zero, List.set_cons_succ]
    refine wpAnyH_take (i := 8) (oi := { dst := some 15, op := _, type := _, pos := _, after := _, guard := _ }) (v := undef) rfl (by kernel_rfl) (by kernel_rfl) (by kernel_rfl) (fun _ _ _ h => h) (Or.inr ⟨by kernel_rfl, rfl⟩) (by assumption) ?_
    try simp only [Act.put, List.setIfInBounds_toArray, List.set_cons_zero, List.set_cons_succ]
    refine wpAnyH_take (i := 9) (oi := { dst := some 16, op := _, type := _, pos := _, after := _, guard := _ }) (v := undef) rfl (by kernel_rfl) (by kernel_rfl) (by kernel_rfl) (fun _ _ _ h => h) (Or.inr ⟨by kernel_rfl, rfl⟩) (by assumption) ?_
    try simp only [Act.put, List.setIfInBounds_toArray, List.set_cons_zero, List.set_cons_succ]
    refine wpAnyH_take (i := 10) (oi := { dst := some 17, op := _, type := _, pos := _, after := _, guard := _ }) (v := undef) rfl (by kernel_rfl) (by kernel_rfl) (by kernel_rfl) (fun _ _ _ h => h) (Or.inr ⟨by kernel_rfl, rfl⟩) (by assumption) ?_
    try simp only [Act.put, List.setIfInBounds_toArray, List.set_cons_zero, List.set_cons_succ]
    refine wpAnyH_take (i := 11) (oi := { dst := some 18, op := _, type := _, pos := _, after := _, guard := _ }) (v := ?_) rfl (by kernel_rfl) (by kernel_rfl) (by kernel_rfl) (fun _ _ _ h => h) (Or.inl ⟨by kernel_rfl, ?_⟩) (by assumption) ?_
    rotate_left
    · intro w hSw; (try dsimp only at hSw); go_simp; try (with_reducible rfl)
    try simp only [Act.put, List.setIfInBounds_toArray, List.set_cons_zero, List.set_cons_succ]
    refine wpAnyH_done (by kernel_rfl) ?_ _
    have hx0 : B4 w A B C (.cells #[.int .i64 0, .int .i64 0, .slice none 0 0] 38 (0, 0)) wn := by assumption
    clear hbn hst hstd HKI HCH
    obtain ⟨z0, z1, z2, zl, zo, y0, y1, y2, f1⟩ := hx0.give (.int .i64 kd) (.int .i64 n) (.slice a rows.length cc)
    unfold put3 at z0 z1 z2 zl
    have ZL := hide zl
    have s0 := c0 _ hx0
    have s1 := c1 _ hx0
    have s2 := c2 _ hx0
    clear zo zl
    go_wp2_with fail
    exact bodyPost_ret (v := .agg #[.int .i64 kd, .int .i64 n, .slice a rows.length cc]) (by simp [results, Tryd.results37, go_sem, z0, z1, z2]) rfl ⟨_, rfl, Or.inr (by simp), unhide ZL⟩
  · rw [unhide HOPE rfl]
    clear HNOT HOPE
    have HK := hide hk
    rcases no_change hop (unhide HX) with rfl | rfl | rfl | rfl | rfl | rfl | rfl | rfl | rfl | rfl | rfl | rfl
    · rw [if_pos rfl]
      have hk1 : s.kind = 1 := by rw [← unhide HK]; decide
      have hn0 := hf.zero hk1
      have he := S_isEmpty ca
      by_cases hca : ca = []
      · subst hca
        rw [if_pos rfl]
        have het : (S []).toList.isEmpty = true := by rw [S_isEmpty]; rfl
        rw [hk1, hn0]
        obtain ⟨A1, hA1⟩ : ∃ z : VS, (⟨1, 0, []⟩ : VS) = z := ⟨_, rfl⟩
        have HRES : Hid (A1 = ⟨1, 0, []⟩) := hA1.symm
        rw [hA1]
        clear hA1 he
        clear HWI HGO hk HX HK hf hcb
        obtain ⟨k0, rfl, hr⟩ := h
        obtain ⟨a, cc, rfl, hcc, hmm⟩ := hr.shape
        obtain ⟨kd, n, rows⟩ := s
        dsimp only at *
        obtain ⟨A, hA⟩ : ∃ A : Obj, A = .cells #[.int .i64 kd, .int .i64 n, .slice a rows.length cc] 38 (0, 0) := ⟨_, rfl⟩
        obtain ⟨B, hB⟩ : ∃ B : Obj, B = .cells #[.int .i64 2, .string (S []), .string (S cb), .int .i64 cn] 29 (0, 0) := ⟨_, rfl⟩
        obtain ⟨C, hC⟩ : ∃ C : Obj, C = .cells #[.int .i64 y1, .string (S y2), .int .i64 y3] 30 (0, 0) := ⟨_, rfl⟩
        obtain ⟨c0, c1, c2, k0, k1, k2, k3, r0, r1, r2⟩ := B4.scr (w := w) (D := .cells #[.int .i64 0, .int .i64 0, .slice none 0 0] 38 (0, 0)) hA hB hC
        have hst := B4.start w A B C (.cells #[.int .i64 0, .int .i64 0, .slice none 0 0] 38 (0, 0))
        have hstd := hst.drew
        clear hr hs hop hk1 hn0
        go_enter Tryd.func37, Tryd.ntmps37
        go_wp2_with fail
        rw [← hA, ← hB, ← hC]
        clear hA hB hC
        go_region_held3 (fun w' => B4 w A B C (.cells #[.int .i64 0, .int .i64 0, .slice none 0 0] 38 (0, 0)) w') (with_reducible (first | exact hstd | exact hst | (refine B4.below ?_ (by assumption) <;> assumption)))
          (first | (go_at_call 56; refine (unhide HCH _).mono ?_; rintro e wm ⟨rfl, hbm⟩) | (go_at_call 11; refine (unhide HKI _).mono ?_; rintro e wn ⟨rfl, hbn⟩) | fail)
        have hx0 : B4 w A B C (.cells #[.int .i64 0, .int .i64 0, .slice none 0 0] 38 (0, 0)) wn := by assumption
        clear hbm hbn hst hstd HKI HCH
        obtain ⟨z0, z1, z2, zl, zo, y0, y1, y2, f1⟩ := hx0.give (.int .i64 1) (.int .i64 0) (.slice none 0 0)
        unfold put3 at z0 z1 z2 zl
        have ZL := hide zl
        clear zo zl
        go_wp2_with fail
        exact bodyPost_ret (v := .agg #[.int .i64 1, .int .i64 0, .slice none 0 0]) (by simp [results, Tryd.results37, go_sem, z0, z1, z2]) rfl ⟨_, rfl, Or.inl (by rw [unhide HRES]; exact ⟨_, rfl, World.ownsRow_nil _ _ _ _⟩), unhide ZL⟩
      · rw [if_neg hca]
        have het : (S ca).toList.isEmpty = false := by rw [S_isEmpty]; cases ca <;> simp_all
        have het2 : ca.isEmpty = false := by cases ca <;> simp_all
        rw [hk1, hn0]
        obtain ⟨A1, hA1⟩ : ∃ z : VS, (VS.rwith ⟨1, 0, []⟩ (ca, [])) = z := ⟨_, rfl⟩
        have HRES : Hid (A1 = ⟨1, 0, [(ca, [])]⟩) := hA1.symm
        rw [hA1]
        clear hA1 he
        clear HWI HGO hk HX HK hf hcb
        obtain ⟨k0, rfl, hr⟩ := h
        obtain ⟨a, cc, rfl, hcc, hmm⟩ := hr.shape
        obtain ⟨kd, n, rows⟩ := s
        dsimp only at *
        obtain ⟨A, hA⟩ : ∃ A : Obj, A = .cells #[.int .i64 kd, .int .i64 n, .slice a rows.length cc] 38 (0, 0) := ⟨_, rfl⟩
        obtain ⟨B, hB⟩ : ∃ B : Obj, B = .cells #[.int .i64 2, .string (S ca), .string (S cb), .int .i64 cn] 29 (0, 0) := ⟨_, rfl⟩
        obtain ⟨C, hC⟩ : ∃ C : Obj, C = .cells #[.int .i64 y1, .string (S y2), .int .i64 y3] 30 (0, 0) := ⟨_, rfl⟩
        obtain ⟨c0, c1, c2, k0, k1, k2, k3, r0, r1, r2⟩ := B4.scr (w := w) (D := .cells #[.int .i64 0, .int .i64 0, .slice none 0 0] 38 (0, 0)) hA hB hC
        have hst := B4.start w A B C (.cells #[.int .i64 0, .int .i64 0, .slice none 0 0] 38 (0, 0))
        have hstd := hst.drew
        clear hr hs hop hk1 hn0
        go_enter Tryd.func37, Tryd.ntmps37
        go_wp2_with fail
        rw [← hA, ← hB, ← hC]
        clear hA hB hC
        go_region_held3 (fun w' => B4 w A B C (.cells #[.int .i64 0, .int .i64 0, .slice none 0 0] 38 (0, 0)) w') (with_reducible (first | exact hstd | exact hst | (refine B4.below ?_ (by assumption) <;> assumption)))
          (first | (go_at_call 56; refine (unhide HCH _).mono ?_; rintro e wm ⟨rfl, hbm⟩) | (go_at_call 11; refine (unhide HKI _).mono ?_; rintro e wn ⟨rfl, hbn⟩) | fail)
        have hx0 : B4 w A B C (.cells #[.int .i64 0, .int .i64 0, .slice none 0 0] 38 (0, 0)) wn := by assumption
        clear hbm hbn hst hstd HKI HCH
        obtain ⟨z0, z1, z2, zl, zo, y0, y1, y2, f1⟩ := (hx0.below (under_box (.cells #[.string (S ca), .string ⟨#[]⟩] 77))).give (.int .i64 1) (.int .i64 0) (.slice (some ⟨wn.heap.size, 0, none⟩) 1 1)
        have ZO := hide (zo _ _ _ _ _ _ hx0.size (own_one wn wn.heap.size (.string (S ca)) (.string ⟨#[]⟩) 77 (Nat.le_refl _)))
        unfold put3 at z0 z1 z2 zl ZO
        have ZL := hide zl
        clear zo zl
        go_wp2_with fail
        exact bodyPost_ret (v := .agg #[.int .i64 1, .int .i64 0, .slice (some ⟨wn.heap.size, 0, none⟩) 1 1]) (by simp [results, Tryd.results37, go_sem, z0, z1, z2]) rfl ⟨_, rfl, Or.inl (by rw [unhide HRES]; exact ⟨_, rfl, unhide ZO⟩), unhide ZL⟩
    · rw [if_neg (by decide), if_pos (by decide)]
      have hk1 : s.kind = 2 := by rw [← unhide HK]; decide
      have hro := hf.bare (Or.inl hk1)
      obtain ⟨q, hq⟩ : ∃ q, wrap64 (s.n + cn) = q := ⟨_, rfl⟩
      have HQ := hide (wrap_eq hq)
      rw [hq, hro]
      clear HWI HGO hk HX HK hf hcb hq hro hk1
      obtain ⟨k0, rfl, hr⟩ := h
      obtain ⟨a, cc, rfl, hcc, hmm⟩ := hr.shape
      obtain ⟨kd, n, rows⟩ := s
      dsimp only at *
      obtain ⟨A, hA⟩ : ∃ A : Obj, A = .cells #[.int .i64 kd, .int .i64 n, .slice a rows.length cc] 38 (0, 0) := ⟨_, rfl⟩
      obtain ⟨B, hB⟩ : ∃ B : Obj, B = .cells #[.int .i64 3, .string (S ca), .string (S cb), .int .i64 cn] 29 (0, 0) := ⟨_, rfl⟩
      obtain ⟨C, hC⟩ : ∃ C : Obj, C = .cells #[.int .i64 y1, .string (S y2), .int .i64 y3] 30 (0, 0) := ⟨_, rfl⟩
      obtain ⟨c0, c1, c2, k0, k1, k2, k3, r0, r1, r2⟩ := B4.scr (w := w) (D := .cells #[.int .i64 0, .int .i64 0, .slice none 0 0] 38 (0, 0)) hA hB hC
      have hst := B4.start w A B C (.cells #[.int .i64 0, .int .i64 0, .slice none 0 0] 38 (0, 0))
      have hstd := hst.drew
      clear hr hs hop
      go_enter Tryd.func37, Tryd.ntmps37
      go_wp2_with fail
      rw [← hA, ← hB, ← hC]
      clear hA hB hC
      go_region_held3 (fun w' => B4 w A B C (.cells #[.int .i64 0, .int .i64 0, .slice none 0 0] 38 (0, 0)) w') (with_reducible (first | exact hstd | exact hst | (refine B4.below ?_ (by assumption) <;> assumption)))
        (first | (go_at_call 56; refine (unhide HCH _).mono ?_; rintro e wm ⟨rfl, hbm⟩) | (go_at_call 11; refine (unhide HKI _).mono ?_; rintro e wn ⟨rfl, hbn⟩) | fail)
      have hx0 : B4 w A B C (.cells #[.int .i64 0, .int .i64 0, .slice none 0 0] 38 (0, 0)) wn := by assumption
      clear hbm hbn hst hstd HKI HCH
      have hq := unhide HQ
      clear HQ
      obtain ⟨z0, z1, z2, zl, zo, y0, y1, y2, f1⟩ := hx0.give (.int .i64 kd) (.int .i64 q) (.slice none 0 0)
      unfold put3 at z0 z1 z2 zl
      have ZL := hide zl
      clear zo zl
      go_wp2_with fail
      exact bodyPost_ret (v := .agg #[.int .i64 kd, .int .i64 q, .slice none 0 0]) (by simp [results, Tryd.results37, go_sem, z0, z1, z2]) rfl ⟨_, rfl, Or.inl ⟨_, rfl, World.ownsRow_nil _ _ _ _⟩, unhide ZL⟩
    · rw [if_neg (by decide), if_pos (by decide)]
      have hk1 : s.kind = 3 := by rw [← unhide HK]; decide
      have hro := hf.bare (Or.inr hk1)
      obtain ⟨q, hq⟩ : ∃ q, wrap64 (s.n + cn) = q := ⟨_, rfl⟩
      have HQ := hide (wrap_eq hq)
      rw [hq, hro]
      clear HWI HGO hk HX HK hf hcb hq hro hk1
      obtain ⟨k0, rfl, hr⟩ := h
      obtain ⟨a, cc, rfl, hcc, hmm⟩ := hr.shape
      obtain ⟨kd, n, rows⟩ := s
      dsimp only at *
      obtain ⟨A, hA⟩ : ∃ A : Obj, A = .cells #[.int .i64 kd, .int .i64 n, .slice a rows.length cc] 38 (0, 0) := ⟨_, rfl⟩
      obtain ⟨B, hB⟩ : ∃ B : Obj, B = .cells #[.int .i64 5, .string (S ca), .string (S cb), .int .i64 cn] 29 (0, 0) := ⟨_, rfl⟩
      obtain ⟨C, hC⟩ : ∃ C : Obj, C = .cells #[.int .i64 y1, .string (S y2), .int .i64 y3] 30 (0, 0) := ⟨_, rfl⟩
      obtain ⟨c0, c1, c2, k0, k1, k2, k3, r0, r1, r2⟩ := B4.scr (w := w) (D := .cells #[.int .i64 0, .int .i64 0, .slice none 0 0] 38 (0, 0)) hA hB hC
      have hst := B4.start w A B C (.cells #[.int .i64 0, .int .i64 0, .slice none 0 0] 38 (0, 0))
      have hstd := hst.drew
      clear hr hs hop
      go_enter Tryd.func37, Tryd.ntmps37
      go_wp2_with fail
      rw [← hA, ← hB, ← hC]
      clear hA hB hC
      go_region_held3 (fun w' => B4 w A B C (.cells #[.int .i64 0, .int .i64 0, .slice none 0 0] 38 (0, 0)) w') (with_reducible (first | exact hstd | exact hst | (refine B4.below ?_ (by assumption) <;> assumption)))
        (first | (go_at_call 56; refine (unhide HCH _).mono ?_; rintro e wm ⟨rfl, hbm⟩) | (go_at_call 11; refine (unhide HKI _).mono ?_; rintro e wn ⟨rfl, hbn⟩) | fail)
      have hx0 : B4 w A B C (.cells #[.int .i64 0, .int .i64 0, .slice none 0 0] 38 (0, 0)) wn := by assumption
      clear hbm hbn hst hstd HKI HCH
      have hq := unhide HQ
      clear HQ
      obtain ⟨z0, z1, z2, zl, zo, y0, y1, y2, f1⟩ := hx0.give (.int .i64 kd) (.int .i64 q) (.slice none 0 0)
      unfold put3 at z0 z1 z2 zl
      have ZL := hide zl
      clear zo zl
      go_wp2_with fail
      exact bodyPost_ret (v := .agg #[.int .i64 kd, .int .i64 q, .slice none 0 0]) (by simp [results, Tryd.results37, go_sem, z0, z1, z2]) rfl ⟨_, rfl, Or.inl ⟨_, rfl, World.ownsRow_nil _ _ _ _⟩, unhide ZL⟩
    · rw [if_neg (by decide), if_neg (by decide), if_pos rfl]
      have hk1 : s.kind = 3 := by rw [← unhide HK]; decide
      have hro := hf.bare (Or.inr hk1)
      obtain ⟨q, hq⟩ : ∃ q, wrap64 (s.n - cn) = q := ⟨_, rfl⟩
      have HQ := hide (wrap_eq hq)
      rw [hq, hro]
      clear HWI HGO hk HX HK hf hcb hq hro hk1
      obtain ⟨k0, rfl, hr⟩ := h
      obtain ⟨a, cc, rfl, hcc, hmm⟩ := hr.shape
      obtain ⟨kd, n, rows⟩ := s
      dsimp only at *
      obtain ⟨A, hA⟩ : ∃ A : Obj, A = .cells #[.int .i64 kd, .int .i64 n, .slice a rows.length cc] 38 (0, 0) := ⟨_, rfl⟩
      obtain ⟨B, hB⟩ : ∃ B : Obj, B = .cells #[.int .i64 6, .string (S ca), .string (S cb), .int .i64 cn] 29 (0, 0) := ⟨_, rfl⟩
      obtain ⟨C, hC⟩ : ∃ C : Obj, C = .cells #[.int .i64 y1, .string (S y2), .int .i64 y3] 30 (0, 0) := ⟨_, rfl⟩
      obtain ⟨c0, c1, c2, k0, k1, k2, k3, r0, r1, r2⟩ := B4.scr (w := w) (D := .cells #[.int .i64 0, .int .i64 0, .slice none 0 0] 38 (0, 0)) hA hB hC
      have hst := B4.start w A B C (.cells #[.int .i64 0, .int .i64 0, .slice none 0 0] 38 (0, 0))
      have hstd := hst.drew
      clear hr hs hop
      go_enter Tryd.func37, Tryd.ntmps37
      go_wp2_with fail
      rw [← hA, ← hB, ← hC]
      clear hA hB hC
      go_region_held3 (fun w' => B4 w A B C (.cells #[.int .i64 0, .int .i64 0, .slice none 0 0] 38 (0, 0)) w') (with_reducible (first | exact hstd | exact hst | (refine B4.below ?_ (by assumption) <;> assumption)))
        (first | (go_at_call 56; refine (unhide HCH _).mono ?_; rintro e wm ⟨rfl, hbm⟩) | (go_at_call 11; refine (unhide HKI _).mono ?_; rintro e wn ⟨rfl, hbn⟩) | fail)
      have hx0 : B4 w A B C (.cells #[.int .i64 0, .int .i64 0, .slice none 0 0] 38 (0, 0)) wn := by assumption
      clear hbm hbn hst hstd HKI HCH
      have hq := unhide HQ
      clear HQ
      obtain ⟨z0, z1, z2, zl, zo, y0, y1, y2, f1⟩ := hx0.give (.int .i64 kd) (.int .i64 q) (.slice none 0 0)
      unfold put3 at z0 z1 z2 zl
      have ZL := hide zl
      clear zo zl
      go_wp2_with fail
      exact bodyPost_ret (v := .agg #[.int .i64 kd, .int .i64 q, .slice none 0 0]) (by simp [results, Tryd.results37, go_sem, z0, z1, z2]) rfl ⟨_, rfl, Or.inl ⟨_, rfl, World.ownsRow_nil _ _ _ _⟩, unhide ZL⟩
    · rw [if_neg (by decide), if_neg (by decide), if_neg (by decide), if_pos (by decide)]
      have hb0 := hcb (by decide)
      subst hb0
      have HC2 : Hid (∀ (w1 : World) (hb : Below w.heap.size w w1), Calls Tryd.prog 55 #[v, .agg #[.string (S ca), .string ⟨#[]⟩]] w1 fun e w' => ∃ v', e = .returned v' ∧ StOwn w1.heap.size 77 w' v' (s.rwith (ca, [])) ∧ Below w1.heap.size w1 w') := fun w1 hb => unhide HWI w1 hb (ca, [])
      generalize s.rwith (ca, []) = y at *
      clear HWI HGO hk HX HK hf hcb
      obtain ⟨k0, rfl, hr⟩ := h
      obtain ⟨a, cc, rfl, hcc, hmm⟩ := hr.shape
      obtain ⟨kd, n, rows⟩ := s
      dsimp only at *
      obtain ⟨A, hA⟩ : ∃ A : Obj, A = .cells #[.int .i64 kd, .int .i64 n, .slice a rows.length cc] 38 (0, 0) := ⟨_, rfl⟩
      obtain ⟨B, hB⟩ : ∃ B : Obj, B = .cells #[.int .i64 8, .string (S ca), .string (S []), .int .i64 cn] 29 (0, 0) := ⟨_, rfl⟩
      obtain ⟨C, hC⟩ : ∃ C : Obj, C = .cells #[.int .i64 y1, .string (S y2), .int .i64 y3] 30 (0, 0) := ⟨_, rfl⟩
      obtain ⟨c0, c1, c2, k0, k1, k2, k3, r0, r1, r2⟩ := B4.scr (w := w) (D := .cells #[.int .i64 0, .int .i64 0, .slice none 0 0] 38 (0, 0)) hA hB hC
      have hst := B4.start w A B C (.cells #[.int .i64 0, .int .i64 0, .slice none 0 0] 38 (0, 0))
      have hstd := hst.drew
      clear hr hs hop
      go_enter Tryd.func37, Tryd.ntmps37
      go_wp2_with fail
      rw [← hA, ← hB, ← hC]
      clear hA hB hC
      go_region_held3 (fun w' => B4 w A B C (.cells #[.int .i64 0, .int .i64 0, .slice none 0 0] 38 (0, 0)) w') (with_reducible (first | exact hstd | exact hst | (refine B4.below ?_ (by assumption) <;> assumption)))
        (first | (go_at_call 56; refine (unhide HCH _).mono ?_; rintro e wm ⟨rfl, hbm⟩) | (go_at_call 11; refine (unhide HKI _).mono ?_; rintro e wn ⟨rfl, hbn⟩) | fail)
      have hx0 : B4 w A B C (.cells #[.int .i64 0, .int .i64 0, .slice none 0 0] 38 (0, 0)) wn := by assumption
      clear hbm hbn hst hstd HKI HCH
      go_wp2_with fail
      refine (unhide HC2 _ hx0.low).mono ?_
      rintro e w2 ⟨v2, rfl, ⟨k2, rfl, ho⟩, hb⟩
      obtain ⟨ka, kc, rfl, _⟩ := ownsRow_slice ho
      have hx2 := hx0.below hb
      obtain ⟨z0, z1, z2, zl, zo, y0, y1, y2, f1⟩ := hx2.give (.int .i64 y.kind) (.int .i64 y.n) (.slice ka y.rows.length kc)
      have ZO := hide (zo _ _ _ _ _ _ (by have := hx0.size; omega) ho)
      unfold put3 at z0 z1 z2 zl ZO
      have ZL := hide zl
      clear hx2 hb ho zo zl hx0
      go_wp2_with fail
      exact bodyPost_ret (v := .agg #[.int .i64 y.kind, .int .i64 y.n, .slice ka y.rows.length kc]) (by simp [results, Tryd.results37, go_sem, z0, z1, z2]) rfl ⟨_, rfl, Or.inl ⟨_, rfl, unhide ZO⟩, unhide ZL⟩
    · have HC2 := hide (fun (w1 : World) (hb : Below w.heap.size w w1) => unhide HGO w1 hb ca)
      rw [if_neg (by decide), if_neg (by decide), if_neg (by decide), if_neg (by decide), if_pos (by decide)]
      generalize s.gone ca = y at *
      clear HWI HGO hk HX HK hf hcb
      obtain ⟨k0, rfl, hr⟩ := h
      obtain ⟨a, cc, rfl, hcc, hmm⟩ := hr.shape
      obtain ⟨kd, n, rows⟩ := s
      dsimp only at *
      obtain ⟨A, hA⟩ : ∃ A : Obj, A = .cells #[.int .i64 kd, .int .i64 n, .slice a rows.length cc] 38 (0, 0) := ⟨_, rfl⟩
      obtain ⟨B, hB⟩ : ∃ B : Obj, B = .cells #[.int .i64 9, .string (S ca), .string (S cb), .int .i64 cn] 29 (0, 0) := ⟨_, rfl⟩
      obtain ⟨C, hC⟩ : ∃ C : Obj, C = .cells #[.int .i64 y1, .string (S y2), .int .i64 y3] 30 (0, 0) := ⟨_, rfl⟩
      obtain ⟨c0, c1, c2, k0, k1, k2, k3, r0, r1, r2⟩ := B4.scr (w := w) (D := .cells #[.int .i64 0, .int .i64 0, .slice none 0 0] 38 (0, 0)) hA hB hC
      have hst := B4.start w A B C (.cells #[.int .i64 0, .int .i64 0, .slice none 0 0] 38 (0, 0))
      have hstd := hst.drew
      clear hr hs hop
      go_enter Tryd.func37, Tryd.ntmps37
      go_wp2_with fail
      rw [← hA, ← hB, ← hC]
      clear hA hB hC
      go_region_held3 (fun w' => B4 w A B C (.cells #[.int .i64 0, .int .i64 0, .slice none 0 0] 38 (0, 0)) w') (with_reducible (first | exact hstd | exact hst | (refine B4.below ?_ (by assumption) <;> assumption)))
        (first | (go_at_call 56; refine (unhide HCH _).mono ?_; rintro e wm ⟨rfl, hbm⟩) | (go_at_call 11; refine (unhide HKI _).mono ?_; rintro e wn ⟨rfl, hbn⟩) | fail)
      have hx0 : B4 w A B C (.cells #[.int .i64 0, .int .i64 0, .slice none 0 0] 38 (0, 0)) wn := by assumption
      clear hbm hbn hst hstd HKI HCH
      go_wp2_with fail
      refine (unhide HC2 _ hx0.low).mono ?_
      rintro e w2 ⟨v2, rfl, hor, hb⟩
      rcases hor with ⟨k2, rfl, ho⟩ | ⟨rfl, hsame⟩
      · obtain ⟨ka, kc, rfl, _⟩ := ownsRow_slice ho
        have hx2 := hx0.below hb
        obtain ⟨z0, z1, z2, zl, zo, y0, y1, y2, f1⟩ := hx2.give (.int .i64 y.kind) (.int .i64 y.n) (.slice ka y.rows.length kc)
        have ZO := hide (zo _ _ _ _ _ _ (by have := hx0.size; omega) ho)
        unfold put3 at z0 z1 z2 zl ZO
        have ZL := hide zl
        clear hx2 hb ho zo zl hx0
        go_wp2_with fail
        exact bodyPost_ret (v := .agg #[.int .i64 y.kind, .int .i64 y.n, .slice ka y.rows.length kc]) (by simp [results, Tryd.results37, go_sem, z0, z1, z2]) rfl ⟨_, rfl, Or.inl ⟨_, rfl, unhide ZO⟩, unhide ZL⟩
      · have hx2 := hx0.below hb
        obtain ⟨z0, z1, z2, zl, zo, y0, y1, y2, f1⟩ := hx2.give (.int .i64 kd) (.int .i64 n) (.slice a rows.length cc)
        unfold put3 at z0 z1 z2 zl
        have ZL := hide zl
        have HSM := hide hsame
        clear hx2 hb zo zl hx0 hsame
        go_wp2_with fail
        exact bodyPost_ret (v := .agg #[.int .i64 kd, .int .i64 n, .slice a rows.length cc]) (by simp [results, Tryd.results37, go_sem, z0, z1, z2]) rfl ⟨_, rfl, Or.inr ⟨rfl, unhide HSM⟩, unhide ZL⟩
    · rw [if_neg (by decide), if_neg (by decide), if_neg (by decide), if_pos (by decide)]
      have HC2 := hide (fun (w1 : World) (hb : Below w.heap.size w w1) => unhide HWI w1 hb (ca, cb))
      generalize s.rwith (ca, cb) = y at *
      clear HWI HGO hk HX HK hf hcb
      obtain ⟨k0, rfl, hr⟩ := h
      obtain ⟨a, cc, rfl, hcc, hmm⟩ := hr.shape
      obtain ⟨kd, n, rows⟩ := s
      dsimp only at *
      obtain ⟨A, hA⟩ : ∃ A : Obj, A = .cells #[.int .i64 kd, .int .i64 n, .slice a rows.length cc] 38 (0, 0) := ⟨_, rfl⟩
      obtain ⟨B, hB⟩ : ∃ B : Obj, B = .cells #[.int .i64 11, .string (S ca), .string (S cb), .int .i64 cn] 29 (0, 0) := ⟨_, rfl⟩
      obtain ⟨C, hC⟩ : ∃ C : Obj, C = .cells #[.int .i64 y1, .string (S y2), .int .i64 y3] 30 (0, 0) := ⟨_, rfl⟩
      obtain ⟨c0, c1, c2, k0, k1, k2, k3, r0, r1, r2⟩ := B4.scr (w := w) (D := .cells #[.int .i64 0, .int .i64 0, .slice none 0 0] 38 (0, 0)) hA hB hC
      have hst := B4.start w A B C (.cells #[.int .i64 0, .int .i64 0, .slice none 0 0] 38 (0, 0))
      have hstd := hst.drew
      clear hr hs hop
      go_enter Tryd.func37, Tryd.ntmps37
      go_wp2_with fail
      rw [← hA, ← hB, ← hC]
      clear hA hB hC
      go_region_held3 (fun w' => B4 w A B C (.cells #[.int .i64 0, .int .i64 0, .slice none 0 0] 38 (0, 0)) w') (with_reducible (first | exact hstd | exact hst | (refine B4.below ?_ (by assumption) <;> assumption)))
        (first | (go_at_call 56; refine (unhide HCH _).mono ?_; rintro e wm ⟨rfl, hbm⟩) | (go_at_call 11; refine (unhide HKI _).mono ?_; rintro e wn ⟨rfl, hbn⟩) | fail)
      have hx0 : B4 w A B C (.cells #[.int .i64 0, .int .i64 0, .slice none 0 0] 38 (0, 0)) wn := by assumption
      clear hbm hbn hst hstd HKI HCH
      go_wp2_with fail
      refine (unhide HC2 _ hx0.low).mono ?_
      rintro e w2 ⟨v2, rfl, ⟨k2, rfl, ho⟩, hb⟩
      obtain ⟨ka, kc, rfl, _⟩ := ownsRow_slice ho
      have hx2 := hx0.below hb
      obtain ⟨z0, z1, z2, zl, zo, y0, y1, y2, f1⟩ := hx2.give (.int .i64 y.kind) (.int .i64 y.n) (.slice ka y.rows.length kc)
      have ZO := hide (zo _ _ _ _ _ _ (by have := hx0.size; omega) ho)
      unfold put3 at z0 z1 z2 zl ZO
      have ZL := hide zl
      clear hx2 hb ho zo zl hx0
      go_wp2_with fail
      exact bodyPost_ret (v := .agg #[.int .i64 y.kind, .int .i64 y.n, .slice ka y.rows.length kc]) (by simp [results, Tryd.results37, go_sem, z0, z1, z2]) rfl ⟨_, rfl, Or.inl ⟨_, rfl, unhide ZO⟩, unhide ZL⟩
    · have HC2 := hide (fun (w1 : World) (hb : Below w.heap.size w w1) => unhide HGO w1 hb ca)
      rw [if_neg (by decide), if_neg (by decide), if_neg (by decide), if_neg (by decide), if_pos (by decide)]
      generalize s.gone ca = y at *
      clear HWI HGO hk HX HK hf hcb
      obtain ⟨k0, rfl, hr⟩ := h
      obtain ⟨a, cc, rfl, hcc, hmm⟩ := hr.shape
      obtain ⟨kd, n, rows⟩ := s
      dsimp only at *
      obtain ⟨A, hA⟩ : ∃ A : Obj, A = .cells #[.int .i64 kd, .int .i64 n, .slice a rows.length cc] 38 (0, 0) := ⟨_, rfl⟩
      obtain ⟨B, hB⟩ : ∃ B : Obj, B = .cells #[.int .i64 12, .string (S ca), .string (S cb), .int .i64 cn] 29 (0, 0) := ⟨_, rfl⟩
      obtain ⟨C, hC⟩ : ∃ C : Obj, C = .cells #[.int .i64 y1, .string (S y2), .int .i64 y3] 30 (0, 0) := ⟨_, rfl⟩
      obtain ⟨c0, c1, c2, k0, k1, k2, k3, r0, r1, r2⟩ := B4.scr (w := w) (D := .cells #[.int .i64 0, .int .i64 0, .slice none 0 0] 38 (0, 0)) hA hB hC
      have hst := B4.start w A B C (.cells #[.int .i64 0, .int .i64 0, .slice none 0 0] 38 (0, 0))
      have hstd := hst.drew
      clear hr hs hop
      go_enter Tryd.func37, Tryd.ntmps37
      go_wp2_with fail
      rw [← hA, ← hB, ← hC]
      clear hA hB hC
      go_region_held3 (fun w' => B4 w A B C (.cells #[.int .i64 0, .int .i64 0, .slice none 0 0] 38 (0, 0)) w') (with_reducible (first | exact hstd | exact hst | (refine B4.below ?_ (by assumption) <;> assumption)))
        (first | (go_at_call 56; refine (unhide HCH _).mono ?_; rintro e wm ⟨rfl, hbm⟩) | (go_at_call 11; refine (unhide HKI _).mono ?_; rintro e wn ⟨rfl, hbn⟩) | fail)
      have hx0 : B4 w A B C (.cells #[.int .i64 0, .int .i64 0, .slice none 0 0] 38 (0, 0)) wn := by assumption
      clear hbm hbn hst hstd HKI HCH
      go_wp2_with fail
      refine (unhide HC2 _ hx0.low).mono ?_
      rintro e w2 ⟨v2, rfl, hor, hb⟩
      rcases hor with ⟨k2, rfl, ho⟩ | ⟨rfl, hsame⟩
      · obtain ⟨ka, kc, rfl, _⟩ := ownsRow_slice ho
        have hx2 := hx0.below hb
        obtain ⟨z0, z1, z2, zl, zo, y0, y1, y2, f1⟩ := hx2.give (.int .i64 y.kind) (.int .i64 y.n) (.slice ka y.rows.length kc)
        have ZO := hide (zo _ _ _ _ _ _ (by have := hx0.size; omega) ho)
        unfold put3 at z0 z1 z2 zl ZO
        have ZL := hide zl
        clear hx2 hb ho zo zl hx0
        go_wp2_with fail
        exact bodyPost_ret (v := .agg #[.int .i64 y.kind, .int .i64 y.n, .slice ka y.rows.length kc]) (by simp [results, Tryd.results37, go_sem, z0, z1, z2]) rfl ⟨_, rfl, Or.inl ⟨_, rfl, unhide ZO⟩, unhide ZL⟩
      · have hx2 := hx0.below hb
        obtain ⟨z0, z1, z2, zl, zo, y0, y1, y2, f1⟩ := hx2.give (.int .i64 kd) (.int .i64 n) (.slice a rows.length cc)
        unfold put3 at z0 z1 z2 zl
        have ZL := hide zl
        have HSM := hide hsame
        clear hx2 hb zo zl hx0 hsame
        go_wp2_with fail
        exact bodyPost_ret (v := .agg #[.int .i64 kd, .int .i64 n, .slice a rows.length cc]) (by simp [results, Tryd.results37, go_sem, z0, z1, z2]) rfl ⟨_, rfl, Or.inr ⟨rfl, unhide HSM⟩, unhide ZL⟩
    · rw [if_neg (by decide), if_neg (by decide), if_neg (by decide), if_pos (by decide)]
      have hb0 := hcb (by decide)
      subst hb0
      have HC2 : Hid (∀ (w1 : World) (hb : Below w.heap.size w w1), Calls Tryd.prog 55 #[v, .agg #[.string (S ca), .string ⟨#[]⟩]] w1 fun e w' => ∃ v', e = .returned v' ∧ StOwn w1.heap.size 77 w' v' (s.rwith (ca, [])) ∧ Below w1.heap.size w1 w') := fun w1 hb => unhide HWI w1 hb (ca, [])
      generalize s.rwith (ca, []) = y at *
      clear HWI HGO hk HX HK hf hcb
      obtain ⟨k0, rfl, hr⟩ := h
      obtain ⟨a, cc, rfl, hcc, hmm⟩ := hr.shape
      obtain ⟨kd, n, rows⟩ := s
      dsimp only at *
      obtain ⟨A, hA⟩ : ∃ A : Obj, A = .cells #[.int .i64 kd, .int .i64 n, .slice a rows.length cc] 38 (0, 0) := ⟨_, rfl⟩
      obtain ⟨B, hB⟩ : ∃ B : Obj, B = .cells #[.int .i64 14, .string (S ca), .string (S []), .int .i64 cn] 29 (0, 0) := ⟨_, rfl⟩
      obtain ⟨C, hC⟩ : ∃ C : Obj, C = .cells #[.int .i64 y1, .string (S y2), .int .i64 y3] 30 (0, 0) := ⟨_, rfl⟩
      obtain ⟨c0, c1, c2, k0, k1, k2, k3, r0, r1, r2⟩ := B4.scr (w := w) (D := .cells #[.int .i64 0, .int .i64 0, .slice none 0 0] 38 (0, 0)) hA hB hC
      have hst := B4.start w A B C (.cells #[.int .i64 0, .int .i64 0, .slice none 0 0] 38 (0, 0))
      have hstd := hst.drew
      clear hr hs hop
      go_enter Tryd.func37, Tryd.ntmps37
      go_wp2_with fail
      rw [← hA, ← hB, ← hC]
      clear hA hB hC
      go_region_held3 (fun w' => B4 w A B C (.cells #[.int .i64 0, .int .i64 0, .slice none 0 0] 38 (0, 0)) w') (with_reducible (first | exact hstd | exact hst | (refine B4.below ?_ (by assumption) <;> assumption)))
        (first | (go_at_call 56; refine (unhide HCH _).mono ?_; rintro e wm ⟨rfl, hbm⟩) | (go_at_call 11; refine (unhide HKI _).mono ?_; rintro e wn ⟨rfl, hbn⟩) | fail)
      have hx0 : B4 w A B C (.cells #[.int .i64 0, .int .i64 0, .slice none 0 0] 38 (0, 0)) wn := by assumption
      clear hbm hbn hst hstd HKI HCH
      go_wp2_with fail
      refine (unhide HC2 _ hx0.low).mono ?_
      rintro e w2 ⟨v2, rfl, ⟨k2, rfl, ho⟩, hb⟩
      obtain ⟨ka, kc, rfl, _⟩ := ownsRow_slice ho
      have hx2 := hx0.below hb
      obtain ⟨z0, z1, z2, zl, zo, y0, y1, y2, f1⟩ := hx2.give (.int .i64 y.kind) (.int .i64 y.n) (.slice ka y.rows.length kc)
      have ZO := hide (zo _ _ _ _ _ _ (by have := hx0.size; omega) ho)
      unfold put3 at z0 z1 z2 zl ZO
      have ZL := hide zl
      clear hx2 hb ho zo zl hx0
      go_wp2_with fail
      exact bodyPost_ret (v := .agg #[.int .i64 y.kind, .int .i64 y.n, .slice ka y.rows.length kc]) (by simp [results, Tryd.results37, go_sem, z0, z1, z2]) rfl ⟨_, rfl, Or.inl ⟨_, rfl, unhide ZO⟩, unhide ZL⟩
    · have HC2 := hide (fun (w1 : World) (hb : Below w.heap.size w w1) => unhide HGO w1 hb y2)
      rw [if_neg (by decide), if_neg (by decide), if_neg (by decide), if_neg (by decide), if_neg (by decide)]
      generalize s.gone y2 = y at *
      clear HWI HGO hk HX HK hf hcb
      obtain ⟨k0, rfl, hr⟩ := h
      obtain ⟨a, cc, rfl, hcc, hmm⟩ := hr.shape
      obtain ⟨kd, n, rows⟩ := s
      dsimp only at *
      obtain ⟨A, hA⟩ : ∃ A : Obj, A = .cells #[.int .i64 kd, .int .i64 n, .slice a rows.length cc] 38 (0, 0) := ⟨_, rfl⟩
      obtain ⟨B, hB⟩ : ∃ B : Obj, B = .cells #[.int .i64 15, .string (S ca), .string (S cb), .int .i64 cn] 29 (0, 0) := ⟨_, rfl⟩
      obtain ⟨C, hC⟩ : ∃ C : Obj, C = .cells #[.int .i64 y1, .string (S y2), .int .i64 y3] 30 (0, 0) := ⟨_, rfl⟩
      obtain ⟨c0, c1, c2, k0, k1, k2, k3, r0, r1, r2⟩ := B4.scr (w := w) (D := .cells #[.int .i64 0, .int .i64 0, .slice none 0 0] 38 (0, 0)) hA hB hC
      have hst := B4.start w A B C (.cells #[.int .i64 0, .int .i64 0, .slice none 0 0] 38 (0, 0))
      have hstd := hst.drew
      clear hr hs hop
      go_enter Tryd.func37, Tryd.ntmps37
      go_wp2_with fail
      rw [← hA, ← hB, ← hC]
      clear hA hB hC
      go_region_held3 (fun w' => B4 w A B C (.cells #[.int .i64 0, .int .i64 0, .slice none 0 0] 38 (0, 0)) w') (with_reducible (first | exact hstd | exact hst | (refine B4.below ?_ (by assumption) <;> assumption)))
        (first | (go_at_call 56; refine (unhide HCH _).mono ?_; rintro e wm ⟨rfl, hbm⟩) | (go_at_call 11; refine (unhide HKI _).mono ?_; rintro e wn ⟨rfl, hbn⟩) | fail)
      have hx0 : B4 w A B C (.cells #[.int .i64 0, .int .i64 0, .slice none 0 0] 38 (0, 0)) wn := by assumption
      clear hbm hbn hst hstd HKI HCH
      go_wp2_with fail
      refine (unhide HC2 _ hx0.low).mono ?_
      rintro e w2 ⟨v2, rfl, hor, hb⟩
      rcases hor with ⟨k2, rfl, ho⟩ | ⟨rfl, hsame⟩
      · obtain ⟨ka, kc, rfl, _⟩ := ownsRow_slice ho
        have hx2 := hx0.below hb
        obtain ⟨z0, z1, z2, zl, zo, y0, y1, y2, f1⟩ := hx2.give (.int .i64 y.kind) (.int .i64 y.n) (.slice ka y.rows.length kc)
        have ZO := hide (zo _ _ _ _ _ _ (by have := hx0.size; omega) ho)
        unfold put3 at z0 z1 z2 zl ZO
        have ZL := hide zl
        clear hx2 hb ho zo zl hx0
        go_wp2_with fail
        exact bodyPost_ret (v := .agg #[.int .i64 y.kind, .int .i64 y.n, .slice ka y.rows.length kc]) (by simp [results, Tryd.results37, go_sem, z0, z1, z2]) rfl ⟨_, rfl, Or.inl ⟨_, rfl, unhide ZO⟩, unhide ZL⟩
      · have hx2 := hx0.below hb
        obtain ⟨z0, z1, z2, zl, zo, y0, y1, y2, f1⟩ := hx2.give (.int .i64 kd) (.int .i64 n) (.slice a rows.length cc)
        unfold put3 at z0 z1 z2 zl
        have ZL := hide zl
        have HSM := hide hsame
        clear hx2 hb zo zl hx0 hsame
        go_wp2_with fail
        exact bodyPost_ret (v := .agg #[.int .i64 kd, .int .i64 n, .slice a rows.length cc]) (by simp [results, Tryd.results37, go_sem, z0, z1, z2]) rfl ⟨_, rfl, Or.inr ⟨rfl, unhide HSM⟩, unhide ZL⟩
    · rw [if_neg (by decide), if_neg (by decide), if_neg (by decide), if_pos (by decide)]
      have hb0 := hcb (by decide)
      subst hb0
      have HC2 : Hid (∀ (w1 : World) (hb : Below w.heap.size w w1), Calls Tryd.prog 55 #[v, .agg #[.string (S ca), .string ⟨#[]⟩]] w1 fun e w' => ∃ v', e = .returned v' ∧ StOwn w1.heap.size 77 w' v' (s.rwith (ca, [])) ∧ Below w1.heap.size w1 w') := fun w1 hb => unhide HWI w1 hb (ca, [])
      generalize s.rwith (ca, []) = y at *
      clear HWI HGO hk HX HK hf hcb
      obtain ⟨k0, rfl, hr⟩ := h
      obtain ⟨a, cc, rfl, hcc, hmm⟩ := hr.shape
      obtain ⟨kd, n, rows⟩ := s
      dsimp only at *
      obtain ⟨A, hA⟩ : ∃ A : Obj, A = .cells #[.int .i64 kd, .int .i64 n, .slice a rows.length cc] 38 (0, 0) := ⟨_, rfl⟩
      obtain ⟨B, hB⟩ : ∃ B : Obj, B = .cells #[.int .i64 16, .string (S ca), .string (S []), .int .i64 cn] 29 (0, 0) := ⟨_, rfl⟩
      obtain ⟨C, hC⟩ : ∃ C : Obj, C = .cells #[.int .i64 y1, .string (S y2), .int .i64 y3] 30 (0, 0) := ⟨_, rfl⟩
      obtain ⟨c0, c1, c2, k0, k1, k2, k3, r0, r1, r2⟩ := B4.scr (w := w) (D := .cells #[.int .i64 0, .int .i64 0, .slice none 0 0] 38 (0, 0)) hA hB hC
      have hst := B4.start w A B C (.cells #[.int .i64 0, .int .i64 0, .slice none 0 0] 38 (0, 0))
      have hstd := hst.drew
      clear hr hs hop
      go_enter Tryd.func37, Tryd.ntmps37
      go_wp2_with fail
      rw [← hA, ← hB, ← hC]
      clear hA hB hC
      go_region_held3 (fun w' => B4 w A B C (.cells #[.int .i64 0, .int .i64 0, .slice none 0 0] 38 (0, 0)) w') (with_reducible (first | exact hstd | exact hst | (refine B4.below ?_ (by assumption) <;> assumption)))
        (first | (go_at_call 56; refine (unhide HCH _).mono ?_; rintro e wm ⟨rfl, hbm⟩) | (go_at_call 11; refine (unhide HKI _).mono ?_; rintro e wn ⟨rfl, hbn⟩) | fail)
      have hx0 : B4 w A B C (.cells #[.int .i64 0, .int .i64 0, .slice none 0 0] 38 (0, 0)) wn := by assumption
      clear hbm hbn hst hstd HKI HCH
      go_wp2_with fail
      refine (unhide HC2 _ hx0.low).mono ?_
      rintro e w2 ⟨v2, rfl, ⟨k2, rfl, ho⟩, hb⟩
      obtain ⟨ka, kc, rfl, _⟩ := ownsRow_slice ho
      have hx2 := hx0.below hb
      obtain ⟨z0, z1, z2, zl, zo, y0, y1, y2, f1⟩ := hx2.give (.int .i64 y.kind) (.int .i64 y.n) (.slice ka y.rows.length kc)
      have ZO := hide (zo _ _ _ _ _ _ (by have := hx0.size; omega) ho)
      unfold put3 at z0 z1 z2 zl ZO
      have ZL := hide zl
      clear hx2 hb ho zo zl hx0
      go_wp2_with fail
      exact bodyPost_ret (v := .agg #[.int .i64 y.kind, .int .i64 y.n, .slice ka y.rows.length kc]) (by simp [results, Tryd.results37, go_sem, z0, z1, z2]) rfl ⟨_, rfl, Or.inl ⟨_, rfl, unhide ZO⟩, unhide ZL⟩
    · have HC2 := hide (fun (w1 : World) (hb : Below w.heap.size w w1) => unhide HGO w1 hb y2)
      rw [if_neg (by decide), if_neg (by decide), if_neg (by decide), if_neg (by decide), if_neg (by decide)]
      generalize s.gone y2 = y at *
      clear HWI HGO hk HX HK hf hcb
      obtain ⟨k0, rfl, hr⟩ := h
      obtain ⟨a, cc, rfl, hcc, hmm⟩ := hr.shape
      obtain ⟨kd, n, rows⟩ := s
      dsimp only at *
      obtain ⟨A, hA⟩ : ∃ A : Obj, A = .cells #[.int .i64 kd, .int .i64 n, .slice a rows.length cc] 38 (0, 0) := ⟨_, rfl⟩
      obtain ⟨B, hB⟩ : ∃ B : Obj, B = .cells #[.int .i64 17, .string (S ca), .string (S cb), .int .i64 cn] 29 (0, 0) := ⟨_, rfl⟩
      obtain ⟨C, hC⟩ : ∃ C : Obj, C = .cells #[.int .i64 y1, .string (S y2), .int .i64 y3] 30 (0, 0) := ⟨_, rfl⟩
      obtain ⟨c0, c1, c2, k0, k1, k2, k3, r0, r1, r2⟩ := B4.scr (w := w) (D := .cells #[.int .i64 0, .int .i64 0, .slice none 0 0] 38 (0, 0)) hA hB hC
      have hst := B4.start w A B C (.cells #[.int .i64 0, .int .i64 0, .slice none 0 0] 38 (0, 0))
      have hstd := hst.drew
      clear hr hs hop
      go_enter Tryd.func37, Tryd.ntmps37
      go_wp2_with fail
      rw [← hA, ← hB, ← hC]
      clear hA hB hC
      go_region_held3 (fun w' => B4 w A B C (.cells #[.int .i64 0, .int .i64 0, .slice none 0 0] 38 (0, 0)) w') (with_reducible (first | exact hstd | exact hst | (refine B4.below ?_ (by assumption) <;> assumption)))
        (first | (go_at_call 56; refine (unhide HCH _).mono ?_; rintro e wm ⟨rfl, hbm⟩) | (go_at_call 11; refine (unhide HKI _).mono ?_; rintro e wn ⟨rfl, hbn⟩) | fail)
      have hx0 : B4 w A B C (.cells #[.int .i64 0, .int .i64 0, .slice none 0 0] 38 (0, 0)) wn := by assumption
      clear hbm hbn hst hstd HKI HCH
      go_wp2_with fail
      refine (unhide HC2 _ hx0.low).mono ?_
      rintro e w2 ⟨v2, rfl, hor, hb⟩
      rcases hor with ⟨k2, rfl, ho⟩ | ⟨rfl, hsame⟩
      · obtain ⟨ka, kc, rfl, _⟩ := ownsRow_slice ho
        have hx2 := hx0.below hb
        obtain ⟨z0, z1, z2, zl, zo, y0, y1, y2, f1⟩ := hx2.give (.int .i64 y.kind) (.int .i64 y.n) (.slice ka y.rows.length kc)
        have ZO := hide (zo _ _ _ _ _ _ (by have := hx0.size; omega) ho)
        unfold put3 at z0 z1 z2 zl ZO
        have ZL := hide zl
        clear hx2 hb ho zo zl hx0
        go_wp2_with fail
        exact bodyPost_ret (v := .agg #[.int .i64 y.kind, .int .i64 y.n, .slice ka y.rows.length kc]) (by simp [results, Tryd.results37, go_sem, z0, z1, z2]) rfl ⟨_, rfl, Or.inl ⟨_, rfl, unhide ZO⟩, unhide ZL⟩
      · have hx2 := hx0.below hb
        obtain ⟨z0, z1, z2, zl, zo, y0, y1, y2, f1⟩ := hx2.give (.int .i64 kd) (.int .i64 n) (.slice a rows.length cc)
        unfold put3 at z0 z1 z2 zl
        have ZL := hide zl
        have HSM := hide hsame
        clear hx2 hb zo zl hx0 hsame
        go_wp2_with fail
        exact bodyPost_ret (v := .agg #[.int .i64 kd, .int .i64 n, .slice a rows.length cc]) (by simp [results, Tryd.results37, go_sem, z0, z1, z2]) rfl ⟨_, rfl, Or.inr ⟨rfl, unhide HSM⟩, unhide ZL⟩
set_option maxHeartbeats 12800000 in
theorem rapply_ne {w : World} {v : Value} {s : VS} {c : MC} (h : StAt w v s) (hop : okOp c.op) (r : MR) (hk : (mfact c.op).kind ≠ s.kind) :
    Calls Tryd.prog 37 #[v, mcV c, mrV r] w fun e w' => ∃ v', e = .returned v' ∧ (StOwn w.heap.size 77 w' v' s ∨ (v' = v ∧ s = s)) ∧ Below w.heap.size w w' := by
  have HKI := hide (fun (w1 : World) => rkind_any (w := w1) c.op hop)
  have HCH := hide (fun (w1 : World) => rchanges_any (w := w1) c r)
  obtain ⟨op, ca, cb, cn⟩ := c
  obtain ⟨y1, y2, y3⟩ := r
  unfold mcV mrV at *
  dsimp only at *
  have e0 : ((mfact op).kind != s.kind) = true := by rw [bne_iff_ne]; exact hk
  generalize (mfact op).kind = K at *
  obtain ⟨X, hX⟩ : ∃ X, mchanges op cn y1 = X := ⟨_, rfl⟩
  rw [hX] at HCH
  clear hX hk
  cases X
  · obtain ⟨k0, rfl, hr⟩ := h
    obtain ⟨a, cc, rfl, hcc, hmm⟩ := hr.shape
    obtain ⟨kd, n, rows⟩ := s
    dsimp only at *
    obtain ⟨A, hA⟩ : ∃ A : Obj, A = .cells #[.int .i64 kd, .int .i64 n, .slice a rows.length cc] 38 (0, 0) := ⟨_, rfl⟩
    obtain ⟨B, hB⟩ : ∃ B : Obj, B = .cells #[.int .i64 op, .string (S ca), .string (S cb), .int .i64 cn] 29 (0, 0) := ⟨_, rfl⟩
    obtain ⟨C, hC⟩ : ∃ C : Obj, C = .cells #[.int .i64 y1, .string (S y2), .int .i64 y3] 30 (0, 0) := ⟨_, rfl⟩
    obtain ⟨c0, c1, c2, k0, k1, k2, k3, r0, r1, r2⟩ := B4.scr (w := w) (D := .cells #[.int .i64 0, .int .i64 0, .slice none 0 0] 38 (0, 0)) hA hB hC
    have hst := B4.start w A B C (.cells #[.int .i64 0, .int .i64 0, .slice none 0 0] 38 (0, 0))
    have hstd := hst.drew
    clear hr hop
    go_enter Tryd.func37, Tryd.ntmps37
    go_wp2_with fail
    rw [← hA, ← hB, ← hC]
    clear hA hB hC
    refine wp_region_held_drew (S := fun w' => B4 w A B C (.cells #[.int .i64 0, .int .i64 0, .slice none 0 0] 38 (0, 0)) w') (by kernel_rfl) ?_ (fun hHeld => ?_)
    · exact hstd
    refine wpAnyH_take (i := 0) (oi := { dst := some 7, op := _, type := _, pos := _, after := _, guard := _ }) (v := ?_) rfl (by kernel_rfl) (by kernel_rfl) (by kernel_rfl) (fun _ _ _ h => h) (Or.inl ⟨by kernel_rfl, ?_⟩) (by assumption) ?_
    rotate_left
    · intro w hSw; (try dsimp only at hSw); go_simp; try (with_reducible rfl)
    try simp only [Act.put, List.setIfInBounds_toArray, List.set_cons_zero, List.set_cons_succ]
    refine wpAnyH_take (i := 1) (oi := { dst := some 8, op := _, type := _, pos := _, after := _, guard := _ }) (v := ?_) rfl (by kernel_rfl) (by kernel_rfl) (by kernel_rfl) (fun _ _ _ h => h) (Or.inl ⟨by kernel_rfl, ?_⟩) (by assumption) ?_
    rotate_left
    · intro w hSw; (try dsimp only at hSw); go_simp; try (with_reducible rfl)
    try simp only [Act.put, List.setIfInBounds_toArray, List.set_cons_zero, List.set_cons_succ]
    refine wpAnyH_ready (rs := [2]) (by kernel_rfl) (by simp) ?_
    refine AllReadyH.cons rfl (fun K hK => ?_) AllReadyH.nil
    go_simp
    (go_at_call 56; refine (unhide HCH _).mono ?_; rintro e wn ⟨rfl, hbn⟩)
    refine hK.out _ _ ?_ (fun hHeld => ?_)
    · exact B4.below (by assumption) hbn
    clear hK K
    try simp only [Act.put, List.setIfInBounds_toArray, List.set_cons_zero, List.set_cons_succ]
    refine wpAnyH_take (i := 3) (oi := { dst := some 10, op := _, type := _, pos := _, after := _, guard := _ }) (v := ?_) rfl (by kernel_rfl) (by kernel_rfl) (by kernel_rfl) (fun _ _ _ h => h) (Or.inl ⟨by kernel_rfl, ?_⟩) (by assumption) ?_
    rotate_left
    · intro w hSw; (try dsimp only at hSw); go_simp; try (with_reducible rfl)
    try simp only [Act.put, List.setIfInBounds_toArray, List.set_cons_zero, List.set_cons_succ]
    refine wpAnyH_take (i := 4) (oi := { dst := some 11, op := _, type := _, pos := _, after := _, guard := _ }) (v := ?_) rfl (by kernel_rfl) (by kernel_rfl) (by kernel_rfl) (fun _ _ _ h => h) (Or.inl ⟨by kernel_rfl, ?_⟩) (by assumption) ?_
    rotate_left
    · intro w hSw; (try dsimp only at hSw); go_simp; try (with_reducible rfl)
    try simp only [Act.put, List.setIfInBounds_toArray, List.set_cons_zero, List.set_cons_succ]
    refine wpAnyH_take (i := 5) (oi := { dst := some 12, op := _, type := _, pos := _, after := _, guard := _ }) (v := undef) rfl (by kernel_rfl) (by kernel_rfl) (by kernel_rfl) (fun _ _ _ h => h) (Or.inr ⟨by kernel_rfl, rfl⟩) (by assumption) ?_
    try simp only [Act.put, List.setIfInBounds_toArray, List.set_cons_zero, List.set_cons_succ]
    refine wpAnyH_take (i := 6) (oi := { dst := some 13, op := _, type := _, pos := _, after := _, guard := _ }) (v := undef) rfl (by kernel_rfl) (by kernel_rfl) (by kernel_rfl) (fun _ _ _ h => h) (Or.inr ⟨by kernel_rfl, rfl⟩) (by assumption) ?_
    try simp only [Act.put, List.setIfInBounds_toArray, List.set_cons_zero, List.set_cons_succ]
    refine wpAnyH_take (i := 7) (oi := { dst := some 14, op := _, type := _, pos := _, after := _, guard := _ }) (v := undef) rfl (by kernel_rfl) (by kernel_rfl) (by kernel_rfl) (fun _ _ _ h => h) (Or.inr ⟨by kernel_rfl, rfl⟩) (by assumption) ?_
    try simp only [Act.put, List.setIfInBounds_toArray, List.set_cons_zero, List.set_cons_succ]
    refine wpAnyH_take (i := 8) (oi := { dst := some 15, op := _, type := _, pos := _, after := _, guard := _ }) (v := undef) rfl (by kernel_rfl) (by kernel_rfl) (by kernel_rfl) (fun _ _ _ h => h) (Or.inr ⟨by kernel_rfl, rfl⟩) (by assumption) ?_
    try simp only [Act.put, List.setIfInBounds_toArray, List.set_cons_zero, List.set_cons_succ]
    refine wpAnyH_take (i := 9) (oi := { dst := some 16, op := _, type := _, pos := _, after := _, guard := _ }) (v := undef) rfl (by kernel_rfl) (by kernel_rfl) (by kernel_rfl) (fun _ _ _ h => h) (Or.inr ⟨by kernel_rfl, rfl⟩) (by assumption) ?_
    try simp only [Act.put, List.setIfInBounds_toArray, List.set_cons_zero, List.set_cons_succ]
    refine wpAnyH_take (i := 10) (oi := { dst := some 17, op := _, type := _, pos := _, after := _, guard := _ }) (v := undef) rfl (by kernel_rfl) (by kernel_rfl) (by kernel_rfl) (fun _ _ _ h => h) (Or.inr ⟨by kernel_rfl, rfl⟩) (by assumption) ?_
    try simp only [Act.put, List.setIfInBounds_toArray, List.set_cons_zero, List.set_cons_succ]
    refine wpAnyH_take (i := 11) (oi := { dst := some 18, op := _, type := _, pos := _, after := _, guard := _ }) (v := ?_) rfl (by kernel_rfl) (by kernel_rfl) (by kernel_rfl) (fun _ _ _ h => h) (Or.inl ⟨by kernel_rfl, ?_⟩) (by assumption) ?_
    rotate_left
    · intro w hSw; (try dsimp only at hSw); go_simp; try (with_reducible rfl)
    try simp only [Act.put, List.setIfInBounds_toArray, List.set_cons_zero, List.set_cons_succ]
    refine wpAnyH_done (by kernel_rfl) ?_ _
    have hx0 : B4 w A B C (.cells #[.int .i64 0, .int .i64 0, .slice none 0 0] 38 (0, 0)) wn := by assumption
    clear hbn hst hstd HKI HCH
    obtain ⟨z0, z1, z2, zl, zo, y0, y1, y2, f1⟩ := hx0.give (.int .i64 kd) (.int .i64 n) (.slice a rows.length cc)
    unfold put3 at z0 z1 z2 zl
    have ZL := hide zl
    have s0 := c0 _ hx0
    have s1 := c1 _ hx0
    have s2 := c2 _ hx0
    clear zo zl
    go_wp2_with fail
    exact bodyPost_ret (v := .agg #[.int .i64 kd, .int .i64 n, .slice a rows.length cc]) (by simp [results, Tryd.results37, go_sem, z0, z1, z2]) rfl ⟨_, rfl, Or.inr (by simp), unhide ZL⟩
  · obtain ⟨k0, rfl, hr⟩ := h
    obtain ⟨a, cc, rfl, hcc, hmm⟩ := hr.shape
    obtain ⟨kd, n, rows⟩ := s
    dsimp only at *
    obtain ⟨A, hA⟩ : ∃ A : Obj, A = .cells #[.int .i64 kd, .int .i64 n, .slice a rows.length cc] 38 (0, 0) := ⟨_, rfl⟩
    obtain ⟨B, hB⟩ : ∃ B : Obj, B = .cells #[.int .i64 op, .string (S ca), .string (S cb), .int .i64 cn] 29 (0, 0) := ⟨_, rfl⟩
    obtain ⟨C, hC⟩ : ∃ C : Obj, C = .cells #[.int .i64 y1, .string (S y2), .int .i64 y3] 30 (0, 0) := ⟨_, rfl⟩
    obtain ⟨c0, c1, c2, k0, k1, k2, k3, r0, r1, r2⟩ := B4.scr (w := w) (D := .cells #[.int .i64 0, .int .i64 0, .slice none 0 0] 38 (0, 0)) hA hB hC
    have hst := B4.start w A B C (.cells #[.int .i64 0, .int .i64 0, .slice none 0 0] 38 (0, 0))
    have hstd := hst.drew
    clear hr hop
    go_enter Tryd.func37, Tryd.ntmps37
    go_wp2_with fail
    rw [← hA, ← hB, ← hC]
    clear hA hB hC
    go_region_held3 (fun w' => B4 w A B C (.cells #[.int .i64 0, .int .i64 0, .slice none 0 0] 38 (0, 0)) w') (with_reducible (first | exact hstd | exact hst | (refine B4.below ?_ (by assumption) <;> assumption)))
      (first | (go_at_call 56; refine (unhide HCH _).mono ?_; rintro e wm ⟨rfl, hbm⟩) | (go_at_call 11; refine (unhide HKI _).mono ?_; rintro e wn ⟨rfl, hbn⟩) | fail)
    have hx0 : B4 w A B C (.cells #[.int .i64 0, .int .i64 0, .slice none 0 0] 38 (0, 0)) wn := by assumption
    clear hbm hbn hst hstd HKI HCH
    obtain ⟨z0, z1, z2, zl, zo, y0, y1, y2, f1⟩ := hx0.give (.int .i64 kd) (.int .i64 n) (.slice a rows.length cc)
    unfold put3 at z0 z1 z2 zl
    have ZL := hide zl
    have s0 := c0 _ hx0
    have s1 := c1 _ hx0
    have s2 := c2 _ hx0
    clear zo zl
    go_wp2_with fail
    exact bodyPost_ret (v := .agg #[.int .i64 kd, .int .i64 n, .slice a rows.length cc]) (by simp [results, Tryd.results37, go_sem, z0, z1, z2]) rfl ⟨_, rfl, Or.inr (by simp), unhide ZL⟩
theorem rapply_any {w : World} {v : Value} {s : VS} {c : MC} (h : StAt w v s) (hs : s.rows.length ≤ 1000) (hop : okOp c.op) (hcb : c.op ≠ 11 → c.b = []) (hf : s.fit) (r : MR) :
    Calls Tryd.prog 37 #[v, mcV c, mrV r] w fun e w' => ∃ v', e = .returned v' ∧ StAt w' v' (apply2 s c r) ∧ Below w.heap.size w w' := by
  have key : Calls Tryd.prog 37 #[v, mcV c, mrV r] w fun e w' => ∃ v', e = .returned v' ∧ (StOwn w.heap.size 77 w' v' (apply2 s c r) ∨ (v' = v ∧ apply2 s c r = s)) ∧ Below w.heap.size w w' := by
    by_cases hk : (mfact c.op).kind = s.kind
    · exact rapply_eq h hs hop hcb hf r hk
    · rw [show apply2 s c r = s by unfold apply2 applyBy; rw [if_pos (Or.inl hk)]]
      exact rapply_ne h hop r hk
  refine key.mono fun e w' hh => ?_
  obtain ⟨v', rfl, hor, hb⟩ := hh
  rcases hor with ho | ⟨rfl, hs2⟩
  · exact ⟨_, rfl, ho.at, hb⟩
  · exact ⟨_, rfl, by rw [hs2]; exact h.later hb, hb⟩
end Go.Proofs.YteaiidcconggcaaDoor
/- The law's own: awake, State, Of. -/
namespace Go.Proofs.YteaiidcconggcaaDoor
open Go.RowKit
set_option linter.unusedVariables false
set_option maxRecDepth 100000

theorem vs_eq {s t : VS} (h1 : s.kind = t.kind) (h2 : s.n = t.n) (h3 : s.rows = t.rows) : s = t := by
  cases s
  cases t
  simp_all
def semi1 : VS := ⟨7, 0, [([98], [])]⟩
def semi2 : VS := ⟨7, 0, [([97], []), ([98], [])]⟩
def semi3 : VS := ⟨7, 0, [([97], []), ([98], []), ([98], [])]⟩
theorem semi1_is : VS.with ⟨7, 0, []⟩ ([98], []) = semi1 := vs_eq rfl rfl (by decide +kernel)
theorem semi2_is : semi1.with ([97], []) = semi2 := vs_eq rfl rfl (by decide +kernel)
theorem semi3_is : semi2.with ([98], []) = semi3 := vs_eq rfl rfl (by decide +kernel)
theorem semi_answers : answers semi3 ⟨17, [], [], 0⟩ = [⟨1, [97], 0⟩, ⟨1, [98], 0⟩] := by decide +kernel
theorem semi_legal : legal semi3 ⟨16, [], [], 0⟩ ⟨1, [], 0⟩ = true := by decide +kernel

end Go.Proofs.YteaiidcconggcaaDoor
/- The law's State and Of. -/
namespace Go.Proofs.YteaiidcconggcaaDoor
open Go.RowKit
set_option linter.unusedVariables false
set_option maxRecDepth 100000

theorem mask50 (n : Int) : bits .and .i64 n 1125899906842623 = n % 1125899906842624 := by
  have h := pl_and_mask n 50 1125899906842623 (by decide) (by decide)
  rw [h]
  rfl
theorem may_masked {x : VS} (h : x.may) (hk : x.kind = 3) : VS.may ⟨x.kind, x.n % 1125899906842624, x.rows⟩ := by
  have hr := h.fit.bare (Or.inr hk)
  rw [hk, hr]
  exact may_three _ (by omega) (by omega)

set_option maxHeartbeats 6400000 in
theorem tstate_any {w : World} {v : Value} {s : VS} (h : StAt w v s) (hn : -9223372036854775808 ≤ s.n ∧ s.n ≤ 9223372036854775807) (hsz : ∀ i (h : i < s.rows.length), (s.rows[i]'h).1.length ≤ maxLen ∧ (s.rows[i]'h).2.length ≤ maxLen) :
    Calls Tryd.prog 15 #[v] w fun e w' => ∃ v', e = .returned v' ∧ ∃ x : VS, x.may ∧ (x.kind = 3 → 0 ≤ x.n ∧ x.n < 1125899906842624) ∧ StOwn w.heap.size 77 w' v' x ∧ Below w.heap.size w w' := by
  have HT := hide (fun (w1 : World) (hb : Below w.heap.size w w1) => tidy_any (h.later hb) hn hsz)
  obtain ⟨k0, rfl, hr⟩ := h
  obtain ⟨a, c, rfl, hc, hm⟩ := hr.shape
  have HST := hide (B2.start w (.cells #[.int .i64 s.kind, .int .i64 s.n, .slice a s.rows.length c] 47) (.cells #[.int .i64 0, .int .i64 0, .slice none 0 0] 38))
  clear hr
  go_enter Tryd.func15, Tryd.ntmps15
  go_wp2_with fail
  refine (unhide HT _ (unhide HST).low).mono ?_
  rintro e w1 ⟨v1, rfl, x, hmay, ⟨k1, rfl, ho⟩, hb⟩
  obtain ⟨ka, kc, rfl, _⟩ := ownsRow_slice ho
  have hx1 := (unhide HST).on hb
  have hs1 := (unhide HST).blocks.2.2
  by_cases h3 : x.kind = 3
  · have e3 : (x.kind == 3) = true := by rw [h3]; rfl
    have hq := mask50 x.n
    have HMAY := hide (may_masked hmay h3)
    obtain ⟨q, hqq⟩ : ∃ q, x.n % 1125899906842624 = q := ⟨_, rfl⟩
    have HQ : Hid (0 ≤ q ∧ q < 1125899906842624) := by show _ ∧ _; rw [← hqq]; omega
    rw [hqq] at hq HMAY
    obtain ⟨z0, z1, z2, zl, zo, y0, y1, y2, f1⟩ := give3 (hx1.on (under_box (.cells #[.int .i64 x.kind, .int .i64 q, .slice ka x.rows.length kc] 38))).low (by omega) (hx1.on (under_box (.cells #[.int .i64 x.kind, .int .i64 q, .slice ka x.rows.length kc] 38))).blocks.2.1 (.int .i64 x.kind) (.int .i64 q) (.slice ka x.rows.length kc)
    have ZO := hide (zo _ _ _ _ _ _ (by omega) (ho.alloc _))
    unfold put3 at z0 z1 z2 zl ZO
    have ZL := hide zl
    clear hx1 hb ho zo zl HT HST hs1 hqq h3 hmay
    go_wp2_with fail
    exact bodyPost_ret (v := .agg #[.int .i64 x.kind, .int .i64 q, .slice ka x.rows.length kc]) (by simp [results, Tryd.results15, go_sem, z0, z1, z2]) rfl ⟨_, rfl, ⟨x.kind, q, x.rows⟩, unhide HMAY, fun _ => unhide HQ, ⟨_, rfl, unhide ZO⟩, unhide ZL⟩
  · have e3 : (x.kind == 3) = false := by rw [beq_eq_false_iff_ne]; exact h3
    obtain ⟨z0, z1, z2, zl, zo, y0, y1, y2, f1⟩ := give3 (hx1.on (under_box (.cells #[.int .i64 x.kind, .int .i64 x.n, .slice ka x.rows.length kc] 38))).low (by omega) (hx1.on (under_box (.cells #[.int .i64 x.kind, .int .i64 x.n, .slice ka x.rows.length kc] 38))).blocks.2.1 (.int .i64 x.kind) (.int .i64 x.n) (.slice ka x.rows.length kc)
    have ZO := hide (zo _ _ _ _ _ _ (by omega) (ho.alloc _))
    unfold put3 at z0 z1 z2 zl ZO
    have ZL := hide zl
    have H3 := hide h3
    clear hx1 hb ho zo zl HT HST hs1 h3
    go_wp2_with fail
    exact bodyPost_ret (v := .agg #[.int .i64 x.kind, .int .i64 x.n, .slice ka x.rows.length kc]) (by simp [results, Tryd.results15, go_sem, z0, z1, z2]) rfl ⟨_, rfl, x, hmay, fun e => absurd e (unhide H3), ⟨_, rfl, unhide ZO⟩, unhide ZL⟩
end Go.Proofs.YteaiidcconggcaaDoor
/- The law's Of: some call that may be asked. -/
namespace Go.Proofs.YteaiidcconggcaaDoor
open Go.RowKit
set_option linter.unusedVariables false
set_option maxRecDepth 100000

theorem put4c_cells {w : World} {N : Nat} {a0 b0 c0 d0 : Value} {t : TypeId} (h : w.heap[N]? = some (.cells #[a0, b0, c0, d0] t (0, 0))) (a b c d : Value) : (put4c w N a b c d).heap[N]? = some (.cells #[a, b, c, d] t (0, 0)) := by
  have f1 := heap_setCell_same w N 0 _ _ a h
  have f2 := heap_setCell_same _ N 1 _ _ b f1
  have f3 := heap_setCell_same _ N 2 _ _ c f2
  have f4 := heap_setCell_same _ N 3 _ _ d f3
  unfold put4c put3
  simpa [Array.setIfInBounds] using f4
theorem cell4 {w : World} {N : Nat} {a b c d : Value} {t : TypeId} (h : w.heap[N]? = some (.cells #[a, b, c, d] t (0, 0))) : w.cell? ⟨N, 0, none⟩ = some a ∧ w.cell? ⟨N, 1, none⟩ = some b ∧ w.cell? ⟨N, 2, none⟩ = some c ∧ w.cell? ⟨N, 3, none⟩ = some d ∧ ∀ j, w.frozen? ⟨N, j, none⟩ = false := by
  refine ⟨?_, ?_, ?_, ?_, fun j => block_frozen h j⟩ <;> rw [block_cell h] <;> rfl
theorem cell3 {w : World} {N : Nat} {a b c : Value} {t : TypeId} (h : w.heap[N]? = some (.cells #[a, b, c] t (0, 0))) : w.cell? ⟨N, 0, none⟩ = some a ∧ w.cell? ⟨N, 1, none⟩ = some b ∧ w.cell? ⟨N, 2, none⟩ = some c ∧ ∀ j, w.frozen? ⟨N, j, none⟩ = false := by
  refine ⟨?_, ?_, ?_, fun j => block_frozen h j⟩ <;> rw [block_cell h] <;> rfl

structure Ofx (w : World) (kd n : Int) (sl : Value) (tS tC tR tX : TypeId) (N : Nat) (op : Int) (ca cb : ByteArray) (cn : Int) (V : MC) (wr : World) : Prop where
  low : Below w.heap.size w wr
  st : wr.heap[w.heap.size]? = some (.cells #[.int .i64 kd, .int .i64 n, sl] tS (0, 0))
  c : wr.heap[w.heap.size + 1]? = some (.cells #[.int .i64 op, .string ca, .string cb, .int .i64 cn] tC (0, 0))
  res : wr.heap[w.heap.size + 1 + 1]? = some (.cells #[.int .i64 0, .string ⟨#[]⟩, .string ⟨#[]⟩, .int .i64 0] tR (0, 0))
  x : wr.heap[N]? = some (.cells #[.int .i64 V.op, .string (S V.a), .string (S V.b), .int .i64 V.n] tX (0, 0))
  far : w.heap.size + 1 + 1 < N
section
variable {w wr w' : World} {kd n op cn : Int} {sl : Value} {tS tC tR tX : TypeId} {N : Nat} {ca cb : ByteArray} {V : MC}
theorem Ofx.later (h : Ofx w kd n sl tS tC tR tX N op ca cb cn V wr) (hb : Below wr.heap.size wr w') : Ofx w kd n sl tS tC tR tX N op ca cb cn V w' :=
  ⟨h.low.trans (hb.mono h.low.size), (hb.block _ (block_lt h.st)).trans h.st, (hb.block _ (block_lt h.c)).trans h.c, (hb.block _ (block_lt h.res)).trans h.res, (hb.block _ (block_lt h.x)).trans h.x, h.far⟩
theorem Ofx.drew (h : Ofx w kd n sl tS tC tR tX N op ca cb cn V wr) : Ofx w kd n sl tS tC tR tX N op ca cb cn V wr.drew := h.later ((Below.refl _ _).drew)
theorem Ofx.cells (w : World) (kd n op cn : Int) (sl : Value) (tS tC tR tX : TypeId) (N : Nat) (ca cb : ByteArray) (V : MC) :
    (∀ w1, Ofx w kd n sl tS tC tR tX N op ca cb cn V w1 → w1.cell? ⟨w.heap.size, 0, none⟩ = some (.int .i64 kd)) ∧ (∀ w1, Ofx w kd n sl tS tC tR tX N op ca cb cn V w1 → w1.cell? ⟨N, 0, none⟩ = some (.int .i64 V.op)) :=
  ⟨fun w1 h => (cell3 h.st).1, fun w1 h => (cell4 h.x).1⟩
/- The call's op is written. -/
theorem Ofx.setOp (h : Ofx w kd n sl tS tC tR tX N op ca cb cn V wr) (o : Int) : Ofx w kd n sl tS tC tR tX N o ca cb cn V (wr.setCell ⟨w.heap.size + 1, 0, none⟩ (.int .i64 o)) := by
  have ho (j : Nat) (hj : j ≠ w.heap.size + 1) : (wr.setCell ⟨w.heap.size + 1, 0, none⟩ (.int .i64 o)).heap[j]? = wr.heap[j]? := heap_setCell_other _ ⟨w.heap.size + 1, 0, none⟩ _ _ hj
  have hf := h.far
  refine ⟨⟨h.low.os, h.low.tape, h.low.output, by simpa using h.low.size, fun j hj => by rw [ho _ (by omega)]; exact h.low.block j hj⟩, by rw [ho _ (by omega)]; exact h.st, ?_, by rw [ho _ (by omega)]; exact h.res, by rw [ho _ (by omega)]; exact h.x, hf⟩
  have := heap_setCell_same wr (w.heap.size + 1) 0 _ _ (.int .i64 o) h.c
  simpa [Array.setIfInBounds] using this
/- The new call is written. -/
theorem Ofx.put (h : Ofx w kd n sl tS tC tR tX N op ca cb cn V wr) (V' : MC) : Ofx w kd n sl tS tC tR tX N op ca cb cn V' (put4c wr N (.int .i64 V'.op) (.string (S V'.a)) (.string (S V'.b)) (.int .i64 V'.n)) := by
  have hf := h.far
  exact ⟨⟨h.low.os, h.low.tape, h.low.output, by rw [put4c_size]; exact h.low.size, fun j hj => by rw [put4c_other _ _ _ _ _ (by omega)]; exact h.low.block j hj⟩, by rw [put4c_other _ _ _ _ _ (by omega)]; exact h.st, by rw [put4c_other _ _ _ _ _ (by omega)]; exact h.c, by rw [put4c_other _ _ _ _ _ (by omega)]; exact h.res, put4c_cells h.x _ _ _ _, hf⟩
theorem Ofx.done (h : Ofx w kd n sl tS tC tR tX N op ca cb cn V wr) (a b c d : Value) : (put4c wr (w.heap.size + 1 + 1) a b c d).cell? ⟨w.heap.size + 1 + 1, 0, none⟩ = some a ∧ (put4c wr (w.heap.size + 1 + 1) a b c d).cell? ⟨w.heap.size + 1 + 1, 1, none⟩ = some b ∧ (put4c wr (w.heap.size + 1 + 1) a b c d).cell? ⟨w.heap.size + 1 + 1, 2, none⟩ = some c ∧ (put4c wr (w.heap.size + 1 + 1) a b c d).cell? ⟨w.heap.size + 1 + 1, 3, none⟩ = some d ∧ Below w.heap.size w (put4c wr (w.heap.size + 1 + 1) a b c d) := by
  obtain ⟨g0, g1, g2, g3, _⟩ := cell4 (put4c_cells h.res a b c d)
  exact ⟨g0, g1, g2, g3, ⟨h.low.os, h.low.tape, h.low.output, by rw [put4c_size]; exact h.low.size, fun j hj => by rw [put4c_other _ _ _ _ _ (by omega)]; exact h.low.block j hj⟩⟩
end

set_option maxHeartbeats 12800000 in
theorem of_any {w : World} {v : Value} {s : VS} (h : StAt w v s) (op : Int) (ca cb : ByteArray) (cn : Int) (hop : I64 op) (hn : I64 cn) (hca : ca.size ≤ maxLen) (hcb : cb.size ≤ maxLen) :
    Calls Tryd.prog 10 #[v, .agg #[.int .i64 op, .string ca, .string cb, .int .i64 cn]] w fun e w' => ∃ V : MC, e = .returned (mcV V) ∧ V.may ∧ Below w.heap.size w w' := by
  have HTI := hide (fun (w1 : World) (o : Int) (ho : I64 o) => mtidy_any (w := w1) o ca cb cn ho hn hca hcb)
  have HKI := hide (fun (w1 : World) (o : Int) (ho : okOp o) => rkind_any (w := w1) o ho)
  obtain ⟨k0, rfl, hr⟩ := h
  obtain ⟨a, c, rfl, hc, hm⟩ := hr.shape
  obtain ⟨kd, n, rows⟩ := s
  dsimp only at *
  clear hr
  go_enter Tryd.func10, Tryd.ntmps10
  go_wp2_with fail
  refine (unhide HTI _ op hop).mono ?_
  rintro e w1 ⟨V, rfl, hV, hb⟩
  unfold mcV
  have HST : Hid (Ofx w kd n (.slice a rows.length c) 38 24 29 29 w1.heap.size op ca cb cn V (w1.alloc (.cells #[.int .i64 V.op, .string (S V.a), .string (S V.b), .int .i64 V.n] 29))) := by
    have hx := (B3.start w (.cells #[.int .i64 kd, .int .i64 n, .slice a rows.length c] 38) (.cells #[.int .i64 op, .string ca, .string cb, .int .i64 cn] 24) (.cells #[.int .i64 0, .string ⟨#[]⟩, .string ⟨#[]⟩, .int .i64 0] 29)).below hb
    obtain ⟨g1, g2, g3⟩ := hx.heap
    have hs := hx.size
    exact ⟨hx.low.alloc hx.low.size _, (Below.heap_alloc _ _ _ (by omega)).trans g1, (Below.heap_alloc _ _ _ (by omega)).trans g2, (Below.heap_alloc _ _ _ (by omega)).trans g3, heap_alloc_new w1 _, by omega⟩
  have HV0 := hide hV
  have HOP0 := hide hop
  clear hb hV hop
  go_wp2_with fail
  obtain ⟨cS, cX⟩ : (∀ (o : Int) (U : MC) wz, Ofx w kd n (.slice a rows.length c) 38 24 29 29 w1.heap.size o ca cb cn U wz → wz.cell? ⟨w.heap.size, 0, none⟩ = some (.int .i64 kd)) ∧ (∀ (o : Int) (U : MC) wz, Ofx w kd n (.slice a rows.length c) 38 24 29 29 w1.heap.size o ca cb cn U wz → wz.cell? ⟨w1.heap.size, 0, none⟩ = some (.int .i64 U.op)) := ⟨fun o U => (Ofx.cells w kd n o cn _ _ _ _ _ w1.heap.size ca cb U).1, fun o U => (Ofx.cells w kd n o cn _ _ _ _ _ w1.heap.size ca cb U).2⟩
  go_loopw [8] (fun i wr => ∃ (k : Nat) (o : Int) (U : MC), k ≤ 17 ∧ i = .int .i64 (k : Int) ∧ U.may ∧ I64 o ∧ Ofx w kd n (.slice a rows.length c) 38 24 29 29 w1.heap.size o ca cb cn U wr) (fun i _ => 17 - (intOf i).toNat)
  case atStart => exact ⟨0, op, V, by omega, rfl, unhide HV0, unhide HOP0, unhide HST⟩
  case round =>
    obtain ⟨k, o, U, hk, rfl, hU, ho, hx⟩ := hrel
    have HU := hide hU
    have hUop := MC.may_op hU
    clear hU ho HST HV0 HOP0
    by_cases hlt : k < 17
    · have hi1 : (k : Int) < 17 := by omega
      have dS := cS o U
      have dX := cX o U
      have hxd := hx.drew
      have HKU := hide (fun wz => unhide HKI wz U.op hUop)
      obtain ⟨K, hK⟩ : ∃ K, (mfact U.op).kind = K := ⟨_, rfl⟩
      rw [hK] at HKU
      clear hK cS cX HKI
      go_wp2_with fail
      go_region_held3 (fun w' => Ofx w kd n (.slice a rows.length c) 38 24 29 29 w1.heap.size o ca cb cn U w') (with_reducible (first | exact hxd | exact hx | (refine Ofx.later ?_ (by assumption) <;> assumption)))
        (first | (go_at_call 11; refine (unhide HKU _).mono ?_; rintro e wm ⟨rfl, hbm⟩) | fail)
      have hxm : Ofx w kd n (.slice a rows.length c) 38 24 29 29 w1.heap.size o ca cb cn U wm := by assumption
      clear hbm hx hxd HKU dS dX
      by_cases hk2 : K = kd
      · have e1 : (K == kd) = true := by rw [beq_iff_eq]; exact hk2
        obtain ⟨d0, d1, d2, d3, _⟩ := cell4 hxm.x
        obtain ⟨y0, y1, y2, y3, fz⟩ := cell4 hxm.res
        obtain ⟨z0, z1, z2, z3, zl⟩ := hxm.done (.int .i64 U.op) (.string (S U.a)) (.string (S U.b)) (.int .i64 U.n)
        unfold put4c put3 at z0 z1 z2 z3 zl
        have ZL := hide zl
        clear zl hxm hk2
        go_wp2_with fail
        exact bodyPost_ret (v := .agg #[.int .i64 U.op, .string (S U.a), .string (S U.b), .int .i64 U.n]) (by simp [results, Tryd.results10, go_sem, z0, z1, z2, z3]) rfl ⟨U, rfl, unhide HU, unhide ZL⟩
      · have e1 : (K == kd) = false := by rw [beq_eq_false_iff_ne]; exact hk2
        obtain ⟨p, hp⟩ : ∃ p, U.op + 1 = p := ⟨_, rfl⟩
        have hpI : I64 p := by unfold I64; unfold okOp at hUop; omega
        have hwp : IntKind.i64.wrap (U.op + 1) = p := by rw [IntKind.wrap_i64]; unfold okOp at hUop; omega
        obtain ⟨d0, _⟩ := cell4 hxm.x
        obtain ⟨y0, y1, y2, y3, fz⟩ := cell4 hxm.c
        have hxo := hxm.setOp p
        have HXO := hide hxo
        have HPI := hide hpI
        clear hxm hk2 hpI hxo hp
        go_upto_region 7 with fail
        obtain ⟨w3, hw3⟩ : ∃ w3, wm.setCell ⟨w.heap.size + 1, 0, none⟩ (.int .i64 p) = w3 := ⟨_, rfl⟩
        rw [hw3] at HXO ⊢
        clear hw3 y0 y1 y2 y3 fz d0
        obtain ⟨y0, y1, y2, y3, _⟩ := cell4 (unhide HXO).c
        go_wp2_with fail
        refine (unhide HTI _ p (unhide HPI)).mono ?_
        rintro e w4 ⟨U2, rfl, hU2, hb4⟩
        have hx4 := (unhide HXO).later hb4
        obtain ⟨q0, q1, q2, q3, fq⟩ := cell4 hx4.x
        have HXP := hide (hx4.put U2)
        have HU2 := hide hU2
        unfold put4c put3 at HXP
        clear hx4 hb4 hU2 HXO HTI y0 y1 y2 y3
        unfold mcV
        go_wp2_with fail
        go_roundw
        case rel => exact ⟨k + 1, p, U2, by omega, by go_num, unhide HU2, unhide HPI, unhide HXP⟩
        case measure => simp [intOf]; omega
    · have hi1 : ¬ (k : Int) < 17 := by omega
      obtain ⟨d0, d1, d2, d3, _⟩ := cell4 hx.x
      obtain ⟨y0, y1, y2, y3, fz⟩ := cell4 hx.res
      obtain ⟨z0, z1, z2, z3, zl⟩ := hx.done (.int .i64 U.op) (.string (S U.a)) (.string (S U.b)) (.int .i64 U.n)
      unfold put4c put3 at z0 z1 z2 z3 zl
      have ZL := hide zl
      clear zl hx cS cX HKI HTI
      go_wp2_with fail
      exact bodyPost_ret (v := .agg #[.int .i64 U.op, .string (S U.a), .string (S U.b), .int .i64 U.n]) (by simp [results, Tryd.results10, go_sem, z0, z1, z2, z3]) rfl ⟨U, rfl, unhide HU, unhide ZL⟩
end Go.Proofs.YteaiidcconggcaaDoor
