/- Texts that this proof needs, one behind the other: TRAns, TLegal, TApply, TRun. -/
import Derived.Test.YteaiidcconggcaaDoorBundleT6
import Derived.Test.YteaiidcconggcaaDoorTAnsw
import Derived.Test.YteaiidcconggcaaDoorMRefs2
import Derived.Test.YteaiidcconggcaaDoorMChange
/- The contract of the document's Answers. -/
namespace Go.Proofs.YteaiidcconggcaaDoor
open Go.RowKit
set_option linter.unusedVariables false
set_option maxRecDepth 100000

theorem under_at {w w1 : World} (h : Below w.heap.size w w1) (o : Obj) : Below w.heap.size w1 (w1.alloc o) := (Below.refl _ _).alloc h.size _
set_option maxHeartbeats 25600000 in
theorem ranswers_any {w : World} {v : Value} {s : VS} {c : MC} (h : StAt w v s) (hs : s.rows.length ≤ 1000) (hop : okOp c.op) :
    Calls Tryd.prog 16 #[v, mcV c] w fun e w' => ∃ v', e = .returned v' ∧ Row3 w' v' (answers s c) ∧ Below w.heap.size w w' := by
  have HKI := hide (fun (w1 : World) => rkind_any (w := w1) c.op hop)
  have HFI := hide (fun (w1 : World) (hb : Below w.heap.size w w1) => rfind_any (h.later hb) c.a)
  obtain ⟨K, hK⟩ : ∃ K, (mfact c.op).kind = K := ⟨_, rfl⟩
  obtain ⟨op, ca, cb, cn⟩ := c
  dsimp only at *
  rw [hK] at HKI
  unfold mcV
  dsimp only
  by_cases hk : K = s.kind
  · have e0 : (K != s.kind) = false := by rw [hk]; simp
    have hkk : ¬ (mfact op).kind ≠ s.kind := by rw [hK]; simpa using hk
    rcases op_cases hop with rfl | rfl | rfl | rfl | rfl | rfl | rfl | rfl | rfl | rfl | rfl | rfl | rfl | rfl | rfl | rfl | rfl
    · have hA : answers s ⟨1, ca, cb, cn⟩ = [⟨1, s.key 0, 0⟩] := by unfold answers; rw [if_neg hkk]; rfl
      rw [hA]
      clear hA
      have HO1 := hide (fun (w1 : World) => rok_any (w := w1) true)
      rw [show okR true = ⟨1, [], 0⟩ from rfl] at HO1
      by_cases hl : s.rows.length = 0
      · have hk0 : s.key 0 = [] := by simp [VS.key, List.eq_nil_of_length_eq_zero hl]
        have hn : (((s.rows.length : Nat) : Int) == 0) = true := by rw [beq_iff_eq]; omega
        rw [hk0]
        clear hk0 hl
        generalize (if s.has ca = true then ((hits ca s.rows : Nat) : Int) else -1) = AT at *
        obtain ⟨k0, rfl, hr⟩ := h
        obtain ⟨a, c, rfl, hc, hm⟩ := hr.shape
        unfold maxLen at hm
        obtain ⟨kd, n, rows⟩ := s
        dsimp only at *
        obtain ⟨A, hA⟩ : ∃ A : Obj, A = .cells #[.int .i64 kd, .int .i64 n, .slice a rows.length c] 38 (0, 0) := ⟨_, rfl⟩
        obtain ⟨B, hB⟩ : ∃ B : Obj, B = .cells #[.int .i64 1, .string (S ca), .string (S cb), .int .i64 cn] 29 (0, 0) := ⟨_, rfl⟩
        obtain ⟨c0, c1, c2, k0, k1, k2, k3⟩ := B2.sc (w := w) hA hB
        have hst := B2.start w A B
        have hstd := hst.drew
        clear hr hkk hK hk hs hop
        go_enter Tryd.func16, Tryd.ntmps16
        go_wp2_with fail
        rw [← hA, ← hB]
        clear hA hB
        go_region_held3 (fun w' => B2 w A B w') (with_reducible (first | exact hstd | exact hst | (refine B2.below ?_ (by assumption) <;> assumption)))
          (first | (go_at_call 11; refine (unhide HKI _).mono ?_; rintro e wm ⟨rfl, hbm⟩) | fail)
        have hx0 : B2 w A B wm := by assumption
        clear hbm hst hstd HKI
        go_wp2_with fail
        refine (unhide HFI _ hx0.low).mono ?_
        rintro e w1 ⟨rfl, hb1⟩
        have hx1 := hx0.below hb1
        clear hb1
        go_wp2_with fail
        refine (unhide HO1 _).mono ?_
        rintro e w2 ⟨v2, rfl, hrow, hb2⟩
        have hx2 := hx1.below hb2
        clear hb2
        go_wp2_with fail
        go_ret
        exact ⟨_, rfl, hrow, hx2.low⟩
      · have hn : (((s.rows.length : Nat) : Int) == 0) = false := by rw [beq_eq_false_iff_ne]; omega
        have hn1 : (0 : Int) < ((s.rows.length : Nat) : Int) := by omega
        generalize (if s.has ca = true then ((hits ca s.rows : Nat) : Int) else -1) = AT at *
        obtain ⟨k0, rfl, hr⟩ := h
        obtain ⟨a, c, rfl, hc, hm⟩ := hr.shape
        unfold maxLen at hm
        obtain ⟨b, off, rfl, hbl, e1, e2⟩ := hr.at 0 (by omega)
        have hg : s.key 0 = (s.rows[0]'(by omega)).1 := by simp [VS.key, List.getD, show 0 < s.rows.length by omega]
        rw [hg]
        generalize s.rows[0]'(by omega) = q at *
        obtain ⟨x, y⟩ := q
        rw [Nat.zero_mul, Nat.add_zero] at e1
        clear hg hl
        obtain ⟨kd, n, rows⟩ := s
        dsimp only at *
        obtain ⟨A, hA⟩ : ∃ A : Obj, A = .cells #[.int .i64 kd, .int .i64 n, .slice (some ⟨b, off, none⟩) rows.length c] 38 (0, 0) := ⟨_, rfl⟩
        obtain ⟨B, hB⟩ : ∃ B : Obj, B = .cells #[.int .i64 1, .string (S ca), .string (S cb), .int .i64 cn] 29 (0, 0) := ⟨_, rfl⟩
        obtain ⟨c0, c1, c2, k0, k1, k2, k3⟩ := B2.sc (w := w) hA hB
        have hst := B2.start w A B
        have hstd := hst.drew
        clear hr hkk hK hk hs hop
        go_enter Tryd.func16, Tryd.ntmps16
        go_wp2_with fail
        rw [← hA, ← hB]
        clear hA hB
        go_region_held3 (fun w' => B2 w A B w') (with_reducible (first | exact hstd | exact hst | (refine B2.below ?_ (by assumption) <;> assumption)))
          (first | (go_at_call 11; refine (unhide HKI _).mono ?_; rintro e wm ⟨rfl, hbm⟩) | fail)
        have hx0 : B2 w A B wm := by assumption
        clear hbm hst hstd HKI
        go_wp2_with fail
        refine (unhide HFI _ hx0.low).mono ?_
        rintro e w1 ⟨rfl, hb1⟩
        have hx1 := hx0.below hb1
        clear hb1
        have hlow := hx1.low
        rw [← hlow.cell (p := ⟨b, off, none⟩) hbl] at e1
        clear e2 hlow
        go_wp2_with fail
        go_ret
        exact ⟨_, rfl, Row3.new _ ⟨1, x, 0⟩ _, hx1.low.trans (under_at hx1.low _)⟩
    · have hA : answers s ⟨2, ca, cb, cn⟩ = [okR true] := by unfold answers; rw [if_neg hkk]; rfl
      rw [hA]
      clear hA
      generalize (if s.has ca = true then ((hits ca s.rows : Nat) : Int) else -1) = AT at *
      have HO1 := hide (fun (w1 : World) => rok_any (w := w1) true)
      obtain ⟨k0, rfl, hr⟩ := h
      obtain ⟨a, c, rfl, hc, hm⟩ := hr.shape
      unfold maxLen at hm
      obtain ⟨kd, n, rows⟩ := s
      dsimp only at *
      obtain ⟨A, hA⟩ : ∃ A : Obj, A = .cells #[.int .i64 kd, .int .i64 n, .slice a rows.length c] 38 (0, 0) := ⟨_, rfl⟩
      obtain ⟨B, hB⟩ : ∃ B : Obj, B = .cells #[.int .i64 2, .string (S ca), .string (S cb), .int .i64 cn] 29 (0, 0) := ⟨_, rfl⟩
      obtain ⟨c0, c1, c2, k0, k1, k2, k3⟩ := B2.sc (w := w) hA hB
      have hst := B2.start w A B
      have hstd := hst.drew
      clear hr hkk hK hk hs hop
      go_enter Tryd.func16, Tryd.ntmps16
      go_wp2_with fail
      rw [← hA, ← hB]
      clear hA hB
      go_region_held3 (fun w' => B2 w A B w') (with_reducible (first | exact hstd | exact hst | (refine B2.below ?_ (by assumption) <;> assumption)))
        (first | (go_at_call 11; refine (unhide HKI _).mono ?_; rintro e wm ⟨rfl, hbm⟩) | fail)
      have hx0 : B2 w A B wm := by assumption
      clear hbm hst hstd HKI
      go_wp2_with fail
      refine (unhide HFI _ hx0.low).mono ?_
      rintro e w1 ⟨rfl, hb1⟩
      have hx1 := hx0.below hb1
      clear hb1
      go_wp2_with fail
      refine (unhide HO1 _).mono ?_
      rintro e w2 ⟨v2, rfl, hrow, hb2⟩
      have hx2 := hx1.below hb2
      clear hb2
      go_wp2_with fail
      go_ret
      exact ⟨_, rfl, hrow, hx2.low⟩
    · have hA : answers s ⟨3, ca, cb, cn⟩ = [okR true] := by unfold answers; rw [if_neg hkk]; rfl
      rw [hA]
      clear hA
      generalize (if s.has ca = true then ((hits ca s.rows : Nat) : Int) else -1) = AT at *
      have HO1 := hide (fun (w1 : World) => rok_any (w := w1) true)
      obtain ⟨k0, rfl, hr⟩ := h
      obtain ⟨a, c, rfl, hc, hm⟩ := hr.shape
      unfold maxLen at hm
      obtain ⟨kd, n, rows⟩ := s
      dsimp only at *
      obtain ⟨A, hA⟩ : ∃ A : Obj, A = .cells #[.int .i64 kd, .int .i64 n, .slice a rows.length c] 38 (0, 0) := ⟨_, rfl⟩
      obtain ⟨B, hB⟩ : ∃ B : Obj, B = .cells #[.int .i64 3, .string (S ca), .string (S cb), .int .i64 cn] 29 (0, 0) := ⟨_, rfl⟩
      obtain ⟨c0, c1, c2, k0, k1, k2, k3⟩ := B2.sc (w := w) hA hB
      have hst := B2.start w A B
      have hstd := hst.drew
      clear hr hkk hK hk hs hop
      go_enter Tryd.func16, Tryd.ntmps16
      go_wp2_with fail
      rw [← hA, ← hB]
      clear hA hB
      go_region_held3 (fun w' => B2 w A B w') (with_reducible (first | exact hstd | exact hst | (refine B2.below ?_ (by assumption) <;> assumption)))
        (first | (go_at_call 11; refine (unhide HKI _).mono ?_; rintro e wm ⟨rfl, hbm⟩) | fail)
      have hx0 : B2 w A B wm := by assumption
      clear hbm hst hstd HKI
      go_wp2_with fail
      refine (unhide HFI _ hx0.low).mono ?_
      rintro e w1 ⟨rfl, hb1⟩
      have hx1 := hx0.below hb1
      clear hb1
      go_wp2_with fail
      refine (unhide HO1 _).mono ?_
      rintro e w2 ⟨v2, rfl, hrow, hb2⟩
      have hx2 := hx1.below hb2
      clear hb2
      go_wp2_with fail
      go_ret
      exact ⟨_, rfl, hrow, hx2.low⟩
    · have hA : answers s ⟨4, ca, cb, cn⟩ = [⟨1, [], s.n⟩] := by unfold answers; rw [if_neg hkk]; rfl
      rw [hA]
      clear hA
      generalize (if s.has ca = true then ((hits ca s.rows : Nat) : Int) else -1) = AT at *
      obtain ⟨k0, rfl, hr⟩ := h
      obtain ⟨a, c, rfl, hc, hm⟩ := hr.shape
      unfold maxLen at hm
      obtain ⟨kd, n, rows⟩ := s
      dsimp only at *
      obtain ⟨A, hA⟩ : ∃ A : Obj, A = .cells #[.int .i64 kd, .int .i64 n, .slice a rows.length c] 38 (0, 0) := ⟨_, rfl⟩
      obtain ⟨B, hB⟩ : ∃ B : Obj, B = .cells #[.int .i64 4, .string (S ca), .string (S cb), .int .i64 cn] 29 (0, 0) := ⟨_, rfl⟩
      obtain ⟨c0, c1, c2, k0, k1, k2, k3⟩ := B2.sc (w := w) hA hB
      have hst := B2.start w A B
      have hstd := hst.drew
      clear hr hkk hK hk hs hop
      go_enter Tryd.func16, Tryd.ntmps16
      go_wp2_with fail
      rw [← hA, ← hB]
      clear hA hB
      go_region_held3 (fun w' => B2 w A B w') (with_reducible (first | exact hstd | exact hst | (refine B2.below ?_ (by assumption) <;> assumption)))
        (first | (go_at_call 11; refine (unhide HKI _).mono ?_; rintro e wm ⟨rfl, hbm⟩) | fail)
      have hx0 : B2 w A B wm := by assumption
      clear hbm hst hstd HKI
      go_wp2_with fail
      refine (unhide HFI _ hx0.low).mono ?_
      rintro e w1 ⟨rfl, hb1⟩
      have hx1 := hx0.below hb1
      clear hb1
      go_wp2_with fail
      go_ret
      exact ⟨_, rfl, Row3.new _ ⟨1, [], n⟩ _, hx1.low.trans (under_at hx1.low _)⟩
    · have hA : answers s ⟨5, ca, cb, cn⟩ = [okR true] := by unfold answers; rw [if_neg hkk]; rfl
      rw [hA]
      clear hA
      generalize (if s.has ca = true then ((hits ca s.rows : Nat) : Int) else -1) = AT at *
      have HO1 := hide (fun (w1 : World) => rok_any (w := w1) true)
      obtain ⟨k0, rfl, hr⟩ := h
      obtain ⟨a, c, rfl, hc, hm⟩ := hr.shape
      unfold maxLen at hm
      obtain ⟨kd, n, rows⟩ := s
      dsimp only at *
      obtain ⟨A, hA⟩ : ∃ A : Obj, A = .cells #[.int .i64 kd, .int .i64 n, .slice a rows.length c] 38 (0, 0) := ⟨_, rfl⟩
      obtain ⟨B, hB⟩ : ∃ B : Obj, B = .cells #[.int .i64 5, .string (S ca), .string (S cb), .int .i64 cn] 29 (0, 0) := ⟨_, rfl⟩
      obtain ⟨c0, c1, c2, k0, k1, k2, k3⟩ := B2.sc (w := w) hA hB
      have hst := B2.start w A B
      have hstd := hst.drew
      clear hr hkk hK hk hs hop
      go_enter Tryd.func16, Tryd.ntmps16
      go_wp2_with fail
      rw [← hA, ← hB]
      clear hA hB
      go_region_held3 (fun w' => B2 w A B w') (with_reducible (first | exact hstd | exact hst | (refine B2.below ?_ (by assumption) <;> assumption)))
        (first | (go_at_call 11; refine (unhide HKI _).mono ?_; rintro e wm ⟨rfl, hbm⟩) | fail)
      have hx0 : B2 w A B wm := by assumption
      clear hbm hst hstd HKI
      go_wp2_with fail
      refine (unhide HFI _ hx0.low).mono ?_
      rintro e w1 ⟨rfl, hb1⟩
      have hx1 := hx0.below hb1
      clear hb1
      go_wp2_with fail
      refine (unhide HO1 _).mono ?_
      rintro e w2 ⟨v2, rfl, hrow, hb2⟩
      have hx2 := hx1.below hb2
      clear hb2
      go_wp2_with fail
      go_ret
      exact ⟨_, rfl, hrow, hx2.low⟩
    · have hA : answers s ⟨6, ca, cb, cn⟩ = [okR (decide (cn ≤ s.n))] := by unfold answers; rw [if_neg hkk]; rfl
      rw [hA]
      clear hA
      generalize (if s.has ca = true then ((hits ca s.rows : Nat) : Int) else -1) = AT at *
      have HOK := hide (fun (w1 : World) => rok_any (w := w1) (decide (cn ≤ s.n)))
      generalize okR (decide (cn ≤ s.n)) = r at *
      obtain ⟨R, hR⟩ : ∃ R, decide (cn ≤ s.n) = R := ⟨_, rfl⟩
      rw [hR] at HOK
      obtain ⟨k0, rfl, hr⟩ := h
      obtain ⟨a, c, rfl, hc, hm⟩ := hr.shape
      unfold maxLen at hm
      obtain ⟨kd, n, rows⟩ := s
      dsimp only at *
      obtain ⟨A, hA⟩ : ∃ A : Obj, A = .cells #[.int .i64 kd, .int .i64 n, .slice a rows.length c] 38 (0, 0) := ⟨_, rfl⟩
      obtain ⟨B, hB⟩ : ∃ B : Obj, B = .cells #[.int .i64 6, .string (S ca), .string (S cb), .int .i64 cn] 29 (0, 0) := ⟨_, rfl⟩
      obtain ⟨c0, c1, c2, k0, k1, k2, k3⟩ := B2.sc (w := w) hA hB
      have hst := B2.start w A B
      have hstd := hst.drew
      clear hr hkk hK hk hs hop
      go_enter Tryd.func16, Tryd.ntmps16
      go_wp2_with fail
      rw [← hA, ← hB]
      clear hA hB
      go_region_held3 (fun w' => B2 w A B w') (with_reducible (first | exact hstd | exact hst | (refine B2.below ?_ (by assumption) <;> assumption)))
        (first | (go_at_call 11; refine (unhide HKI _).mono ?_; rintro e wm ⟨rfl, hbm⟩) | fail)
      have hx0 : B2 w A B wm := by assumption
      clear hbm hst hstd HKI
      go_wp2_with fail
      refine (unhide HFI _ hx0.low).mono ?_
      rintro e w1 ⟨rfl, hb1⟩
      have hx1 := hx0.below hb1
      clear hb1
      go_wp2_with fail
      refine (unhide HOK _).mono ?_
      rintro e w2 ⟨v2, rfl, hrow, hb2⟩
      have hx2 := hx1.below hb2
      clear hb2
      go_wp2_with fail
      go_ret
      exact ⟨_, rfl, hrow, hx2.low⟩
    · have hA : answers s ⟨7, ca, cb, cn⟩ = [⟨1, [], s.n⟩] := by unfold answers; rw [if_neg hkk]; rfl
      rw [hA]
      clear hA
      generalize (if s.has ca = true then ((hits ca s.rows : Nat) : Int) else -1) = AT at *
      obtain ⟨k0, rfl, hr⟩ := h
      obtain ⟨a, c, rfl, hc, hm⟩ := hr.shape
      unfold maxLen at hm
      obtain ⟨kd, n, rows⟩ := s
      dsimp only at *
      obtain ⟨A, hA⟩ : ∃ A : Obj, A = .cells #[.int .i64 kd, .int .i64 n, .slice a rows.length c] 38 (0, 0) := ⟨_, rfl⟩
      obtain ⟨B, hB⟩ : ∃ B : Obj, B = .cells #[.int .i64 7, .string (S ca), .string (S cb), .int .i64 cn] 29 (0, 0) := ⟨_, rfl⟩
      obtain ⟨c0, c1, c2, k0, k1, k2, k3⟩ := B2.sc (w := w) hA hB
      have hst := B2.start w A B
      have hstd := hst.drew
      clear hr hkk hK hk hs hop
      go_enter Tryd.func16, Tryd.ntmps16
      go_wp2_with fail
      rw [← hA, ← hB]
      clear hA hB
      go_region_held3 (fun w' => B2 w A B w') (with_reducible (first | exact hstd | exact hst | (refine B2.below ?_ (by assumption) <;> assumption)))
        (first | (go_at_call 11; refine (unhide HKI _).mono ?_; rintro e wm ⟨rfl, hbm⟩) | fail)
      have hx0 : B2 w A B wm := by assumption
      clear hbm hst hstd HKI
      go_wp2_with fail
      refine (unhide HFI _ hx0.low).mono ?_
      rintro e w1 ⟨rfl, hb1⟩
      have hx1 := hx0.below hb1
      clear hb1
      go_wp2_with fail
      go_ret
      exact ⟨_, rfl, Row3.new _ ⟨1, [], n⟩ _, hx1.low.trans (under_at hx1.low _)⟩
    · have hA : answers s ⟨8, ca, cb, cn⟩ = [okR (!s.has ca)] := by unfold answers; rw [if_neg hkk]; rfl
      rw [hA]
      clear hA
      have HOK := hide (fun (w1 : World) => rok_any (w := w1) (!s.has ca))
      generalize okR (!s.has ca) = r at *
      obtain ⟨R, hR⟩ : ∃ R, s.has ca = R := ⟨_, rfl⟩
      rw [hR] at HFI HOK
      clear hR
      generalize hits ca s.rows = P at *
      have hP0 : (0 : Int) ≤ (P : Int) := by omega
      have hP1 : ¬ (P : Int) < 0 := by omega
      cases R
      · rw [if_neg (by simp)] at HFI
        obtain ⟨k0, rfl, hr⟩ := h
        obtain ⟨a, c, rfl, hc, hm⟩ := hr.shape
        unfold maxLen at hm
        obtain ⟨kd, n, rows⟩ := s
        dsimp only at *
        obtain ⟨A, hA⟩ : ∃ A : Obj, A = .cells #[.int .i64 kd, .int .i64 n, .slice a rows.length c] 38 (0, 0) := ⟨_, rfl⟩
        obtain ⟨B, hB⟩ : ∃ B : Obj, B = .cells #[.int .i64 8, .string (S ca), .string (S cb), .int .i64 cn] 29 (0, 0) := ⟨_, rfl⟩
        obtain ⟨c0, c1, c2, k0, k1, k2, k3⟩ := B2.sc (w := w) hA hB
        have hst := B2.start w A B
        have hstd := hst.drew
        clear hr hkk hK hk hs hop
        go_enter Tryd.func16, Tryd.ntmps16
        go_wp2_with fail
        rw [← hA, ← hB]
        clear hA hB
        go_region_held3 (fun w' => B2 w A B w') (with_reducible (first | exact hstd | exact hst | (refine B2.below ?_ (by assumption) <;> assumption)))
          (first | (go_at_call 11; refine (unhide HKI _).mono ?_; rintro e wm ⟨rfl, hbm⟩) | fail)
        have hx0 : B2 w A B wm := by assumption
        clear hbm hst hstd HKI
        go_wp2_with fail
        refine (unhide HFI _ hx0.low).mono ?_
        rintro e w1 ⟨rfl, hb1⟩
        have hx1 := hx0.below hb1
        clear hb1
        go_wp2_with fail
        refine (unhide HOK _).mono ?_
        rintro e w2 ⟨v2, rfl, hrow, hb2⟩
        have hx2 := hx1.below hb2
        clear hb2
        go_wp2_with fail
        go_ret
        exact ⟨_, rfl, hrow, hx2.low⟩
      · rw [if_pos rfl] at HFI
        obtain ⟨k0, rfl, hr⟩ := h
        obtain ⟨a, c, rfl, hc, hm⟩ := hr.shape
        unfold maxLen at hm
        obtain ⟨kd, n, rows⟩ := s
        dsimp only at *
        obtain ⟨A, hA⟩ : ∃ A : Obj, A = .cells #[.int .i64 kd, .int .i64 n, .slice a rows.length c] 38 (0, 0) := ⟨_, rfl⟩
        obtain ⟨B, hB⟩ : ∃ B : Obj, B = .cells #[.int .i64 8, .string (S ca), .string (S cb), .int .i64 cn] 29 (0, 0) := ⟨_, rfl⟩
        obtain ⟨c0, c1, c2, k0, k1, k2, k3⟩ := B2.sc (w := w) hA hB
        have hst := B2.start w A B
        have hstd := hst.drew
        clear hr hkk hK hk hs hop
        go_enter Tryd.func16, Tryd.ntmps16
        go_wp2_with fail
        rw [← hA, ← hB]
        clear hA hB
        go_region_held3 (fun w' => B2 w A B w') (with_reducible (first | exact hstd | exact hst | (refine B2.below ?_ (by assumption) <;> assumption)))
          (first | (go_at_call 11; refine (unhide HKI _).mono ?_; rintro e wm ⟨rfl, hbm⟩) | fail)
        have hx0 : B2 w A B wm := by assumption
        clear hbm hst hstd HKI
        go_wp2_with fail
        refine (unhide HFI _ hx0.low).mono ?_
        rintro e w1 ⟨rfl, hb1⟩
        have hx1 := hx0.below hb1
        clear hb1
        go_wp2_with fail
        refine (unhide HOK _).mono ?_
        rintro e w2 ⟨v2, rfl, hrow, hb2⟩
        have hx2 := hx1.below hb2
        clear hb2
        go_wp2_with fail
        go_ret
        exact ⟨_, rfl, hrow, hx2.low⟩
    · have hA : answers s ⟨9, ca, cb, cn⟩ = [okR (s.has ca)] := by unfold answers; rw [if_neg hkk]; rfl
      rw [hA]
      clear hA
      have HOK := hide (fun (w1 : World) => rok_any (w := w1) (s.has ca))
      generalize okR (s.has ca) = r at *
      obtain ⟨R, hR⟩ : ∃ R, s.has ca = R := ⟨_, rfl⟩
      rw [hR] at HFI HOK
      clear hR
      generalize hits ca s.rows = P at *
      have hP0 : (0 : Int) ≤ (P : Int) := by omega
      have hP1 : ¬ (P : Int) < 0 := by omega
      cases R
      · rw [if_neg (by simp)] at HFI
        obtain ⟨k0, rfl, hr⟩ := h
        obtain ⟨a, c, rfl, hc, hm⟩ := hr.shape
        unfold maxLen at hm
        obtain ⟨kd, n, rows⟩ := s
        dsimp only at *
        obtain ⟨A, hA⟩ : ∃ A : Obj, A = .cells #[.int .i64 kd, .int .i64 n, .slice a rows.length c] 38 (0, 0) := ⟨_, rfl⟩
        obtain ⟨B, hB⟩ : ∃ B : Obj, B = .cells #[.int .i64 9, .string (S ca), .string (S cb), .int .i64 cn] 29 (0, 0) := ⟨_, rfl⟩
        obtain ⟨c0, c1, c2, k0, k1, k2, k3⟩ := B2.sc (w := w) hA hB
        have hst := B2.start w A B
        have hstd := hst.drew
        clear hr hkk hK hk hs hop
        go_enter Tryd.func16, Tryd.ntmps16
        go_wp2_with fail
        rw [← hA, ← hB]
        clear hA hB
        go_region_held3 (fun w' => B2 w A B w') (with_reducible (first | exact hstd | exact hst | (refine B2.below ?_ (by assumption) <;> assumption)))
          (first | (go_at_call 11; refine (unhide HKI _).mono ?_; rintro e wm ⟨rfl, hbm⟩) | fail)
        have hx0 : B2 w A B wm := by assumption
        clear hbm hst hstd HKI
        go_wp2_with fail
        refine (unhide HFI _ hx0.low).mono ?_
        rintro e w1 ⟨rfl, hb1⟩
        have hx1 := hx0.below hb1
        clear hb1
        go_wp2_with fail
        refine (unhide HOK _).mono ?_
        rintro e w2 ⟨v2, rfl, hrow, hb2⟩
        have hx2 := hx1.below hb2
        clear hb2
        go_wp2_with fail
        go_ret
        exact ⟨_, rfl, hrow, hx2.low⟩
      · rw [if_pos rfl] at HFI
        obtain ⟨k0, rfl, hr⟩ := h
        obtain ⟨a, c, rfl, hc, hm⟩ := hr.shape
        unfold maxLen at hm
        obtain ⟨kd, n, rows⟩ := s
        dsimp only at *
        obtain ⟨A, hA⟩ : ∃ A : Obj, A = .cells #[.int .i64 kd, .int .i64 n, .slice a rows.length c] 38 (0, 0) := ⟨_, rfl⟩
        obtain ⟨B, hB⟩ : ∃ B : Obj, B = .cells #[.int .i64 9, .string (S ca), .string (S cb), .int .i64 cn] 29 (0, 0) := ⟨_, rfl⟩
        obtain ⟨c0, c1, c2, k0, k1, k2, k3⟩ := B2.sc (w := w) hA hB
        have hst := B2.start w A B
        have hstd := hst.drew
        clear hr hkk hK hk hs hop
        go_enter Tryd.func16, Tryd.ntmps16
        go_wp2_with fail
        rw [← hA, ← hB]
        clear hA hB
        go_region_held3 (fun w' => B2 w A B w') (with_reducible (first | exact hstd | exact hst | (refine B2.below ?_ (by assumption) <;> assumption)))
          (first | (go_at_call 11; refine (unhide HKI _).mono ?_; rintro e wm ⟨rfl, hbm⟩) | fail)
        have hx0 : B2 w A B wm := by assumption
        clear hbm hst hstd HKI
        go_wp2_with fail
        refine (unhide HFI _ hx0.low).mono ?_
        rintro e w1 ⟨rfl, hb1⟩
        have hx1 := hx0.below hb1
        clear hb1
        go_wp2_with fail
        refine (unhide HOK _).mono ?_
        rintro e w2 ⟨v2, rfl, hrow, hb2⟩
        have hx2 := hx1.below hb2
        clear hb2
        go_wp2_with fail
        go_ret
        exact ⟨_, rfl, hrow, hx2.low⟩
    · have hA : answers s ⟨10, ca, cb, cn⟩ = [okR (s.has ca)] := by unfold answers; rw [if_neg hkk]; rfl
      rw [hA]
      clear hA
      have HOK := hide (fun (w1 : World) => rok_any (w := w1) (s.has ca))
      generalize okR (s.has ca) = r at *
      obtain ⟨R, hR⟩ : ∃ R, s.has ca = R := ⟨_, rfl⟩
      rw [hR] at HFI HOK
      clear hR
      generalize hits ca s.rows = P at *
      have hP0 : (0 : Int) ≤ (P : Int) := by omega
      have hP1 : ¬ (P : Int) < 0 := by omega
      cases R
      · rw [if_neg (by simp)] at HFI
        obtain ⟨k0, rfl, hr⟩ := h
        obtain ⟨a, c, rfl, hc, hm⟩ := hr.shape
        unfold maxLen at hm
        obtain ⟨kd, n, rows⟩ := s
        dsimp only at *
        obtain ⟨A, hA⟩ : ∃ A : Obj, A = .cells #[.int .i64 kd, .int .i64 n, .slice a rows.length c] 38 (0, 0) := ⟨_, rfl⟩
        obtain ⟨B, hB⟩ : ∃ B : Obj, B = .cells #[.int .i64 10, .string (S ca), .string (S cb), .int .i64 cn] 29 (0, 0) := ⟨_, rfl⟩
        obtain ⟨c0, c1, c2, k0, k1, k2, k3⟩ := B2.sc (w := w) hA hB
        have hst := B2.start w A B
        have hstd := hst.drew
        clear hr hkk hK hk hs hop
        go_enter Tryd.func16, Tryd.ntmps16
        go_wp2_with fail
        rw [← hA, ← hB]
        clear hA hB
        go_region_held3 (fun w' => B2 w A B w') (with_reducible (first | exact hstd | exact hst | (refine B2.below ?_ (by assumption) <;> assumption)))
          (first | (go_at_call 11; refine (unhide HKI _).mono ?_; rintro e wm ⟨rfl, hbm⟩) | fail)
        have hx0 : B2 w A B wm := by assumption
        clear hbm hst hstd HKI
        go_wp2_with fail
        refine (unhide HFI _ hx0.low).mono ?_
        rintro e w1 ⟨rfl, hb1⟩
        have hx1 := hx0.below hb1
        clear hb1
        go_wp2_with fail
        refine (unhide HOK _).mono ?_
        rintro e w2 ⟨v2, rfl, hrow, hb2⟩
        have hx2 := hx1.below hb2
        clear hb2
        go_wp2_with fail
        go_ret
        exact ⟨_, rfl, hrow, hx2.low⟩
      · rw [if_pos rfl] at HFI
        obtain ⟨k0, rfl, hr⟩ := h
        obtain ⟨a, c, rfl, hc, hm⟩ := hr.shape
        unfold maxLen at hm
        obtain ⟨kd, n, rows⟩ := s
        dsimp only at *
        obtain ⟨A, hA⟩ : ∃ A : Obj, A = .cells #[.int .i64 kd, .int .i64 n, .slice a rows.length c] 38 (0, 0) := ⟨_, rfl⟩
        obtain ⟨B, hB⟩ : ∃ B : Obj, B = .cells #[.int .i64 10, .string (S ca), .string (S cb), .int .i64 cn] 29 (0, 0) := ⟨_, rfl⟩
        obtain ⟨c0, c1, c2, k0, k1, k2, k3⟩ := B2.sc (w := w) hA hB
        have hst := B2.start w A B
        have hstd := hst.drew
        clear hr hkk hK hk hs hop
        go_enter Tryd.func16, Tryd.ntmps16
        go_wp2_with fail
        rw [← hA, ← hB]
        clear hA hB
        go_region_held3 (fun w' => B2 w A B w') (with_reducible (first | exact hstd | exact hst | (refine B2.below ?_ (by assumption) <;> assumption)))
          (first | (go_at_call 11; refine (unhide HKI _).mono ?_; rintro e wm ⟨rfl, hbm⟩) | fail)
        have hx0 : B2 w A B wm := by assumption
        clear hbm hst hstd HKI
        go_wp2_with fail
        refine (unhide HFI _ hx0.low).mono ?_
        rintro e w1 ⟨rfl, hb1⟩
        have hx1 := hx0.below hb1
        clear hb1
        go_wp2_with fail
        refine (unhide HOK _).mono ?_
        rintro e w2 ⟨v2, rfl, hrow, hb2⟩
        have hx2 := hx1.below hb2
        clear hb2
        go_wp2_with fail
        go_ret
        exact ⟨_, rfl, hrow, hx2.low⟩
    · have hA : answers s ⟨11, ca, cb, cn⟩ = [okR (!s.has ca)] := by unfold answers; rw [if_neg hkk]; rfl
      rw [hA]
      clear hA
      have HOK := hide (fun (w1 : World) => rok_any (w := w1) (!s.has ca))
      generalize okR (!s.has ca) = r at *
      obtain ⟨R, hR⟩ : ∃ R, s.has ca = R := ⟨_, rfl⟩
      rw [hR] at HFI HOK
      clear hR
      generalize hits ca s.rows = P at *
      have hP0 : (0 : Int) ≤ (P : Int) := by omega
      have hP1 : ¬ (P : Int) < 0 := by omega
      cases R
      · rw [if_neg (by simp)] at HFI
        obtain ⟨k0, rfl, hr⟩ := h
        obtain ⟨a, c, rfl, hc, hm⟩ := hr.shape
        unfold maxLen at hm
        obtain ⟨kd, n, rows⟩ := s
        dsimp only at *
        obtain ⟨A, hA⟩ : ∃ A : Obj, A = .cells #[.int .i64 kd, .int .i64 n, .slice a rows.length c] 38 (0, 0) := ⟨_, rfl⟩
        obtain ⟨B, hB⟩ : ∃ B : Obj, B = .cells #[.int .i64 11, .string (S ca), .string (S cb), .int .i64 cn] 29 (0, 0) := ⟨_, rfl⟩
        obtain ⟨c0, c1, c2, k0, k1, k2, k3⟩ := B2.sc (w := w) hA hB
        have hst := B2.start w A B
        have hstd := hst.drew
        clear hr hkk hK hk hs hop
        go_enter Tryd.func16, Tryd.ntmps16
        go_wp2_with fail
        rw [← hA, ← hB]
        clear hA hB
        go_region_held3 (fun w' => B2 w A B w') (with_reducible (first | exact hstd | exact hst | (refine B2.below ?_ (by assumption) <;> assumption)))
          (first | (go_at_call 11; refine (unhide HKI _).mono ?_; rintro e wm ⟨rfl, hbm⟩) | fail)
        have hx0 : B2 w A B wm := by assumption
        clear hbm hst hstd HKI
        go_wp2_with fail
        refine (unhide HFI _ hx0.low).mono ?_
        rintro e w1 ⟨rfl, hb1⟩
        have hx1 := hx0.below hb1
        clear hb1
        go_wp2_with fail
        refine (unhide HOK _).mono ?_
        rintro e w2 ⟨v2, rfl, hrow, hb2⟩
        have hx2 := hx1.below hb2
        clear hb2
        go_wp2_with fail
        go_ret
        exact ⟨_, rfl, hrow, hx2.low⟩
      · rw [if_pos rfl] at HFI
        obtain ⟨k0, rfl, hr⟩ := h
        obtain ⟨a, c, rfl, hc, hm⟩ := hr.shape
        unfold maxLen at hm
        obtain ⟨kd, n, rows⟩ := s
        dsimp only at *
        obtain ⟨A, hA⟩ : ∃ A : Obj, A = .cells #[.int .i64 kd, .int .i64 n, .slice a rows.length c] 38 (0, 0) := ⟨_, rfl⟩
        obtain ⟨B, hB⟩ : ∃ B : Obj, B = .cells #[.int .i64 11, .string (S ca), .string (S cb), .int .i64 cn] 29 (0, 0) := ⟨_, rfl⟩
        obtain ⟨c0, c1, c2, k0, k1, k2, k3⟩ := B2.sc (w := w) hA hB
        have hst := B2.start w A B
        have hstd := hst.drew
        clear hr hkk hK hk hs hop
        go_enter Tryd.func16, Tryd.ntmps16
        go_wp2_with fail
        rw [← hA, ← hB]
        clear hA hB
        go_region_held3 (fun w' => B2 w A B w') (with_reducible (first | exact hstd | exact hst | (refine B2.below ?_ (by assumption) <;> assumption)))
          (first | (go_at_call 11; refine (unhide HKI _).mono ?_; rintro e wm ⟨rfl, hbm⟩) | fail)
        have hx0 : B2 w A B wm := by assumption
        clear hbm hst hstd HKI
        go_wp2_with fail
        refine (unhide HFI _ hx0.low).mono ?_
        rintro e w1 ⟨rfl, hb1⟩
        have hx1 := hx0.below hb1
        clear hb1
        go_wp2_with fail
        refine (unhide HOK _).mono ?_
        rintro e w2 ⟨v2, rfl, hrow, hb2⟩
        have hx2 := hx1.below hb2
        clear hb2
        go_wp2_with fail
        go_ret
        exact ⟨_, rfl, hrow, hx2.low⟩
    · have hA : answers s ⟨12, ca, cb, cn⟩ = [okR (s.has ca)] := by unfold answers; rw [if_neg hkk]; rfl
      rw [hA]
      clear hA
      have HOK := hide (fun (w1 : World) => rok_any (w := w1) (s.has ca))
      generalize okR (s.has ca) = r at *
      obtain ⟨R, hR⟩ : ∃ R, s.has ca = R := ⟨_, rfl⟩
      rw [hR] at HFI HOK
      clear hR
      generalize hits ca s.rows = P at *
      have hP0 : (0 : Int) ≤ (P : Int) := by omega
      have hP1 : ¬ (P : Int) < 0 := by omega
      cases R
      · rw [if_neg (by simp)] at HFI
        obtain ⟨k0, rfl, hr⟩ := h
        obtain ⟨a, c, rfl, hc, hm⟩ := hr.shape
        unfold maxLen at hm
        obtain ⟨kd, n, rows⟩ := s
        dsimp only at *
        obtain ⟨A, hA⟩ : ∃ A : Obj, A = .cells #[.int .i64 kd, .int .i64 n, .slice a rows.length c] 38 (0, 0) := ⟨_, rfl⟩
        obtain ⟨B, hB⟩ : ∃ B : Obj, B = .cells #[.int .i64 12, .string (S ca), .string (S cb), .int .i64 cn] 29 (0, 0) := ⟨_, rfl⟩
        obtain ⟨c0, c1, c2, k0, k1, k2, k3⟩ := B2.sc (w := w) hA hB
        have hst := B2.start w A B
        have hstd := hst.drew
        clear hr hkk hK hk hs hop
        go_enter Tryd.func16, Tryd.ntmps16
        go_wp2_with fail
        rw [← hA, ← hB]
        clear hA hB
        go_region_held3 (fun w' => B2 w A B w') (with_reducible (first | exact hstd | exact hst | (refine B2.below ?_ (by assumption) <;> assumption)))
          (first | (go_at_call 11; refine (unhide HKI _).mono ?_; rintro e wm ⟨rfl, hbm⟩) | fail)
        have hx0 : B2 w A B wm := by assumption
        clear hbm hst hstd HKI
        go_wp2_with fail
        refine (unhide HFI _ hx0.low).mono ?_
        rintro e w1 ⟨rfl, hb1⟩
        have hx1 := hx0.below hb1
        clear hb1
        go_wp2_with fail
        refine (unhide HOK _).mono ?_
        rintro e w2 ⟨v2, rfl, hrow, hb2⟩
        have hx2 := hx1.below hb2
        clear hb2
        go_wp2_with fail
        go_ret
        exact ⟨_, rfl, hrow, hx2.low⟩
      · rw [if_pos rfl] at HFI
        obtain ⟨k0, rfl, hr⟩ := h
        obtain ⟨a, c, rfl, hc, hm⟩ := hr.shape
        unfold maxLen at hm
        obtain ⟨kd, n, rows⟩ := s
        dsimp only at *
        obtain ⟨A, hA⟩ : ∃ A : Obj, A = .cells #[.int .i64 kd, .int .i64 n, .slice a rows.length c] 38 (0, 0) := ⟨_, rfl⟩
        obtain ⟨B, hB⟩ : ∃ B : Obj, B = .cells #[.int .i64 12, .string (S ca), .string (S cb), .int .i64 cn] 29 (0, 0) := ⟨_, rfl⟩
        obtain ⟨c0, c1, c2, k0, k1, k2, k3⟩ := B2.sc (w := w) hA hB
        have hst := B2.start w A B
        have hstd := hst.drew
        clear hr hkk hK hk hs hop
        go_enter Tryd.func16, Tryd.ntmps16
        go_wp2_with fail
        rw [← hA, ← hB]
        clear hA hB
        go_region_held3 (fun w' => B2 w A B w') (with_reducible (first | exact hstd | exact hst | (refine B2.below ?_ (by assumption) <;> assumption)))
          (first | (go_at_call 11; refine (unhide HKI _).mono ?_; rintro e wm ⟨rfl, hbm⟩) | fail)
        have hx0 : B2 w A B wm := by assumption
        clear hbm hst hstd HKI
        go_wp2_with fail
        refine (unhide HFI _ hx0.low).mono ?_
        rintro e w1 ⟨rfl, hb1⟩
        have hx1 := hx0.below hb1
        clear hb1
        go_wp2_with fail
        refine (unhide HOK _).mono ?_
        rintro e w2 ⟨v2, rfl, hrow, hb2⟩
        have hx2 := hx1.below hb2
        clear hb2
        go_wp2_with fail
        go_ret
        exact ⟨_, rfl, hrow, hx2.low⟩
    · have hA : answers s ⟨13, ca, cb, cn⟩ = [lookR s ca] := by unfold answers; rw [if_neg hkk]; rfl
      rw [hA]
      clear hA
      have HO0 := hide (fun (w1 : World) => rok_any (w := w1) false)
      unfold lookR
      unfold VS.has at *
      by_cases hl : hits ca s.rows < s.rows.length
      · rw [decide_eq_true hl, if_pos rfl] at *
        obtain ⟨k0, rfl, hr⟩ := h
        obtain ⟨a, c, rfl, hc, hm⟩ := hr.shape
        unfold maxLen at hm
        obtain ⟨b, off, rfl, hbl, e1, e2⟩ := hr.at _ hl
        have hg : s.val (hits ca s.rows) = (s.rows[hits ca s.rows]'hl).2 := by simp [VS.val, List.getD, hl]
        rw [hg]
        generalize s.rows[hits ca s.rows]'hl = q at *
        generalize hits ca s.rows = P at *
        obtain ⟨x, y⟩ := q
        have hP0 : (0 : Int) ≤ (P : Int) := by omega
        have hP1 : ¬ (P : Int) < 0 := by omega
        have hP2 : (P : Int) < ((s.rows.length : Nat) : Int) := by omega
        clear hg hl
        obtain ⟨kd, n, rows⟩ := s
        dsimp only at *
        obtain ⟨A, hA⟩ : ∃ A : Obj, A = .cells #[.int .i64 kd, .int .i64 n, .slice (some ⟨b, off, none⟩) rows.length c] 38 (0, 0) := ⟨_, rfl⟩
        obtain ⟨B, hB⟩ : ∃ B : Obj, B = .cells #[.int .i64 13, .string (S ca), .string (S cb), .int .i64 cn] 29 (0, 0) := ⟨_, rfl⟩
        obtain ⟨c0, c1, c2, k0, k1, k2, k3⟩ := B2.sc (w := w) hA hB
        have hst := B2.start w A B
        have hstd := hst.drew
        clear hr hkk hK hk hs hop
        go_enter Tryd.func16, Tryd.ntmps16
        go_wp2_with fail
        rw [← hA, ← hB]
        clear hA hB
        go_region_held3 (fun w' => B2 w A B w') (with_reducible (first | exact hstd | exact hst | (refine B2.below ?_ (by assumption) <;> assumption)))
          (first | (go_at_call 11; refine (unhide HKI _).mono ?_; rintro e wm ⟨rfl, hbm⟩) | fail)
        have hx0 : B2 w A B wm := by assumption
        clear hbm hst hstd HKI
        go_wp2_with fail
        refine (unhide HFI _ hx0.low).mono ?_
        rintro e w1 ⟨rfl, hb1⟩
        have hx1 := hx0.below hb1
        clear hb1
        have hlow := hx1.low
        rw [← hlow.cell (p := ⟨b, off + P * 2 + 1, none⟩) hbl] at e2
        clear e1 hlow
        go_wp2_with fail
        go_ret
        exact ⟨_, rfl, Row3.new _ ⟨1, y, 0⟩ _, hx1.low.trans (under_at hx1.low _)⟩
      · rw [decide_eq_false hl] at *
        rw [if_neg (by simp)] at *
        obtain ⟨k0, rfl, hr⟩ := h
        obtain ⟨a, c, rfl, hc, hm⟩ := hr.shape
        unfold maxLen at hm
        generalize hits ca s.rows = P at *
        clear hl
        obtain ⟨kd, n, rows⟩ := s
        dsimp only at *
        obtain ⟨A, hA⟩ : ∃ A : Obj, A = .cells #[.int .i64 kd, .int .i64 n, .slice a rows.length c] 38 (0, 0) := ⟨_, rfl⟩
        obtain ⟨B, hB⟩ : ∃ B : Obj, B = .cells #[.int .i64 13, .string (S ca), .string (S cb), .int .i64 cn] 29 (0, 0) := ⟨_, rfl⟩
        obtain ⟨c0, c1, c2, k0, k1, k2, k3⟩ := B2.sc (w := w) hA hB
        have hst := B2.start w A B
        have hstd := hst.drew
        clear hr hkk hK hk hs hop
        go_enter Tryd.func16, Tryd.ntmps16
        go_wp2_with fail
        rw [← hA, ← hB]
        clear hA hB
        go_region_held3 (fun w' => B2 w A B w') (with_reducible (first | exact hstd | exact hst | (refine B2.below ?_ (by assumption) <;> assumption)))
          (first | (go_at_call 11; refine (unhide HKI _).mono ?_; rintro e wm ⟨rfl, hbm⟩) | fail)
        have hx0 : B2 w A B wm := by assumption
        clear hbm hst hstd HKI
        go_wp2_with fail
        refine (unhide HFI _ hx0.low).mono ?_
        rintro e w1 ⟨rfl, hb1⟩
        have hx1 := hx0.below hb1
        clear hb1
        go_wp2_with fail
        refine (unhide HO0 _).mono ?_
        rintro e w2 ⟨v2, rfl, hrow, hb2⟩
        have hx2 := hx1.below hb2
        clear hb2
        go_wp2_with fail
        go_ret
        exact ⟨_, rfl, hrow, hx2.low⟩
    · have hA : answers s ⟨14, ca, cb, cn⟩ = [okR true] := by unfold answers; rw [if_neg hkk]; rfl
      rw [hA]
      clear hA
      generalize (if s.has ca = true then ((hits ca s.rows : Nat) : Int) else -1) = AT at *
      have HO1 := hide (fun (w1 : World) => rok_any (w := w1) true)
      obtain ⟨k0, rfl, hr⟩ := h
      obtain ⟨a, c, rfl, hc, hm⟩ := hr.shape
      unfold maxLen at hm
      obtain ⟨kd, n, rows⟩ := s
      dsimp only at *
      obtain ⟨A, hA⟩ : ∃ A : Obj, A = .cells #[.int .i64 kd, .int .i64 n, .slice a rows.length c] 38 (0, 0) := ⟨_, rfl⟩
      obtain ⟨B, hB⟩ : ∃ B : Obj, B = .cells #[.int .i64 14, .string (S ca), .string (S cb), .int .i64 cn] 29 (0, 0) := ⟨_, rfl⟩
      obtain ⟨c0, c1, c2, k0, k1, k2, k3⟩ := B2.sc (w := w) hA hB
      have hst := B2.start w A B
      have hstd := hst.drew
      clear hr hkk hK hk hs hop
      go_enter Tryd.func16, Tryd.ntmps16
      go_wp2_with fail
      rw [← hA, ← hB]
      clear hA hB
      go_region_held3 (fun w' => B2 w A B w') (with_reducible (first | exact hstd | exact hst | (refine B2.below ?_ (by assumption) <;> assumption)))
        (first | (go_at_call 11; refine (unhide HKI _).mono ?_; rintro e wm ⟨rfl, hbm⟩) | fail)
      have hx0 : B2 w A B wm := by assumption
      clear hbm hst hstd HKI
      go_wp2_with fail
      refine (unhide HFI _ hx0.low).mono ?_
      rintro e w1 ⟨rfl, hb1⟩
      have hx1 := hx0.below hb1
      clear hb1
      go_wp2_with fail
      refine (unhide HO1 _).mono ?_
      rintro e w2 ⟨v2, rfl, hrow, hb2⟩
      have hx2 := hx1.below hb2
      clear hb2
      go_wp2_with fail
      go_ret
      exact ⟨_, rfl, hrow, hx2.low⟩
    · have hA : answers s ⟨15, ca, cb, cn⟩ = [frontR s] := by unfold answers; rw [if_neg hkk]; rfl
      rw [hA]
      clear hA
      have HTK := hide (fun (w1 : World) (hb : Below w.heap.size w w1) => rtaken_any (h.later hb) hs false)
      simp only [takeO_false, Bool.false_eq_true, if_false] at HTK
      generalize frontR s = T at *
      generalize (if s.has ca = true then ((hits ca s.rows : Nat) : Int) else -1) = AT at *
      obtain ⟨k0, rfl, hr⟩ := h
      obtain ⟨a, c, rfl, hc, hm⟩ := hr.shape
      unfold maxLen at hm
      obtain ⟨kd, n, rows⟩ := s
      dsimp only at *
      obtain ⟨A, hA⟩ : ∃ A : Obj, A = .cells #[.int .i64 kd, .int .i64 n, .slice a rows.length c] 38 (0, 0) := ⟨_, rfl⟩
      obtain ⟨B, hB⟩ : ∃ B : Obj, B = .cells #[.int .i64 15, .string (S ca), .string (S cb), .int .i64 cn] 29 (0, 0) := ⟨_, rfl⟩
      obtain ⟨c0, c1, c2, k0, k1, k2, k3⟩ := B2.sc (w := w) hA hB
      have hst := B2.start w A B
      have hstd := hst.drew
      clear hr hkk hK hk hs hop
      go_enter Tryd.func16, Tryd.ntmps16
      go_wp2_with fail
      rw [← hA, ← hB]
      clear hA hB
      go_region_held3 (fun w' => B2 w A B w') (with_reducible (first | exact hstd | exact hst | (refine B2.below ?_ (by assumption) <;> assumption)))
        (first | (go_at_call 11; refine (unhide HKI _).mono ?_; rintro e wm ⟨rfl, hbm⟩) | fail)
      have hx0 : B2 w A B wm := by assumption
      clear hbm hst hstd HKI
      go_wp2_with fail
      refine (unhide HFI _ hx0.low).mono ?_
      rintro e w1 ⟨rfl, hb1⟩
      have hx1 := hx0.below hb1
      clear hb1
      go_wp2_with fail
      refine (unhide HTK _ hx1.low).mono ?_
      rintro e w2 ⟨v2, rfl, hrow, hb2⟩
      have hx2 := hx1.below hb2
      clear hb2
      go_wp2_with fail
      go_ret
      exact ⟨_, rfl, hrow, hx2.low⟩
    · have hA : answers s ⟨16, ca, cb, cn⟩ = [okR true] := by unfold answers; rw [if_neg hkk]; rfl
      rw [hA]
      clear hA
      generalize (if s.has ca = true then ((hits ca s.rows : Nat) : Int) else -1) = AT at *
      have HO1 := hide (fun (w1 : World) => rok_any (w := w1) true)
      obtain ⟨k0, rfl, hr⟩ := h
      obtain ⟨a, c, rfl, hc, hm⟩ := hr.shape
      unfold maxLen at hm
      obtain ⟨kd, n, rows⟩ := s
      dsimp only at *
      obtain ⟨A, hA⟩ : ∃ A : Obj, A = .cells #[.int .i64 kd, .int .i64 n, .slice a rows.length c] 38 (0, 0) := ⟨_, rfl⟩
      obtain ⟨B, hB⟩ : ∃ B : Obj, B = .cells #[.int .i64 16, .string (S ca), .string (S cb), .int .i64 cn] 29 (0, 0) := ⟨_, rfl⟩
      obtain ⟨c0, c1, c2, k0, k1, k2, k3⟩ := B2.sc (w := w) hA hB
      have hst := B2.start w A B
      have hstd := hst.drew
      clear hr hkk hK hk hs hop
      go_enter Tryd.func16, Tryd.ntmps16
      go_wp2_with fail
      rw [← hA, ← hB]
      clear hA hB
      go_region_held3 (fun w' => B2 w A B w') (with_reducible (first | exact hstd | exact hst | (refine B2.below ?_ (by assumption) <;> assumption)))
        (first | (go_at_call 11; refine (unhide HKI _).mono ?_; rintro e wm ⟨rfl, hbm⟩) | fail)
      have hx0 : B2 w A B wm := by assumption
      clear hbm hst hstd HKI
      go_wp2_with fail
      refine (unhide HFI _ hx0.low).mono ?_
      rintro e w1 ⟨rfl, hb1⟩
      have hx1 := hx0.below hb1
      clear hb1
      go_wp2_with fail
      refine (unhide HO1 _).mono ?_
      rintro e w2 ⟨v2, rfl, hrow, hb2⟩
      have hx2 := hx1.below hb2
      clear hb2
      go_wp2_with fail
      go_ret
      exact ⟨_, rfl, hrow, hx2.low⟩
    · have hA : answers s ⟨17, ca, cb, cn⟩ = takes s := by unfold answers; rw [if_neg hkk]; rfl
      rw [hA]
      clear hA
      have HTK := hide (fun (w1 : World) (hb : Below w.heap.size w w1) => rtaken_any (h.later hb) hs true)
      simp only [takeO_true, if_true] at HTK
      generalize takes s = T at *
      generalize (if s.has ca = true then ((hits ca s.rows : Nat) : Int) else -1) = AT at *
      obtain ⟨k0, rfl, hr⟩ := h
      obtain ⟨a, c, rfl, hc, hm⟩ := hr.shape
      unfold maxLen at hm
      obtain ⟨kd, n, rows⟩ := s
      dsimp only at *
      obtain ⟨A, hA⟩ : ∃ A : Obj, A = .cells #[.int .i64 kd, .int .i64 n, .slice a rows.length c] 38 (0, 0) := ⟨_, rfl⟩
      obtain ⟨B, hB⟩ : ∃ B : Obj, B = .cells #[.int .i64 17, .string (S ca), .string (S cb), .int .i64 cn] 29 (0, 0) := ⟨_, rfl⟩
      obtain ⟨c0, c1, c2, k0, k1, k2, k3⟩ := B2.sc (w := w) hA hB
      have hst := B2.start w A B
      have hstd := hst.drew
      clear hr hkk hK hk hs hop
      go_enter Tryd.func16, Tryd.ntmps16
      go_wp2_with fail
      rw [← hA, ← hB]
      clear hA hB
      go_region_held3 (fun w' => B2 w A B w') (with_reducible (first | exact hstd | exact hst | (refine B2.below ?_ (by assumption) <;> assumption)))
        (first | (go_at_call 11; refine (unhide HKI _).mono ?_; rintro e wm ⟨rfl, hbm⟩) | fail)
      have hx0 : B2 w A B wm := by assumption
      clear hbm hst hstd HKI
      go_wp2_with fail
      refine (unhide HFI _ hx0.low).mono ?_
      rintro e w1 ⟨rfl, hb1⟩
      have hx1 := hx0.below hb1
      clear hb1
      go_wp2_with fail
      refine (unhide HTK _ hx1.low).mono ?_
      rintro e w2 ⟨v2, rfl, hrow, hb2⟩
      have hx2 := hx1.below hb2
      clear hb2
      go_wp2_with fail
      go_ret
      exact ⟨_, rfl, hrow, hx2.low⟩
  · have e0 : (K != s.kind) = true := by rw [bne_iff_ne]; exact hk
    have hkk : (mfact op).kind ≠ s.kind := by rw [hK]; exact hk
    rw [show answers s ⟨op, ca, cb, cn⟩ = [] by unfold answers; rw [if_pos hkk]]
    generalize (if s.has ca = true then ((hits ca s.rows : Nat) : Int) else -1) = AT at *
    obtain ⟨k0, rfl, hr⟩ := h
    obtain ⟨a, c, rfl, hc, hm⟩ := hr.shape
    unfold maxLen at hm
    obtain ⟨kd, n, rows⟩ := s
    dsimp only at *
    obtain ⟨A, hA⟩ : ∃ A : Obj, A = .cells #[.int .i64 kd, .int .i64 n, .slice a rows.length c] 38 (0, 0) := ⟨_, rfl⟩
    obtain ⟨B, hB⟩ : ∃ B : Obj, B = .cells #[.int .i64 op, .string (S ca), .string (S cb), .int .i64 cn] 29 (0, 0) := ⟨_, rfl⟩
    obtain ⟨c0, c1, c2, k0, k1, k2, k3⟩ := B2.sc (w := w) hA hB
    have hst := B2.start w A B
    have hstd := hst.drew
    clear hr hkk hK hk hs hop HFI
    go_enter Tryd.func16, Tryd.ntmps16
    go_wp2_with fail
    rw [← hA, ← hB]
    clear hA hB
    go_region_held3 (fun w' => B2 w A B w') (with_reducible (first | exact hstd | exact hst | (refine B2.below ?_ (by assumption) <;> assumption)))
      (first | (go_at_call 11; refine (unhide HKI _).mono ?_; rintro e wm ⟨rfl, hbm⟩) | fail)
    have hx0 : B2 w A B wm := by assumption
    clear hbm hst hstd HKI
    go_wp2_with fail
    go_ret
    exact ⟨_, rfl, Row3.nil _, hx0.low⟩
end Go.Proofs.YteaiidcconggcaaDoor
/- The contracts of slices.Index and Contains at answers, and of Legal, the program's and the document's. -/
namespace Go.Proofs.YteaiidcconggcaaDoor
open Go.RowKit
set_option linter.unusedVariables false
set_option maxRecDepth 100000

theorem not_mem_to {l : List MR} {r : MR} {k : Nat} (hk : k < l.length) (hno : ∀ j (h : j < l.length), j < k → l[j]'h ≠ r) (e : l[k]'hk ≠ r) : ∀ j (h : j < l.length), j < k + 1 → l[j]'h ≠ r := fun j h hj => by
  by_cases hjk : j = k
  · subst hjk; exact e
  · exact hno j h (by omega)
theorem not_mem_all {l : List MR} {r : MR} {k : Nat} (hk : ¬ k < l.length) (hno : ∀ j (h : j < l.length), j < k → l[j]'h ≠ r) : ¬ r ∈ l := fun h => by
  obtain ⟨j, hj, e⟩ := List.getElem_of_mem h
  exact hno j hj (by omega) e
theorem Bx.mr {w : World} {o : Obj} {a b c : Value} {t : TypeId} (ho : o = .cells #[a, b, c] t (0, 0)) : (∀ w1, Bx w o w1 → w1.cell? ⟨w.heap.size, 0, none⟩ = some a) ∧ (∀ w1, Bx w o w1 → w1.cell? ⟨w.heap.size, 1, none⟩ = some b) ∧ (∀ w1, Bx w o w1 → w1.cell? ⟨w.heap.size, 2, none⟩ = some c) := Bx.cells3 ho

set_option maxHeartbeats 3200000 in
theorem mindex_any {w : World} {v : Value} {l : List MR} (h : Row3 w v l) (r : MR) :
    Calls Tryd.prog 67 #[v, mrV r] w fun e w' => ∃ k : Int, e = .returned (.int .i64 k) ∧ (r ∈ l → 0 ≤ k) ∧ (¬ r ∈ l → k = -1) ∧ Below w.heap.size w w' := by
  obtain ⟨a, c, rfl, hc, hm⟩ := h.shape
  unfold maxLen at hm
  have HROW := hide h
  obtain ⟨y1, y2, y3⟩ := r
  unfold mrV
  dsimp only
  obtain ⟨B, hB⟩ : ∃ B : Obj, B = .cells #[.int .i64 y1, .string (S y2), .int .i64 y3] 26 (0, 0) := ⟨_, rfl⟩
  obtain ⟨c0, c1, c2⟩ := Bx.mr (w := w) hB
  have HST := hide (Bx.start w B)
  clear h
  go_enter Tryd.func67, Tryd.ntmps67
  go_wp2_with fail
  rw [← hB]
  clear hB
  go_loopw [8] (fun i wr => ∃ k : Nat, k ≤ l.length ∧ i = .int .i64 (k : Int) ∧ (∀ j (h : j < l.length), j < k → l[j]'h ≠ ⟨y1, y2, y3⟩) ∧ Bx w B wr) (fun i _ => l.length - (intOf i).toNat)
  case atStart => exact ⟨0, Nat.zero_le _, rfl, fun j _ hj => by omega, unhide HST⟩
  case round =>
    obtain ⟨k, hk, rfl, hno, hbx⟩ := hrel
    have hlow := hbx.low
    by_cases hlt : k < l.length
    · obtain ⟨b, off, rfl, hbl, e1, e2, e3⟩ := (unhide HROW).at k hlt
      rw [← hlow.cell (p := ⟨b, off + k * 3, none⟩) hbl] at e1
      rw [← hlow.cell (p := ⟨b, off + k * 3 + 1, none⟩) hbl] at e2
      rw [← hlow.cell (p := ⟨b, off + k * 3 + 2, none⟩) hbl] at e3
      have HIN := hide (List.getElem_mem hlt)
      have HN := hide (fun e => not_mem_to hlt hno e)
      generalize l[k]'hlt = q at *
      obtain ⟨x1, x2, x3⟩ := q
      dsimp only at *
      have hi0 : (0 : Int) ≤ (k : Int) := by omega
      have hi1 : (k : Int) < ((l.length : Nat) : Int) := by omega
      have HBX : ∀ q, Hid (Bx w B (wr.drewN q)) := fun q => Below.trans hbx (drewN_low _ q)
      have d0 := c0 _ hbx
      have d1 := c1 _ hbx
      have d2 := c2 _ hbx
      clear hno hlow c0 c1 c2 hbx
      by_cases hx : x1 = y1
      · have s1 : (y1 == x1) = true := by rw [beq_iff_eq]; exact hx.symm
        by_cases hy : x2 = y2
        · have s2 := S_eq y2 x2
          rw [decide_eq_true hy.symm] at s2
          by_cases hz : x3 = y3
          · have s3 : (y3 == x3) = true := by rw [beq_iff_eq]; exact hz.symm
            have heq : (⟨x1, x2, x3⟩ : MR) = ⟨y1, y2, y3⟩ := by rw [hx, hy, hz]
            have HI2 : Hid ((⟨y1, y2, y3⟩ : MR) ∈ l) := by
              have := unhide HIN
              rw [heq] at this
              exact this
            clear hx hy hz HN HIN heq
            go_wp2_with fail
            go_quiet (fail)
            go_wp2_with fail
            go_ret
            exact ⟨_, rfl, fun _ => by omega, fun h => absurd (unhide HI2) h, (unhide (HBX _)).low⟩
          · have s3 : (y3 == x3) = false := by rw [beq_eq_false_iff_ne]; exact fun e => hz e.symm
            have hne3 : (⟨x1, x2, x3⟩ : MR) ≠ ⟨y1, y2, y3⟩ := by simp [hz]
            have HN2 := hide (unhide HN hne3)
            clear hne3 HN HIN
            go_wp2_with fail
            go_quiet (fail)
            go_wp2_with fail
            go_roundw
            case rel => exact ⟨k + 1, by omega, by go_num, unhide HN2, unhide (HBX _)⟩
            case measure => simp [intOf]; omega
        · have s2 := S_eq y2 x2
          rw [decide_eq_false (fun e => hy e.symm)] at s2
          have hne3 : (⟨x1, x2, x3⟩ : MR) ≠ ⟨y1, y2, y3⟩ := by simp [hy]
          have HN2 := hide (unhide HN hne3)
          clear hne3 HN HIN
          go_wp2_with fail
          go_quiet (fail)
          go_wp2_with fail
          go_roundw
          case rel => exact ⟨k + 1, by omega, by go_num, unhide HN2, unhide (HBX _)⟩
          case measure => simp [intOf]; omega
      · have s1 : (y1 == x1) = false := by rw [beq_eq_false_iff_ne]; exact fun e => hx e.symm
        have hne3 : (⟨x1, x2, x3⟩ : MR) ≠ ⟨y1, y2, y3⟩ := by simp [hx]
        have HN2 := hide (unhide HN hne3)
        clear hne3 HN HIN
        go_wp2_with fail
        go_quiet (fail)
        go_wp2_with fail
        go_roundw
        case rel => exact ⟨k + 1, by omega, by go_num, unhide HN2, unhide (HBX _)⟩
        case measure => simp [intOf]; omega
    · have HNM := hide (not_mem_all hlt hno)
      have HL := hide hlow
      have hkn : k = l.length := by omega
      clear hno hlow hbx
      subst hkn
      go_wp2_with fail
      go_ret
      exact ⟨_, rfl, fun h => absurd h (unhide HNM), fun _ => rfl, unhide HL⟩
theorem mcontains_any {w : World} {v : Value} {l : List MR} (h : Row3 w v l) (r : MR) :
    Calls Tryd.prog 59 #[v, mrV r] w fun e w' => e = .returned (.bool (decide (r ∈ l))) ∧ Below w.heap.size w w' := by
  have HIX := hide (fun (w1 : World) (hb : Below w.heap.size w w1) => mindex_any (h.later hb) r)
  obtain ⟨a, c, rfl, hc, hm⟩ := h.shape
  have HST := hide (under_box (w := w) (.cells #[.int .i64 r.code, .string (S r.text), .int .i64 r.n] 26))
  unfold mrV at *
  by_cases hin : r ∈ l
  · rw [decide_eq_true hin]
    go_enter Tryd.func59, Tryd.ntmps59
    go_wp2_with fail
    refine (unhide HIX _ (unhide HST)).mono ?_
    rintro e w1 ⟨k, rfl, hk, _, hb⟩
    have hk0 := hk hin
    have HL := hide ((unhide HST).trans (hb.mono (by simp)))
    clear hb hk hin h
    go_wp2_with fail
    go_ret
    exact ⟨rfl, unhide HL⟩
  · rw [decide_eq_false hin]
    go_enter Tryd.func59, Tryd.ntmps59
    go_wp2_with fail
    refine (unhide HIX _ (unhide HST)).mono ?_
    rintro e w1 ⟨k, rfl, _, hk, hb⟩
    have hk0 := hk hin
    subst hk0
    have HL := hide ((unhide HST).trans (hb.mono (by simp)))
    clear hb hk hin h
    go_wp2_with fail
    go_ret
    exact ⟨rfl, unhide HL⟩

/- Behind three new boxes: a state's, a call's, an answer's. -/
def B3 (w : World) (A B C : Obj) (w1 : World) : Prop := Below (w.heap.size + 1 + 1 + 1) (((w.alloc A).alloc B).alloc C) w1
section
variable {w w1 w2 : World} {A B C : Obj}
theorem B3.start (w : World) (A B C : Obj) : B3 w A B C (((w.alloc A).alloc B).alloc C) := Below.refl _ _
theorem B3.drew (h : B3 w A B C w1) : B3 w A B C w1.drew := Below.drew h
theorem B3.size (h : B3 w A B C w1) : w.heap.size + 1 + 1 + 1 ≤ w1.heap.size := by
  have hs := Below.size h
  rwa [World.size_alloc, World.size_alloc, World.size_alloc] at hs
theorem B3.below (h : B3 w A B C w1) (hb : Below w1.heap.size w1 w2) : B3 w A B C w2 := Below.trans h (hb.mono h.size)
theorem B3.low (h : B3 w A B C w1) : Below w.heap.size w w1 := ((under_two w A B).alloc (by simp; omega) C).trans (Below.mono h (by omega))
theorem B3.heap (h : B3 w A B C w1) : w1.heap[w.heap.size]? = some A ∧ w1.heap[w.heap.size + 1]? = some B ∧ w1.heap[w.heap.size + 1 + 1]? = some C := by
  refine ⟨?_, ?_, ?_⟩
  · rw [Below.block h _ (by omega), Below.heap_alloc _ _ _ (by simp; omega), Below.heap_alloc _ _ _ (by simp)]; exact heap_alloc_new w _
  · rw [Below.block h _ (by omega), Below.heap_alloc _ _ _ (by simp)]
    have := heap_alloc_new (w.alloc A) B
    rwa [World.size_alloc] at this
  · rw [Below.block h _ (by omega)]
    have := heap_alloc_new ((w.alloc A).alloc B) C
    rwa [World.size_alloc, World.size_alloc] at this
theorem B3.scr {a b c a' b' c' d' x y z : Value} {t t' t'' : TypeId} (hA : A = .cells #[a, b, c] t (0, 0)) (hB : B = .cells #[a', b', c', d'] t' (0, 0)) (hC : C = .cells #[x, y, z] t'' (0, 0)) :
    (∀ w1, B3 w A B C w1 → w1.cell? ⟨w.heap.size, 0, none⟩ = some a) ∧ (∀ w1, B3 w A B C w1 → w1.cell? ⟨w.heap.size, 1, none⟩ = some b) ∧ (∀ w1, B3 w A B C w1 → w1.cell? ⟨w.heap.size, 2, none⟩ = some c) ∧
    (∀ w1, B3 w A B C w1 → w1.cell? ⟨w.heap.size + 1, 0, none⟩ = some a') ∧ (∀ w1, B3 w A B C w1 → w1.cell? ⟨w.heap.size + 1, 1, none⟩ = some b') ∧ (∀ w1, B3 w A B C w1 → w1.cell? ⟨w.heap.size + 1, 2, none⟩ = some c') ∧ (∀ w1, B3 w A B C w1 → w1.cell? ⟨w.heap.size + 1, 3, none⟩ = some d') ∧
    (∀ w1, B3 w A B C w1 → w1.cell? ⟨w.heap.size + 1 + 1, 0, none⟩ = some x) ∧ (∀ w1, B3 w A B C w1 → w1.cell? ⟨w.heap.size + 1 + 1, 1, none⟩ = some y) ∧ (∀ w1, B3 w A B C w1 → w1.cell? ⟨w.heap.size + 1 + 1, 2, none⟩ = some z) := by
  subst hA hB hC
  refine ⟨fun w1 h => ?_, fun w1 h => ?_, fun w1 h => ?_, fun w1 h => ?_, fun w1 h => ?_, fun w1 h => ?_, fun w1 h => ?_, fun w1 h => ?_, fun w1 h => ?_, fun w1 h => ?_⟩ <;> first | (rw [block_cell h.heap.1]; rfl) | (rw [block_cell h.heap.2.1]; rfl) | (rw [block_cell h.heap.2.2]; rfl)
end

set_option maxHeartbeats 6400000 in
theorem alegal_any {w : World} {v : Value} {s : VS} {c : MC} (h : StAt w v s) (hs : s.rows.length ≤ 1000) (hop : okOp c.op) (hw : MD w) (r : MR) :
    Calls Tryd.prog 40 #[v, mcV c, mrV r] w fun e w' => e = .returned (.bool (legal s c r)) ∧ Below w.heap.size w w' := by
  have HAN := hide (fun (w1 : World) (hb : Below w.heap.size w w1) => aanswers_any (c := c) (h.later hb) hs hop (hw.later hb))
  unfold legal
  obtain ⟨R, hR⟩ : ∃ R, decide (r ∈ answers s c) = R := ⟨_, rfl⟩
  have HCO : Hid (∀ (w1 : World) (x : Value) (hx : Row3 w1 x (answers s c)), Calls Tryd.prog 59 #[x, mrV r] w1 fun e w' => e = .returned (.bool R) ∧ Below w1.heap.size w1 w') := fun w1 x hx => by rw [← hR]; exact mcontains_any hx r
  rw [hR]
  clear hR
  generalize answers s c = T at *
  obtain ⟨k0, rfl, hr⟩ := h
  obtain ⟨a, cc, rfl, hc, hm⟩ := hr.shape
  obtain ⟨kd, n, rows⟩ := s
  obtain ⟨op, ca, cb, cn⟩ := c
  obtain ⟨y1, y2, y3⟩ := r
  unfold mcV mrV at *
  dsimp only at *
  obtain ⟨A, hA⟩ : ∃ A : Obj, A = .cells #[.int .i64 kd, .int .i64 n, .slice a rows.length cc] 47 (0, 0) := ⟨_, rfl⟩
  obtain ⟨B, hB⟩ : ∃ B : Obj, B = .cells #[.int .i64 op, .string (S ca), .string (S cb), .int .i64 cn] 24 (0, 0) := ⟨_, rfl⟩
  obtain ⟨C, hC⟩ : ∃ C : Obj, C = .cells #[.int .i64 y1, .string (S y2), .int .i64 y3] 26 (0, 0) := ⟨_, rfl⟩
  obtain ⟨c0, c1, c2, k0, k1, k2, k3, r0, r1, r2⟩ := B3.scr (w := w) hA hB hC
  have hst := B3.start w A B C
  have hstd := hst.drew
  clear hr hw hs hop
  go_enter Tryd.func40, Tryd.ntmps40
  go_wp2_with fail
  rw [← hA, ← hB, ← hC]
  clear hA hB hC
  go_region_held3 (fun w' => B3 w A B C w') (with_reducible (first | exact hstd | exact hst | (refine B3.below ?_ (by assumption) <;> assumption)))
    (first | (go_at_call 60; refine (unhide HAN _ (B3.low (by assumption))).mono ?_; rintro e wa ⟨va, rfl, hrow, hba⟩; obtain ⟨sa, sc, rfl, _, _⟩ := hrow.shape) | (go_at_call 59; refine (unhide HCO _ _ (by first | exact hrow | exact hrow.later (by assumption))).mono ?_; rintro e wb ⟨rfl, hbb⟩) | fail)
  all_goals
    have hx0 : B3 w A B C wb := by assumption
    have HL := hide hx0.low
    clear hbb hst hstd HAN HCO hx0
    go_wp2_with fail
    go_ret
    exact ⟨rfl, unhide HL⟩
set_option maxHeartbeats 6400000 in
theorem rlegal_any {w : World} {v : Value} {s : VS} {c : MC} (h : StAt w v s) (hs : s.rows.length ≤ 1000) (hop : okOp c.op) (r : MR) :
    Calls Tryd.prog 36 #[v, mcV c, mrV r] w fun e w' => e = .returned (.bool (legal s c r)) ∧ Below w.heap.size w w' := by
  have HAN := hide (fun (w1 : World) (hb : Below w.heap.size w w1) => ranswers_any (c := c) (h.later hb) hs hop)
  unfold legal
  generalize answers s c = l at *
  obtain ⟨k0, rfl, hr⟩ := h
  obtain ⟨a, cc, rfl, hc, hm⟩ := hr.shape
  obtain ⟨kd, n, rows⟩ := s
  obtain ⟨op, ca, cb, cn⟩ := c
  obtain ⟨R, hR⟩ : ∃ R, decide (r ∈ l) = R := ⟨_, rfl⟩
  have HR := hide hR
  rw [hR]
  obtain ⟨y1, y2, y3⟩ := r
  unfold mcV mrV at *
  dsimp only at *
  obtain ⟨A, hA⟩ : ∃ A : Obj, A = .cells #[.int .i64 kd, .int .i64 n, .slice a rows.length cc] 38 (0, 0) := ⟨_, rfl⟩
  obtain ⟨B, hB⟩ : ∃ B : Obj, B = .cells #[.int .i64 op, .string (S ca), .string (S cb), .int .i64 cn] 29 (0, 0) := ⟨_, rfl⟩
  obtain ⟨C, hC⟩ : ∃ C : Obj, C = .cells #[.int .i64 y1, .string (S y2), .int .i64 y3] 30 (0, 0) := ⟨_, rfl⟩
  obtain ⟨c0, c1, c2, k0, k1, k2, k3, r0, r1, r2⟩ := B3.scr (w := w) hA hB hC
  have HST := hide (B3.start w A B C)
  clear hr hs hop hR
  go_enter Tryd.func36, Tryd.ntmps36
  go_wp2_with fail
  rw [← hA, ← hB, ← hC]
  have hst := unhide HST
  clear hA hB hC
  refine (unhide HAN _ hst.low).mono ?_
  rintro e wa ⟨va, rfl, hrow, hba⟩
  obtain ⟨sa, sc, rfl, hsc, hsm⟩ := hrow.shape
  unfold maxLen at hsm
  have HXA := hide (hst.below hba)
  have HROW := hide hrow
  clear hst hba hrow HAN HST
  go_wp2_with fail
  go_loopw [13] (fun i wr => ∃ k : Nat, k ≤ l.length ∧ i = .int .i64 (k : Int) ∧ (∀ j (h : j < l.length), j < k → l[j]'h ≠ ⟨y1, y2, y3⟩) ∧ B3 w A B C wr ∧ Below wa.heap.size wa wr) (fun i _ => l.length - (intOf i).toNat)
  case atStart => exact ⟨0, Nat.zero_le _, rfl, fun j _ hj => by omega, unhide HXA, Below.refl _ _⟩
  case round =>
    obtain ⟨k, hk, rfl, hno, hbx, hlow⟩ := hrel
    by_cases hlt : k < l.length
    · obtain ⟨b, off, rfl, hbl, e1, e2, e3⟩ := (unhide HROW).at k hlt
      rw [← hlow.cell (p := ⟨b, off + k * 3, none⟩) hbl] at e1
      rw [← hlow.cell (p := ⟨b, off + k * 3 + 1, none⟩) hbl] at e2
      rw [← hlow.cell (p := ⟨b, off + k * 3 + 2, none⟩) hbl] at e3
      have HIN := hide (List.getElem_mem hlt)
      have HN := hide (fun e => not_mem_to hlt hno e)
      generalize l[k]'hlt = q at *
      obtain ⟨x1, x2, x3⟩ := q
      dsimp only at *
      have hi0 : (0 : Int) ≤ (k : Int) := by omega
      have hi1 : (k : Int) < ((l.length : Nat) : Int) := by omega
      have hne : wr.heap.size ≠ b := by have := hlow.size; omega
      have d0 := fun o => r0 _ (hbx.below (under_box o))
      have d1 := fun o => r1 _ (hbx.below (under_box o))
      have d2 := fun o => r2 _ (hbx.below (under_box o))
      have HBX := hide (fun o => hbx.below (under_box o))
      have HLW := hide (fun (o : Obj) => hlow.alloc hlow.size o)
      clear hno hlow hbx c0 c1 c2 k0 k1 k2 k3 r0 r1 r2
      by_cases hx : x1 = y1
      · have s1 : (x1 == y1) = true := by rw [beq_iff_eq]; exact hx
        by_cases hy : x2 = y2
        · have s2 := S_eq x2 y2
          rw [decide_eq_true hy] at s2
          by_cases hz : x3 = y3
          · have s3 : (x3 == y3) = true := by rw [beq_iff_eq]; exact hz
            have heq : (⟨x1, x2, x3⟩ : MR) = ⟨y1, y2, y3⟩ := by rw [hx, hy, hz]
            have HI2 : Hid ((⟨y1, y2, y3⟩ : MR) ∈ l) := by
              have := unhide HIN
              rw [heq] at this
              exact this
            have hRt : R = true := by rw [← unhide HR]; exact decide_eq_true (unhide HI2)
            subst hRt
            clear hx hy hz HN HIN heq
            go_wp2_with fail
            go_ret
            exact ⟨rfl, ((unhide HBX) _).low⟩
          · have s3 : (x3 == y3) = false := by rw [beq_eq_false_iff_ne]; exact hz
            have hne3 : (⟨x1, x2, x3⟩ : MR) ≠ ⟨y1, y2, y3⟩ := by simp [hz]
            have HN2 := hide (unhide HN hne3)
            clear hne3 HN HIN
            go_wp2_with fail
            go_roundw
            case rel => exact ⟨k + 1, by omega, by go_num, unhide HN2, (unhide HBX) _, unhide HLW _⟩
            case measure => simp [intOf]; omega
        · have s2 := S_eq x2 y2
          rw [decide_eq_false hy] at s2
          have hne3 : (⟨x1, x2, x3⟩ : MR) ≠ ⟨y1, y2, y3⟩ := by simp [hy]
          have HN2 := hide (unhide HN hne3)
          clear hne3 HN HIN
          go_wp2_with fail
          go_roundw
          case rel => exact ⟨k + 1, by omega, by go_num, unhide HN2, (unhide HBX) _, unhide HLW _⟩
          case measure => simp [intOf]; omega
      · have s1 : (x1 == y1) = false := by rw [beq_eq_false_iff_ne]; exact hx
        have hne3 : (⟨x1, x2, x3⟩ : MR) ≠ ⟨y1, y2, y3⟩ := by simp [hx]
        have HN2 := hide (unhide HN hne3)
        clear hne3 HN HIN
        go_wp2_with fail
        go_roundw
        case rel => exact ⟨k + 1, by omega, by go_num, unhide HN2, (unhide HBX) _, unhide HLW _⟩
        case measure => simp [intOf]; omega
    · have hRf : R = false := by rw [← unhide HR]; exact decide_eq_false (not_mem_all hlt hno)
      subst hRf
      have HL := hide hbx.low
      have hkn : k = l.length := by omega
      clear hno hlow hbx
      subst hkn
      go_wp2_with fail
      go_ret
      exact ⟨rfl, unhide HL⟩
end Go.Proofs.YteaiidcconggcaaDoor
/- The contracts of Apply, the program's (of a call of the state's type) and the document's. -/
namespace Go.Proofs.YteaiidcconggcaaDoor
open Go.RowKit
set_option linter.unusedVariables false
set_option maxRecDepth 100000

/- Behind four new boxes: a state's, a call's, an answer's, a result's. -/
def B4 (w : World) (A B C D : Obj) (w1 : World) : Prop := Below (w.heap.size + 1 + 1 + 1 + 1) ((((w.alloc A).alloc B).alloc C).alloc D) w1
section
variable {w w1 w2 : World} {A B C D : Obj}
theorem B4.start (w : World) (A B C D : Obj) : B4 w A B C D ((((w.alloc A).alloc B).alloc C).alloc D) := Below.refl _ _
theorem B4.drew (h : B4 w A B C D w1) : B4 w A B C D w1.drew := Below.drew h
theorem B4.size (h : B4 w A B C D w1) : w.heap.size + 1 + 1 + 1 + 1 ≤ w1.heap.size := by
  have hs := Below.size h
  rwa [World.size_alloc, World.size_alloc, World.size_alloc, World.size_alloc] at hs
theorem B4.below (h : B4 w A B C D w1) (hb : Below w1.heap.size w1 w2) : B4 w A B C D w2 := Below.trans h (hb.mono h.size)
theorem B4.low (h : B4 w A B C D w1) : Below w.heap.size w w1 := (((under_two w A B).alloc (by simp; omega) C).alloc (by simp; omega) D).trans (Below.mono h (by omega))
theorem B4.b3 (h : B4 w A B C D w1) : B3 w A B C w1 := ((Below.refl _ _).alloc (by simp) D).trans (Below.mono h (by omega))
theorem B4.last (h : B4 w A B C D w1) : w1.heap[w.heap.size + 1 + 1 + 1]? = some D := by
  rw [Below.block h _ (by omega)]
  have := heap_alloc_new (((w.alloc A).alloc B).alloc C) D
  rwa [World.size_alloc, World.size_alloc, World.size_alloc] at this
theorem B4.scr {a b c a' b' c' d' x y z : Value} {t t' t'' : TypeId} (hA : A = .cells #[a, b, c] t (0, 0)) (hB : B = .cells #[a', b', c', d'] t' (0, 0)) (hC : C = .cells #[x, y, z] t'' (0, 0)) :
    (∀ w1, B4 w A B C D w1 → w1.cell? ⟨w.heap.size, 0, none⟩ = some a) ∧ (∀ w1, B4 w A B C D w1 → w1.cell? ⟨w.heap.size, 1, none⟩ = some b) ∧ (∀ w1, B4 w A B C D w1 → w1.cell? ⟨w.heap.size, 2, none⟩ = some c) ∧
    (∀ w1, B4 w A B C D w1 → w1.cell? ⟨w.heap.size + 1, 0, none⟩ = some a') ∧ (∀ w1, B4 w A B C D w1 → w1.cell? ⟨w.heap.size + 1, 1, none⟩ = some b') ∧ (∀ w1, B4 w A B C D w1 → w1.cell? ⟨w.heap.size + 1, 2, none⟩ = some c') ∧ (∀ w1, B4 w A B C D w1 → w1.cell? ⟨w.heap.size + 1, 3, none⟩ = some d') ∧
    (∀ w1, B4 w A B C D w1 → w1.cell? ⟨w.heap.size + 1 + 1, 0, none⟩ = some x) ∧ (∀ w1, B4 w A B C D w1 → w1.cell? ⟨w.heap.size + 1 + 1, 1, none⟩ = some y) ∧ (∀ w1, B4 w A B C D w1 → w1.cell? ⟨w.heap.size + 1 + 1, 2, none⟩ = some z) := by
  obtain ⟨c0, c1, c2, c3, c4, c5, c6, c7, c8, c9⟩ := B3.scr (w := w) hA hB hC
  exact ⟨fun w1 h => c0 w1 h.b3, fun w1 h => c1 w1 h.b3, fun w1 h => c2 w1 h.b3, fun w1 h => c3 w1 h.b3, fun w1 h => c4 w1 h.b3, fun w1 h => c5 w1 h.b3, fun w1 h => c6 w1 h.b3, fun w1 h => c7 w1 h.b3, fun w1 h => c8 w1 h.b3, fun w1 h => c9 w1 h.b3⟩
/- The result's box is written. -/
theorem B4.give {a b c : Value} {t : TypeId} (h : B4 w A B C (.cells #[a, b, c] t (0, 0)) w1) (x y z : Value) :
    (put3 w1 (w.heap.size + 1 + 1 + 1) x y z).cell? ⟨w.heap.size + 1 + 1 + 1, 0, none⟩ = some x ∧ (put3 w1 (w.heap.size + 1 + 1 + 1) x y z).cell? ⟨w.heap.size + 1 + 1 + 1, 1, none⟩ = some y ∧ (put3 w1 (w.heap.size + 1 + 1 + 1) x y z).cell? ⟨w.heap.size + 1 + 1 + 1, 2, none⟩ = some z ∧ Below w.heap.size w (put3 w1 (w.heap.size + 1 + 1 + 1) x y z) ∧
    (∀ (base k : Nat) (u : Value) (nn : Nat) (xs : List Value) (e : TypeId), w.heap.size + 1 + 1 + 1 < base → w1.ownsRow base e k u nn xs → (put3 w1 (w.heap.size + 1 + 1 + 1) x y z).ownsRow w.heap.size e k u nn xs) ∧
    w1.cell? ⟨w.heap.size + 1 + 1 + 1, 0, none⟩ = some a ∧ w1.cell? ⟨w.heap.size + 1 + 1 + 1, 1, none⟩ = some b ∧ w1.cell? ⟨w.heap.size + 1 + 1 + 1, 2, none⟩ = some c ∧ ∀ j, w1.frozen? ⟨w.heap.size + 1 + 1 + 1, j, none⟩ = false := give3 h.low (by omega) h.last x y z
end
theorem apply_op {put : VS → List UInt8 × List UInt8 → VS} {s : VS} {c : MC} {r : MR} (hk : (mfact c.op).kind = s.kind) (hch : mchanges c.op c.n r.code = true) : applyBy put s c r =
    if c.op = 2 then (if c.a = [] then ⟨s.kind, s.n, []⟩ else put ⟨s.kind, s.n, []⟩ (c.a, []))
    else if c.op = 3 ∨ c.op = 5 then ⟨s.kind, wrap64 (s.n + c.n), s.rows⟩
    else if c.op = 6 then ⟨s.kind, wrap64 (s.n - c.n), s.rows⟩
    else if c.op = 8 ∨ c.op = 11 ∨ c.op = 14 ∨ c.op = 16 then put s (c.a, c.b)
    else if c.op = 9 ∨ c.op = 12 then s.gone c.a
    else s.gone r.text := by
  unfold applyBy
  rw [if_neg (by rw [hk, hch]; simp)]
theorem apply_not {put : VS → List UInt8 × List UInt8 → VS} {s : VS} {c : MC} {r : MR} (hch : mchanges c.op c.n r.code = false) : applyBy put s c r = s := by
  unfold applyBy
  rw [if_pos (Or.inr hch)]
theorem neg_wrap (x m : Int) : wrap64 (x + IntKind.i64.wrap (-m)) = wrap64 (x - m) := by
  rw [IntKind.wrap_i64]
  unfold wrap64
  omega
theorem no_change {op n code : Int} (h : okOp op) (hch : mchanges op n code = true) : op = 2 ∨ op = 3 ∨ op = 5 ∨ op = 6 ∨ op = 8 ∨ op = 9 ∨ op = 11 ∨ op = 12 ∨ op = 14 ∨ op = 15 ∨ op = 16 ∨ op = 17 := by
  rcases op_cases h with rfl | rfl | rfl | rfl | rfl | rfl | rfl | rfl | rfl | rfl | rfl | rfl | rfl | rfl | rfl | rfl | rfl <;> first | omega | (simp [mchanges] at hch)

set_option maxHeartbeats 51200000 in
theorem aapply_eq {base : Nat} {w : World} {v : Value} {s : VS} {c : MC} (h : StOwn base 82 w v s) (hs : s.rows.length ≤ 1000) (hop : okOp c.op) (hw : MD w) (r : MR) (hk : (mfact c.op).kind = s.kind) :
    Calls Tryd.prog 41 #[v, mcV c, mrV r] w fun e w' => ∃ v', e = .returned v' ∧ StOwn w.heap.size 82 w' v' (apply1 s c r) ∧ Below w.heap.size w w' := by
  have HKI := hide (fun (w1 : World) (hb : Below w.heap.size w w1) => mkind_any (hw.later hb) c.op)
  have HCH := hide (fun (w1 : World) => mchanges_any (w := w1) c r)
  have HCL := hide (fun (w1 : World) (hb : Below w.heap.size w w1) => vclone_any (h.later hb) hs)
  have HWR := hide (fun (w1 : World) (hb : Below w.heap.size w w1) (t : List UInt8) => awritten_any (h.later hb) t)
  have HPL := hide (fun (w1 : World) (hb : Below w.heap.size w w1) (m : Int) => aplus_any (h.later hb) hs m)
  have HWI := hide (fun (w1 : World) (hb : Below w.heap.size w w1) (x : List UInt8 × List UInt8) => with_any (h.at.later hb) hs x)
  have HGO := hide (fun (w1 : World) (hb : Below w.heap.size w w1) (t : List UInt8) => awithout_any (h.later hb) hs t)
  have HOPE := hide (fun (hch : mchanges c.op c.n r.code = true) => apply_op (put := VS.with) hk hch)
  have HNOT := hide (fun (hch : mchanges c.op c.n r.code = false) => apply_not (put := VS.with) (s := s) hch)
  unfold apply1
  rw [hk] at HKI
  obtain ⟨op, ca, cb, cn⟩ := c
  obtain ⟨y1, y2, y3⟩ := r
  unfold mcV mrV at *
  dsimp only at *
  have e0 : (s.kind != s.kind) = false := by simp
  obtain ⟨X, hX⟩ : ∃ X, mchanges op cn y1 = X := ⟨_, rfl⟩
  have HX := hide hX
  rw [hX] at HCH HOPE HNOT
  clear hX
  cases X
  · rw [unhide HNOT rfl]
    clear HNOT HOPE HWR HPL HWI HGO hk HX
    obtain ⟨k0, rfl, hr⟩ := h
    obtain ⟨a, cc, rfl, _⟩ := ownsRow_slice hr
    obtain ⟨kd, n, rows⟩ := s
    dsimp only at *
    obtain ⟨A, hA⟩ : ∃ A : Obj, A = .cells #[.int .i64 kd, .int .i64 n, .slice a rows.length cc] 47 (0, 0) := ⟨_, rfl⟩
    obtain ⟨B, hB⟩ : ∃ B : Obj, B = .cells #[.int .i64 op, .string (S ca), .string (S cb), .int .i64 cn] 24 (0, 0) := ⟨_, rfl⟩
    obtain ⟨C, hC⟩ : ∃ C : Obj, C = .cells #[.int .i64 y1, .string (S y2), .int .i64 y3] 26 (0, 0) := ⟨_, rfl⟩
    obtain ⟨c0, c1, c2, k0, k1, k2, k3, r0, r1, r2⟩ := B4.scr (w := w) (D := .cells #[.int .i64 0, .int .i64 0, .slice none 0 0] 47 (0, 0)) hA hB hC
    have hst := B4.start w A B C (.cells #[.int .i64 0, .int .i64 0, .slice none 0 0] 47 (0, 0))
    have hstd := hst.drew
    clear hr hw hs hop
    go_enter Tryd.func41, Tryd.ntmps41
    go_wp2_with fail
    rw [← hA, ← hB, ← hC]
    clear hA hB hC
    go_region_held3 (fun w' => B4 w A B C (.cells #[.int .i64 0, .int .i64 0, .slice none 0 0] 47 (0, 0)) w') (with_reducible (first | exact hstd | exact hst | (refine B4.below ?_ (by assumption) <;> assumption)))
      (first | (go_at_call 28; refine (unhide HKI _ (B4.low (by assumption))).mono ?_; rintro e wm ⟨rfl, hbm⟩) | (go_at_call 47; refine (unhide HCH _).mono ?_; rintro e wn ⟨rfl, hbn⟩) | fail)
    have hx0 : B4 w A B C (.cells #[.int .i64 0, .int .i64 0, .slice none 0 0] 47 (0, 0)) wn := by assumption
    clear hbm hbn hst hstd HKI HCH
    go_wp2_with fail
    refine (unhide HCL _ hx0.low).mono ?_
    rintro e w2 ⟨v2, rfl, ⟨k2, rfl, ho⟩, hb⟩
    obtain ⟨ka, kc, rfl, _⟩ := ownsRow_slice ho
    have hx2 := hx0.below hb
    obtain ⟨z0, z1, z2, zl, zo, y0, y1, y2, f1⟩ := hx2.give (.int .i64 kd) (.int .i64 n) (.slice ka rows.length kc)
    have ZO := hide (zo _ _ _ _ _ _ (by have := hx0.size; omega) ho)
    unfold put3 at z0 z1 z2 zl ZO
    have ZL := hide zl
    clear hx2 hb ho zo zl hx0
    go_wp2_with fail
    exact bodyPost_ret (v := .agg #[.int .i64 kd, .int .i64 n, .slice ka rows.length kc]) (by simp [results, Tryd.results41, go_sem, z0, z1, z2]) rfl ⟨_, rfl, ⟨_, rfl, unhide ZO⟩, unhide ZL⟩
  · rw [unhide HOPE rfl]
    clear HNOT HOPE HCL
    rcases no_change hop (unhide HX) with rfl | rfl | rfl | rfl | rfl | rfl | rfl | rfl | rfl | rfl | rfl | rfl
    · have HC2 := hide (fun (w1 : World) (hb : Below w.heap.size w w1) => unhide HWR w1 hb ca)
      rw [if_pos rfl]
      generalize (if ca = [] then (⟨s.kind, s.n, []⟩ : VS) else VS.with ⟨s.kind, s.n, []⟩ (ca, [])) = y at *
      clear HWR HPL HWI HGO hk HX
      obtain ⟨k0, rfl, hr⟩ := h
      obtain ⟨a, cc, rfl, _⟩ := ownsRow_slice hr
      obtain ⟨kd, n, rows⟩ := s
      dsimp only at *
      obtain ⟨A, hA⟩ : ∃ A : Obj, A = .cells #[.int .i64 kd, .int .i64 n, .slice a rows.length cc] 47 (0, 0) := ⟨_, rfl⟩
      obtain ⟨B, hB⟩ : ∃ B : Obj, B = .cells #[.int .i64 2, .string (S ca), .string (S cb), .int .i64 cn] 24 (0, 0) := ⟨_, rfl⟩
      obtain ⟨C, hC⟩ : ∃ C : Obj, C = .cells #[.int .i64 y1, .string (S y2), .int .i64 y3] 26 (0, 0) := ⟨_, rfl⟩
      obtain ⟨c0, c1, c2, k0, k1, k2, k3, r0, r1, r2⟩ := B4.scr (w := w) (D := .cells #[.int .i64 0, .int .i64 0, .slice none 0 0] 47 (0, 0)) hA hB hC
      have hst := B4.start w A B C (.cells #[.int .i64 0, .int .i64 0, .slice none 0 0] 47 (0, 0))
      have hstd := hst.drew
      clear hr hw hs hop
      go_enter Tryd.func41, Tryd.ntmps41
      go_wp2_with fail
      rw [← hA, ← hB, ← hC]
      clear hA hB hC
      go_region_held3 (fun w' => B4 w A B C (.cells #[.int .i64 0, .int .i64 0, .slice none 0 0] 47 (0, 0)) w') (with_reducible (first | exact hstd | exact hst | (refine B4.below ?_ (by assumption) <;> assumption)))
        (first | (go_at_call 28; refine (unhide HKI _ (B4.low (by assumption))).mono ?_; rintro e wm ⟨rfl, hbm⟩) | (go_at_call 47; refine (unhide HCH _).mono ?_; rintro e wn ⟨rfl, hbn⟩) | fail)
      have hx0 : B4 w A B C (.cells #[.int .i64 0, .int .i64 0, .slice none 0 0] 47 (0, 0)) wn := by assumption
      clear hbm hbn hst hstd HKI HCH
      go_wp2_with fail
      refine (unhide HC2 _ hx0.low).mono ?_
      rintro e w2 ⟨v2, rfl, ⟨k2, rfl, ho⟩, hb⟩
      obtain ⟨ka, kc, rfl, _⟩ := ownsRow_slice ho
      have hx2 := hx0.below hb
      obtain ⟨z0, z1, z2, zl, zo, y0, y1, y2, f1⟩ := hx2.give (.int .i64 y.kind) (.int .i64 y.n) (.slice ka y.rows.length kc)
      have ZO := hide (zo _ _ _ _ _ _ (by have := hx0.size; omega) ho)
      unfold put3 at z0 z1 z2 zl ZO
      have ZL := hide zl
      clear hx2 hb ho zo zl hx0
      go_wp2_with fail
      exact bodyPost_ret (v := .agg #[.int .i64 y.kind, .int .i64 y.n, .slice ka y.rows.length kc]) (by simp [results, Tryd.results41, go_sem, z0, z1, z2]) rfl ⟨_, rfl, ⟨_, rfl, unhide ZO⟩, unhide ZL⟩
    · have HC2 := hide (fun (w1 : World) (hb : Below w.heap.size w w1) => unhide HPL w1 hb cn)
      rw [if_neg (by decide), if_pos (by decide)]
      generalize (⟨s.kind, wrap64 (s.n + cn), s.rows⟩ : VS) = y at *
      clear HWR HPL HWI HGO hk HX
      obtain ⟨k0, rfl, hr⟩ := h
      obtain ⟨a, cc, rfl, _⟩ := ownsRow_slice hr
      obtain ⟨kd, n, rows⟩ := s
      dsimp only at *
      obtain ⟨A, hA⟩ : ∃ A : Obj, A = .cells #[.int .i64 kd, .int .i64 n, .slice a rows.length cc] 47 (0, 0) := ⟨_, rfl⟩
      obtain ⟨B, hB⟩ : ∃ B : Obj, B = .cells #[.int .i64 3, .string (S ca), .string (S cb), .int .i64 cn] 24 (0, 0) := ⟨_, rfl⟩
      obtain ⟨C, hC⟩ : ∃ C : Obj, C = .cells #[.int .i64 y1, .string (S y2), .int .i64 y3] 26 (0, 0) := ⟨_, rfl⟩
      obtain ⟨c0, c1, c2, k0, k1, k2, k3, r0, r1, r2⟩ := B4.scr (w := w) (D := .cells #[.int .i64 0, .int .i64 0, .slice none 0 0] 47 (0, 0)) hA hB hC
      have hst := B4.start w A B C (.cells #[.int .i64 0, .int .i64 0, .slice none 0 0] 47 (0, 0))
      have hstd := hst.drew
      clear hr hw hs hop
      go_enter Tryd.func41, Tryd.ntmps41
      go_wp2_with fail
      rw [← hA, ← hB, ← hC]
      clear hA hB hC
      go_region_held3 (fun w' => B4 w A B C (.cells #[.int .i64 0, .int .i64 0, .slice none 0 0] 47 (0, 0)) w') (with_reducible (first | exact hstd | exact hst | (refine B4.below ?_ (by assumption) <;> assumption)))
        (first | (go_at_call 28; refine (unhide HKI _ (B4.low (by assumption))).mono ?_; rintro e wm ⟨rfl, hbm⟩) | (go_at_call 47; refine (unhide HCH _).mono ?_; rintro e wn ⟨rfl, hbn⟩) | fail)
      have hx0 : B4 w A B C (.cells #[.int .i64 0, .int .i64 0, .slice none 0 0] 47 (0, 0)) wn := by assumption
      clear hbm hbn hst hstd HKI HCH
      go_wp2_with fail
      refine (unhide HC2 _ hx0.low).mono ?_
      rintro e w2 ⟨v2, rfl, ⟨k2, rfl, ho⟩, hb⟩
      obtain ⟨ka, kc, rfl, _⟩ := ownsRow_slice ho
      have hx2 := hx0.below hb
      obtain ⟨z0, z1, z2, zl, zo, y0, y1, y2, f1⟩ := hx2.give (.int .i64 y.kind) (.int .i64 y.n) (.slice ka y.rows.length kc)
      have ZO := hide (zo _ _ _ _ _ _ (by have := hx0.size; omega) ho)
      unfold put3 at z0 z1 z2 zl ZO
      have ZL := hide zl
      clear hx2 hb ho zo zl hx0
      go_wp2_with fail
      exact bodyPost_ret (v := .agg #[.int .i64 y.kind, .int .i64 y.n, .slice ka y.rows.length kc]) (by simp [results, Tryd.results41, go_sem, z0, z1, z2]) rfl ⟨_, rfl, ⟨_, rfl, unhide ZO⟩, unhide ZL⟩
    · have HC2 := hide (fun (w1 : World) (hb : Below w.heap.size w w1) => unhide HPL w1 hb cn)
      rw [if_neg (by decide), if_pos (by decide)]
      generalize (⟨s.kind, wrap64 (s.n + cn), s.rows⟩ : VS) = y at *
      clear HWR HPL HWI HGO hk HX
      obtain ⟨k0, rfl, hr⟩ := h
      obtain ⟨a, cc, rfl, _⟩ := ownsRow_slice hr
      obtain ⟨kd, n, rows⟩ := s
      dsimp only at *
      obtain ⟨A, hA⟩ : ∃ A : Obj, A = .cells #[.int .i64 kd, .int .i64 n, .slice a rows.length cc] 47 (0, 0) := ⟨_, rfl⟩
      obtain ⟨B, hB⟩ : ∃ B : Obj, B = .cells #[.int .i64 5, .string (S ca), .string (S cb), .int .i64 cn] 24 (0, 0) := ⟨_, rfl⟩
      obtain ⟨C, hC⟩ : ∃ C : Obj, C = .cells #[.int .i64 y1, .string (S y2), .int .i64 y3] 26 (0, 0) := ⟨_, rfl⟩
      obtain ⟨c0, c1, c2, k0, k1, k2, k3, r0, r1, r2⟩ := B4.scr (w := w) (D := .cells #[.int .i64 0, .int .i64 0, .slice none 0 0] 47 (0, 0)) hA hB hC
      have hst := B4.start w A B C (.cells #[.int .i64 0, .int .i64 0, .slice none 0 0] 47 (0, 0))
      have hstd := hst.drew
      clear hr hw hs hop
      go_enter Tryd.func41, Tryd.ntmps41
      go_wp2_with fail
      rw [← hA, ← hB, ← hC]
      clear hA hB hC
      go_region_held3 (fun w' => B4 w A B C (.cells #[.int .i64 0, .int .i64 0, .slice none 0 0] 47 (0, 0)) w') (with_reducible (first | exact hstd | exact hst | (refine B4.below ?_ (by assumption) <;> assumption)))
        (first | (go_at_call 28; refine (unhide HKI _ (B4.low (by assumption))).mono ?_; rintro e wm ⟨rfl, hbm⟩) | (go_at_call 47; refine (unhide HCH _).mono ?_; rintro e wn ⟨rfl, hbn⟩) | fail)
      have hx0 : B4 w A B C (.cells #[.int .i64 0, .int .i64 0, .slice none 0 0] 47 (0, 0)) wn := by assumption
      clear hbm hbn hst hstd HKI HCH
      go_wp2_with fail
      refine (unhide HC2 _ hx0.low).mono ?_
      rintro e w2 ⟨v2, rfl, ⟨k2, rfl, ho⟩, hb⟩
      obtain ⟨ka, kc, rfl, _⟩ := ownsRow_slice ho
      have hx2 := hx0.below hb
      obtain ⟨z0, z1, z2, zl, zo, y0, y1, y2, f1⟩ := hx2.give (.int .i64 y.kind) (.int .i64 y.n) (.slice ka y.rows.length kc)
      have ZO := hide (zo _ _ _ _ _ _ (by have := hx0.size; omega) ho)
      unfold put3 at z0 z1 z2 zl ZO
      have ZL := hide zl
      clear hx2 hb ho zo zl hx0
      go_wp2_with fail
      exact bodyPost_ret (v := .agg #[.int .i64 y.kind, .int .i64 y.n, .slice ka y.rows.length kc]) (by simp [results, Tryd.results41, go_sem, z0, z1, z2]) rfl ⟨_, rfl, ⟨_, rfl, unhide ZO⟩, unhide ZL⟩
    · obtain ⟨m, hm⟩ : ∃ m, IntKind.i64.wrap (-cn) = m := ⟨_, rfl⟩
      have HC2 := hide (fun (w1 : World) (hb : Below w.heap.size w w1) => unhide HPL w1 hb m)
      rw [if_neg (by decide), if_neg (by decide), if_pos rfl, ← neg_wrap, hm]
      generalize (⟨s.kind, wrap64 (s.n + m), s.rows⟩ : VS) = y at *
      clear HWR HPL HWI HGO hk HX
      obtain ⟨k0, rfl, hr⟩ := h
      obtain ⟨a, cc, rfl, _⟩ := ownsRow_slice hr
      obtain ⟨kd, n, rows⟩ := s
      dsimp only at *
      obtain ⟨A, hA⟩ : ∃ A : Obj, A = .cells #[.int .i64 kd, .int .i64 n, .slice a rows.length cc] 47 (0, 0) := ⟨_, rfl⟩
      obtain ⟨B, hB⟩ : ∃ B : Obj, B = .cells #[.int .i64 6, .string (S ca), .string (S cb), .int .i64 cn] 24 (0, 0) := ⟨_, rfl⟩
      obtain ⟨C, hC⟩ : ∃ C : Obj, C = .cells #[.int .i64 y1, .string (S y2), .int .i64 y3] 26 (0, 0) := ⟨_, rfl⟩
      obtain ⟨c0, c1, c2, k0, k1, k2, k3, r0, r1, r2⟩ := B4.scr (w := w) (D := .cells #[.int .i64 0, .int .i64 0, .slice none 0 0] 47 (0, 0)) hA hB hC
      have hst := B4.start w A B C (.cells #[.int .i64 0, .int .i64 0, .slice none 0 0] 47 (0, 0))
      have hstd := hst.drew
      clear hr hw hs hop
      go_enter Tryd.func41, Tryd.ntmps41
      go_wp2_with fail
      rw [← hA, ← hB, ← hC]
      clear hA hB hC
      go_region_held3 (fun w' => B4 w A B C (.cells #[.int .i64 0, .int .i64 0, .slice none 0 0] 47 (0, 0)) w') (with_reducible (first | exact hstd | exact hst | (refine B4.below ?_ (by assumption) <;> assumption)))
        (first | (go_at_call 28; refine (unhide HKI _ (B4.low (by assumption))).mono ?_; rintro e wm ⟨rfl, hbm⟩) | (go_at_call 47; refine (unhide HCH _).mono ?_; rintro e wn ⟨rfl, hbn⟩) | fail)
      have hx0 : B4 w A B C (.cells #[.int .i64 0, .int .i64 0, .slice none 0 0] 47 (0, 0)) wn := by assumption
      clear hbm hbn hst hstd HKI HCH
      go_wp2_with fail
      refine (unhide HC2 _ hx0.low).mono ?_
      rintro e w2 ⟨v2, rfl, ⟨k2, rfl, ho⟩, hb⟩
      obtain ⟨ka, kc, rfl, _⟩ := ownsRow_slice ho
      have hx2 := hx0.below hb
      obtain ⟨z0, z1, z2, zl, zo, y0, y1, y2, f1⟩ := hx2.give (.int .i64 y.kind) (.int .i64 y.n) (.slice ka y.rows.length kc)
      have ZO := hide (zo _ _ _ _ _ _ (by have := hx0.size; omega) ho)
      unfold put3 at z0 z1 z2 zl ZO
      have ZL := hide zl
      clear hx2 hb ho zo zl hx0
      go_wp2_with fail
      exact bodyPost_ret (v := .agg #[.int .i64 y.kind, .int .i64 y.n, .slice ka y.rows.length kc]) (by simp [results, Tryd.results41, go_sem, z0, z1, z2]) rfl ⟨_, rfl, ⟨_, rfl, unhide ZO⟩, unhide ZL⟩
    · have HC2 := hide (fun (w1 : World) (hb : Below w.heap.size w w1) => unhide HWI w1 hb (ca, cb))
      rw [if_neg (by decide), if_neg (by decide), if_neg (by decide), if_pos (by decide)]
      generalize s.with (ca, cb) = y at *
      clear HWR HPL HWI HGO hk HX
      obtain ⟨k0, rfl, hr⟩ := h
      obtain ⟨a, cc, rfl, _⟩ := ownsRow_slice hr
      obtain ⟨kd, n, rows⟩ := s
      dsimp only at *
      obtain ⟨A, hA⟩ : ∃ A : Obj, A = .cells #[.int .i64 kd, .int .i64 n, .slice a rows.length cc] 47 (0, 0) := ⟨_, rfl⟩
      obtain ⟨B, hB⟩ : ∃ B : Obj, B = .cells #[.int .i64 8, .string (S ca), .string (S cb), .int .i64 cn] 24 (0, 0) := ⟨_, rfl⟩
      obtain ⟨C, hC⟩ : ∃ C : Obj, C = .cells #[.int .i64 y1, .string (S y2), .int .i64 y3] 26 (0, 0) := ⟨_, rfl⟩
      obtain ⟨c0, c1, c2, k0, k1, k2, k3, r0, r1, r2⟩ := B4.scr (w := w) (D := .cells #[.int .i64 0, .int .i64 0, .slice none 0 0] 47 (0, 0)) hA hB hC
      have hst := B4.start w A B C (.cells #[.int .i64 0, .int .i64 0, .slice none 0 0] 47 (0, 0))
      have hstd := hst.drew
      clear hr hw hs hop
      go_enter Tryd.func41, Tryd.ntmps41
      go_wp2_with fail
      rw [← hA, ← hB, ← hC]
      clear hA hB hC
      go_region_held3 (fun w' => B4 w A B C (.cells #[.int .i64 0, .int .i64 0, .slice none 0 0] 47 (0, 0)) w') (with_reducible (first | exact hstd | exact hst | (refine B4.below ?_ (by assumption) <;> assumption)))
        (first | (go_at_call 28; refine (unhide HKI _ (B4.low (by assumption))).mono ?_; rintro e wm ⟨rfl, hbm⟩) | (go_at_call 47; refine (unhide HCH _).mono ?_; rintro e wn ⟨rfl, hbn⟩) | fail)
      have hx0 : B4 w A B C (.cells #[.int .i64 0, .int .i64 0, .slice none 0 0] 47 (0, 0)) wn := by assumption
      clear hbm hbn hst hstd HKI HCH
      go_wp2_with fail
      refine (unhide HC2 _ hx0.low).mono ?_
      rintro e w2 ⟨v2, rfl, ⟨k2, rfl, ho⟩, hb⟩
      obtain ⟨ka, kc, rfl, _⟩ := ownsRow_slice ho
      have hx2 := hx0.below hb
      obtain ⟨z0, z1, z2, zl, zo, y0, y1, y2, f1⟩ := hx2.give (.int .i64 y.kind) (.int .i64 y.n) (.slice ka y.rows.length kc)
      have ZO := hide (zo _ _ _ _ _ _ (by have := hx0.size; omega) ho)
      unfold put3 at z0 z1 z2 zl ZO
      have ZL := hide zl
      clear hx2 hb ho zo zl hx0
      go_wp2_with fail
      exact bodyPost_ret (v := .agg #[.int .i64 y.kind, .int .i64 y.n, .slice ka y.rows.length kc]) (by simp [results, Tryd.results41, go_sem, z0, z1, z2]) rfl ⟨_, rfl, ⟨_, rfl, unhide ZO⟩, unhide ZL⟩
    · have HC2 := hide (fun (w1 : World) (hb : Below w.heap.size w w1) => unhide HGO w1 hb ca)
      rw [if_neg (by decide), if_neg (by decide), if_neg (by decide), if_neg (by decide), if_pos (by decide)]
      generalize s.gone ca = y at *
      clear HWR HPL HWI HGO hk HX
      obtain ⟨k0, rfl, hr⟩ := h
      obtain ⟨a, cc, rfl, _⟩ := ownsRow_slice hr
      obtain ⟨kd, n, rows⟩ := s
      dsimp only at *
      obtain ⟨A, hA⟩ : ∃ A : Obj, A = .cells #[.int .i64 kd, .int .i64 n, .slice a rows.length cc] 47 (0, 0) := ⟨_, rfl⟩
      obtain ⟨B, hB⟩ : ∃ B : Obj, B = .cells #[.int .i64 9, .string (S ca), .string (S cb), .int .i64 cn] 24 (0, 0) := ⟨_, rfl⟩
      obtain ⟨C, hC⟩ : ∃ C : Obj, C = .cells #[.int .i64 y1, .string (S y2), .int .i64 y3] 26 (0, 0) := ⟨_, rfl⟩
      obtain ⟨c0, c1, c2, k0, k1, k2, k3, r0, r1, r2⟩ := B4.scr (w := w) (D := .cells #[.int .i64 0, .int .i64 0, .slice none 0 0] 47 (0, 0)) hA hB hC
      have hst := B4.start w A B C (.cells #[.int .i64 0, .int .i64 0, .slice none 0 0] 47 (0, 0))
      have hstd := hst.drew
      clear hr hw hs hop
      go_enter Tryd.func41, Tryd.ntmps41
      go_wp2_with fail
      rw [← hA, ← hB, ← hC]
      clear hA hB hC
      go_region_held3 (fun w' => B4 w A B C (.cells #[.int .i64 0, .int .i64 0, .slice none 0 0] 47 (0, 0)) w') (with_reducible (first | exact hstd | exact hst | (refine B4.below ?_ (by assumption) <;> assumption)))
        (first | (go_at_call 28; refine (unhide HKI _ (B4.low (by assumption))).mono ?_; rintro e wm ⟨rfl, hbm⟩) | (go_at_call 47; refine (unhide HCH _).mono ?_; rintro e wn ⟨rfl, hbn⟩) | fail)
      have hx0 : B4 w A B C (.cells #[.int .i64 0, .int .i64 0, .slice none 0 0] 47 (0, 0)) wn := by assumption
      clear hbm hbn hst hstd HKI HCH
      go_wp2_with fail
      refine (unhide HC2 _ hx0.low).mono ?_
      rintro e w2 ⟨v2, rfl, ⟨k2, rfl, ho⟩, hb⟩
      obtain ⟨ka, kc, rfl, _⟩ := ownsRow_slice ho
      have hx2 := hx0.below hb
      obtain ⟨z0, z1, z2, zl, zo, y0, y1, y2, f1⟩ := hx2.give (.int .i64 y.kind) (.int .i64 y.n) (.slice ka y.rows.length kc)
      have ZO := hide (zo _ _ _ _ _ _ (by have := hx0.size; omega) ho)
      unfold put3 at z0 z1 z2 zl ZO
      have ZL := hide zl
      clear hx2 hb ho zo zl hx0
      go_wp2_with fail
      exact bodyPost_ret (v := .agg #[.int .i64 y.kind, .int .i64 y.n, .slice ka y.rows.length kc]) (by simp [results, Tryd.results41, go_sem, z0, z1, z2]) rfl ⟨_, rfl, ⟨_, rfl, unhide ZO⟩, unhide ZL⟩
    · have HC2 := hide (fun (w1 : World) (hb : Below w.heap.size w w1) => unhide HWI w1 hb (ca, cb))
      rw [if_neg (by decide), if_neg (by decide), if_neg (by decide), if_pos (by decide)]
      generalize s.with (ca, cb) = y at *
      clear HWR HPL HWI HGO hk HX
      obtain ⟨k0, rfl, hr⟩ := h
      obtain ⟨a, cc, rfl, _⟩ := ownsRow_slice hr
      obtain ⟨kd, n, rows⟩ := s
      dsimp only at *
      obtain ⟨A, hA⟩ : ∃ A : Obj, A = .cells #[.int .i64 kd, .int .i64 n, .slice a rows.length cc] 47 (0, 0) := ⟨_, rfl⟩
      obtain ⟨B, hB⟩ : ∃ B : Obj, B = .cells #[.int .i64 11, .string (S ca), .string (S cb), .int .i64 cn] 24 (0, 0) := ⟨_, rfl⟩
      obtain ⟨C, hC⟩ : ∃ C : Obj, C = .cells #[.int .i64 y1, .string (S y2), .int .i64 y3] 26 (0, 0) := ⟨_, rfl⟩
      obtain ⟨c0, c1, c2, k0, k1, k2, k3, r0, r1, r2⟩ := B4.scr (w := w) (D := .cells #[.int .i64 0, .int .i64 0, .slice none 0 0] 47 (0, 0)) hA hB hC
      have hst := B4.start w A B C (.cells #[.int .i64 0, .int .i64 0, .slice none 0 0] 47 (0, 0))
      have hstd := hst.drew
      clear hr hw hs hop
      go_enter Tryd.func41, Tryd.ntmps41
      go_wp2_with fail
      rw [← hA, ← hB, ← hC]
      clear hA hB hC
      go_region_held3 (fun w' => B4 w A B C (.cells #[.int .i64 0, .int .i64 0, .slice none 0 0] 47 (0, 0)) w') (with_reducible (first | exact hstd | exact hst | (refine B4.below ?_ (by assumption) <;> assumption)))
        (first | (go_at_call 28; refine (unhide HKI _ (B4.low (by assumption))).mono ?_; rintro e wm ⟨rfl, hbm⟩) | (go_at_call 47; refine (unhide HCH _).mono ?_; rintro e wn ⟨rfl, hbn⟩) | fail)
      have hx0 : B4 w A B C (.cells #[.int .i64 0, .int .i64 0, .slice none 0 0] 47 (0, 0)) wn := by assumption
      clear hbm hbn hst hstd HKI HCH
      go_wp2_with fail
      refine (unhide HC2 _ hx0.low).mono ?_
      rintro e w2 ⟨v2, rfl, ⟨k2, rfl, ho⟩, hb⟩
      obtain ⟨ka, kc, rfl, _⟩ := ownsRow_slice ho
      have hx2 := hx0.below hb
      obtain ⟨z0, z1, z2, zl, zo, y0, y1, y2, f1⟩ := hx2.give (.int .i64 y.kind) (.int .i64 y.n) (.slice ka y.rows.length kc)
      have ZO := hide (zo _ _ _ _ _ _ (by have := hx0.size; omega) ho)
      unfold put3 at z0 z1 z2 zl ZO
      have ZL := hide zl
      clear hx2 hb ho zo zl hx0
      go_wp2_with fail
      exact bodyPost_ret (v := .agg #[.int .i64 y.kind, .int .i64 y.n, .slice ka y.rows.length kc]) (by simp [results, Tryd.results41, go_sem, z0, z1, z2]) rfl ⟨_, rfl, ⟨_, rfl, unhide ZO⟩, unhide ZL⟩
    · have HC2 := hide (fun (w1 : World) (hb : Below w.heap.size w w1) => unhide HGO w1 hb ca)
      rw [if_neg (by decide), if_neg (by decide), if_neg (by decide), if_neg (by decide), if_pos (by decide)]
      generalize s.gone ca = y at *
      clear HWR HPL HWI HGO hk HX
      obtain ⟨k0, rfl, hr⟩ := h
      obtain ⟨a, cc, rfl, _⟩ := ownsRow_slice hr
      obtain ⟨kd, n, rows⟩ := s
      dsimp only at *
      obtain ⟨A, hA⟩ : ∃ A : Obj, A = .cells #[.int .i64 kd, .int .i64 n, .slice a rows.length cc] 47 (0, 0) := ⟨_, rfl⟩
      obtain ⟨B, hB⟩ : ∃ B : Obj, B = .cells #[.int .i64 12, .string (S ca), .string (S cb), .int .i64 cn] 24 (0, 0) := ⟨_, rfl⟩
      obtain ⟨C, hC⟩ : ∃ C : Obj, C = .cells #[.int .i64 y1, .string (S y2), .int .i64 y3] 26 (0, 0) := ⟨_, rfl⟩
      obtain ⟨c0, c1, c2, k0, k1, k2, k3, r0, r1, r2⟩ := B4.scr (w := w) (D := .cells #[.int .i64 0, .int .i64 0, .slice none 0 0] 47 (0, 0)) hA hB hC
      have hst := B4.start w A B C (.cells #[.int .i64 0, .int .i64 0, .slice none 0 0] 47 (0, 0))
      have hstd := hst.drew
      clear hr hw hs hop
      go_enter Tryd.func41, Tryd.ntmps41
      go_wp2_with fail
      rw [← hA, ← hB, ← hC]
      clear hA hB hC
      go_region_held3 (fun w' => B4 w A B C (.cells #[.int .i64 0, .int .i64 0, .slice none 0 0] 47 (0, 0)) w') (with_reducible (first | exact hstd | exact hst | (refine B4.below ?_ (by assumption) <;> assumption)))
        (first | (go_at_call 28; refine (unhide HKI _ (B4.low (by assumption))).mono ?_; rintro e wm ⟨rfl, hbm⟩) | (go_at_call 47; refine (unhide HCH _).mono ?_; rintro e wn ⟨rfl, hbn⟩) | fail)
      have hx0 : B4 w A B C (.cells #[.int .i64 0, .int .i64 0, .slice none 0 0] 47 (0, 0)) wn := by assumption
      clear hbm hbn hst hstd HKI HCH
      go_wp2_with fail
      refine (unhide HC2 _ hx0.low).mono ?_
      rintro e w2 ⟨v2, rfl, ⟨k2, rfl, ho⟩, hb⟩
      obtain ⟨ka, kc, rfl, _⟩ := ownsRow_slice ho
      have hx2 := hx0.below hb
      obtain ⟨z0, z1, z2, zl, zo, y0, y1, y2, f1⟩ := hx2.give (.int .i64 y.kind) (.int .i64 y.n) (.slice ka y.rows.length kc)
      have ZO := hide (zo _ _ _ _ _ _ (by have := hx0.size; omega) ho)
      unfold put3 at z0 z1 z2 zl ZO
      have ZL := hide zl
      clear hx2 hb ho zo zl hx0
      go_wp2_with fail
      exact bodyPost_ret (v := .agg #[.int .i64 y.kind, .int .i64 y.n, .slice ka y.rows.length kc]) (by simp [results, Tryd.results41, go_sem, z0, z1, z2]) rfl ⟨_, rfl, ⟨_, rfl, unhide ZO⟩, unhide ZL⟩
    · have HC2 := hide (fun (w1 : World) (hb : Below w.heap.size w w1) => unhide HWI w1 hb (ca, cb))
      rw [if_neg (by decide), if_neg (by decide), if_neg (by decide), if_pos (by decide)]
      generalize s.with (ca, cb) = y at *
      clear HWR HPL HWI HGO hk HX
      obtain ⟨k0, rfl, hr⟩ := h
      obtain ⟨a, cc, rfl, _⟩ := ownsRow_slice hr
      obtain ⟨kd, n, rows⟩ := s
      dsimp only at *
      obtain ⟨A, hA⟩ : ∃ A : Obj, A = .cells #[.int .i64 kd, .int .i64 n, .slice a rows.length cc] 47 (0, 0) := ⟨_, rfl⟩
      obtain ⟨B, hB⟩ : ∃ B : Obj, B = .cells #[.int .i64 14, .string (S ca), .string (S cb), .int .i64 cn] 24 (0, 0) := ⟨_, rfl⟩
      obtain ⟨C, hC⟩ : ∃ C : Obj, C = .cells #[.int .i64 y1, .string (S y2), .int .i64 y3] 26 (0, 0) := ⟨_, rfl⟩
      obtain ⟨c0, c1, c2, k0, k1, k2, k3, r0, r1, r2⟩ := B4.scr (w := w) (D := .cells #[.int .i64 0, .int .i64 0, .slice none 0 0] 47 (0, 0)) hA hB hC
      have hst := B4.start w A B C (.cells #[.int .i64 0, .int .i64 0, .slice none 0 0] 47 (0, 0))
      have hstd := hst.drew
      clear hr hw hs hop
      go_enter Tryd.func41, Tryd.ntmps41
      go_wp2_with fail
      rw [← hA, ← hB, ← hC]
      clear hA hB hC
      go_region_held3 (fun w' => B4 w A B C (.cells #[.int .i64 0, .int .i64 0, .slice none 0 0] 47 (0, 0)) w') (with_reducible (first | exact hstd | exact hst | (refine B4.below ?_ (by assumption) <;> assumption)))
        (first | (go_at_call 28; refine (unhide HKI _ (B4.low (by assumption))).mono ?_; rintro e wm ⟨rfl, hbm⟩) | (go_at_call 47; refine (unhide HCH _).mono ?_; rintro e wn ⟨rfl, hbn⟩) | fail)
      have hx0 : B4 w A B C (.cells #[.int .i64 0, .int .i64 0, .slice none 0 0] 47 (0, 0)) wn := by assumption
      clear hbm hbn hst hstd HKI HCH
      go_wp2_with fail
      refine (unhide HC2 _ hx0.low).mono ?_
      rintro e w2 ⟨v2, rfl, ⟨k2, rfl, ho⟩, hb⟩
      obtain ⟨ka, kc, rfl, _⟩ := ownsRow_slice ho
      have hx2 := hx0.below hb
      obtain ⟨z0, z1, z2, zl, zo, y0, y1, y2, f1⟩ := hx2.give (.int .i64 y.kind) (.int .i64 y.n) (.slice ka y.rows.length kc)
      have ZO := hide (zo _ _ _ _ _ _ (by have := hx0.size; omega) ho)
      unfold put3 at z0 z1 z2 zl ZO
      have ZL := hide zl
      clear hx2 hb ho zo zl hx0
      go_wp2_with fail
      exact bodyPost_ret (v := .agg #[.int .i64 y.kind, .int .i64 y.n, .slice ka y.rows.length kc]) (by simp [results, Tryd.results41, go_sem, z0, z1, z2]) rfl ⟨_, rfl, ⟨_, rfl, unhide ZO⟩, unhide ZL⟩
    · have HC2 := hide (fun (w1 : World) (hb : Below w.heap.size w w1) => unhide HGO w1 hb y2)
      rw [if_neg (by decide), if_neg (by decide), if_neg (by decide), if_neg (by decide), if_neg (by decide)]
      generalize s.gone y2 = y at *
      clear HWR HPL HWI HGO hk HX
      obtain ⟨k0, rfl, hr⟩ := h
      obtain ⟨a, cc, rfl, _⟩ := ownsRow_slice hr
      obtain ⟨kd, n, rows⟩ := s
      dsimp only at *
      obtain ⟨A, hA⟩ : ∃ A : Obj, A = .cells #[.int .i64 kd, .int .i64 n, .slice a rows.length cc] 47 (0, 0) := ⟨_, rfl⟩
      obtain ⟨B, hB⟩ : ∃ B : Obj, B = .cells #[.int .i64 15, .string (S ca), .string (S cb), .int .i64 cn] 24 (0, 0) := ⟨_, rfl⟩
      obtain ⟨C, hC⟩ : ∃ C : Obj, C = .cells #[.int .i64 y1, .string (S y2), .int .i64 y3] 26 (0, 0) := ⟨_, rfl⟩
      obtain ⟨c0, c1, c2, k0, k1, k2, k3, r0, r1, r2⟩ := B4.scr (w := w) (D := .cells #[.int .i64 0, .int .i64 0, .slice none 0 0] 47 (0, 0)) hA hB hC
      have hst := B4.start w A B C (.cells #[.int .i64 0, .int .i64 0, .slice none 0 0] 47 (0, 0))
      have hstd := hst.drew
      clear hr hw hs hop
      go_enter Tryd.func41, Tryd.ntmps41
      go_wp2_with fail
      rw [← hA, ← hB, ← hC]
      clear hA hB hC
      go_region_held3 (fun w' => B4 w A B C (.cells #[.int .i64 0, .int .i64 0, .slice none 0 0] 47 (0, 0)) w') (with_reducible (first | exact hstd | exact hst | (refine B4.below ?_ (by assumption) <;> assumption)))
        (first | (go_at_call 28; refine (unhide HKI _ (B4.low (by assumption))).mono ?_; rintro e wm ⟨rfl, hbm⟩) | (go_at_call 47; refine (unhide HCH _).mono ?_; rintro e wn ⟨rfl, hbn⟩) | fail)
      have hx0 : B4 w A B C (.cells #[.int .i64 0, .int .i64 0, .slice none 0 0] 47 (0, 0)) wn := by assumption
      clear hbm hbn hst hstd HKI HCH
      go_wp2_with fail
      refine (unhide HC2 _ hx0.low).mono ?_
      rintro e w2 ⟨v2, rfl, ⟨k2, rfl, ho⟩, hb⟩
      obtain ⟨ka, kc, rfl, _⟩ := ownsRow_slice ho
      have hx2 := hx0.below hb
      obtain ⟨z0, z1, z2, zl, zo, y0, y1, y2, f1⟩ := hx2.give (.int .i64 y.kind) (.int .i64 y.n) (.slice ka y.rows.length kc)
      have ZO := hide (zo _ _ _ _ _ _ (by have := hx0.size; omega) ho)
      unfold put3 at z0 z1 z2 zl ZO
      have ZL := hide zl
      clear hx2 hb ho zo zl hx0
      go_wp2_with fail
      exact bodyPost_ret (v := .agg #[.int .i64 y.kind, .int .i64 y.n, .slice ka y.rows.length kc]) (by simp [results, Tryd.results41, go_sem, z0, z1, z2]) rfl ⟨_, rfl, ⟨_, rfl, unhide ZO⟩, unhide ZL⟩
    · have HC2 := hide (fun (w1 : World) (hb : Below w.heap.size w w1) => unhide HWI w1 hb (ca, cb))
      rw [if_neg (by decide), if_neg (by decide), if_neg (by decide), if_pos (by decide)]
      generalize s.with (ca, cb) = y at *
      clear HWR HPL HWI HGO hk HX
      obtain ⟨k0, rfl, hr⟩ := h
      obtain ⟨a, cc, rfl, _⟩ := ownsRow_slice hr
      obtain ⟨kd, n, rows⟩ := s
      dsimp only at *
      obtain ⟨A, hA⟩ : ∃ A : Obj, A = .cells #[.int .i64 kd, .int .i64 n, .slice a rows.length cc] 47 (0, 0) := ⟨_, rfl⟩
      obtain ⟨B, hB⟩ : ∃ B : Obj, B = .cells #[.int .i64 16, .string (S ca), .string (S cb), .int .i64 cn] 24 (0, 0) := ⟨_, rfl⟩
      obtain ⟨C, hC⟩ : ∃ C : Obj, C = .cells #[.int .i64 y1, .string (S y2), .int .i64 y3] 26 (0, 0) := ⟨_, rfl⟩
      obtain ⟨c0, c1, c2, k0, k1, k2, k3, r0, r1, r2⟩ := B4.scr (w := w) (D := .cells #[.int .i64 0, .int .i64 0, .slice none 0 0] 47 (0, 0)) hA hB hC
      have hst := B4.start w A B C (.cells #[.int .i64 0, .int .i64 0, .slice none 0 0] 47 (0, 0))
      have hstd := hst.drew
      clear hr hw hs hop
      go_enter Tryd.func41, Tryd.ntmps41
      go_wp2_with fail
      rw [← hA, ← hB, ← hC]
      clear hA hB hC
      go_region_held3 (fun w' => B4 w A B C (.cells #[.int .i64 0, .int .i64 0, .slice none 0 0] 47 (0, 0)) w') (with_reducible (first | exact hstd | exact hst | (refine B4.below ?_ (by assumption) <;> assumption)))
        (first | (go_at_call 28; refine (unhide HKI _ (B4.low (by assumption))).mono ?_; rintro e wm ⟨rfl, hbm⟩) | (go_at_call 47; refine (unhide HCH _).mono ?_; rintro e wn ⟨rfl, hbn⟩) | fail)
      have hx0 : B4 w A B C (.cells #[.int .i64 0, .int .i64 0, .slice none 0 0] 47 (0, 0)) wn := by assumption
      clear hbm hbn hst hstd HKI HCH
      go_wp2_with fail
      refine (unhide HC2 _ hx0.low).mono ?_
      rintro e w2 ⟨v2, rfl, ⟨k2, rfl, ho⟩, hb⟩
      obtain ⟨ka, kc, rfl, _⟩ := ownsRow_slice ho
      have hx2 := hx0.below hb
      obtain ⟨z0, z1, z2, zl, zo, y0, y1, y2, f1⟩ := hx2.give (.int .i64 y.kind) (.int .i64 y.n) (.slice ka y.rows.length kc)
      have ZO := hide (zo _ _ _ _ _ _ (by have := hx0.size; omega) ho)
      unfold put3 at z0 z1 z2 zl ZO
      have ZL := hide zl
      clear hx2 hb ho zo zl hx0
      go_wp2_with fail
      exact bodyPost_ret (v := .agg #[.int .i64 y.kind, .int .i64 y.n, .slice ka y.rows.length kc]) (by simp [results, Tryd.results41, go_sem, z0, z1, z2]) rfl ⟨_, rfl, ⟨_, rfl, unhide ZO⟩, unhide ZL⟩
    · have HC2 := hide (fun (w1 : World) (hb : Below w.heap.size w w1) => unhide HGO w1 hb y2)
      rw [if_neg (by decide), if_neg (by decide), if_neg (by decide), if_neg (by decide), if_neg (by decide)]
      generalize s.gone y2 = y at *
      clear HWR HPL HWI HGO hk HX
      obtain ⟨k0, rfl, hr⟩ := h
      obtain ⟨a, cc, rfl, _⟩ := ownsRow_slice hr
      obtain ⟨kd, n, rows⟩ := s
      dsimp only at *
      obtain ⟨A, hA⟩ : ∃ A : Obj, A = .cells #[.int .i64 kd, .int .i64 n, .slice a rows.length cc] 47 (0, 0) := ⟨_, rfl⟩
      obtain ⟨B, hB⟩ : ∃ B : Obj, B = .cells #[.int .i64 17, .string (S ca), .string (S cb), .int .i64 cn] 24 (0, 0) := ⟨_, rfl⟩
      obtain ⟨C, hC⟩ : ∃ C : Obj, C = .cells #[.int .i64 y1, .string (S y2), .int .i64 y3] 26 (0, 0) := ⟨_, rfl⟩
      obtain ⟨c0, c1, c2, k0, k1, k2, k3, r0, r1, r2⟩ := B4.scr (w := w) (D := .cells #[.int .i64 0, .int .i64 0, .slice none 0 0] 47 (0, 0)) hA hB hC
      have hst := B4.start w A B C (.cells #[.int .i64 0, .int .i64 0, .slice none 0 0] 47 (0, 0))
      have hstd := hst.drew
      clear hr hw hs hop
      go_enter Tryd.func41, Tryd.ntmps41
      go_wp2_with fail
      rw [← hA, ← hB, ← hC]
      clear hA hB hC
      go_region_held3 (fun w' => B4 w A B C (.cells #[.int .i64 0, .int .i64 0, .slice none 0 0] 47 (0, 0)) w') (with_reducible (first | exact hstd | exact hst | (refine B4.below ?_ (by assumption) <;> assumption)))
        (first | (go_at_call 28; refine (unhide HKI _ (B4.low (by assumption))).mono ?_; rintro e wm ⟨rfl, hbm⟩) | (go_at_call 47; refine (unhide HCH _).mono ?_; rintro e wn ⟨rfl, hbn⟩) | fail)
      have hx0 : B4 w A B C (.cells #[.int .i64 0, .int .i64 0, .slice none 0 0] 47 (0, 0)) wn := by assumption
      clear hbm hbn hst hstd HKI HCH
      go_wp2_with fail
      refine (unhide HC2 _ hx0.low).mono ?_
      rintro e w2 ⟨v2, rfl, ⟨k2, rfl, ho⟩, hb⟩
      obtain ⟨ka, kc, rfl, _⟩ := ownsRow_slice ho
      have hx2 := hx0.below hb
      obtain ⟨z0, z1, z2, zl, zo, y0, y1, y2, f1⟩ := hx2.give (.int .i64 y.kind) (.int .i64 y.n) (.slice ka y.rows.length kc)
      have ZO := hide (zo _ _ _ _ _ _ (by have := hx0.size; omega) ho)
      unfold put3 at z0 z1 z2 zl ZO
      have ZL := hide zl
      clear hx2 hb ho zo zl hx0
      go_wp2_with fail
      exact bodyPost_ret (v := .agg #[.int .i64 y.kind, .int .i64 y.n, .slice ka y.rows.length kc]) (by simp [results, Tryd.results41, go_sem, z0, z1, z2]) rfl ⟨_, rfl, ⟨_, rfl, unhide ZO⟩, unhide ZL⟩
set_option maxHeartbeats 12800000 in
theorem aapply_ne {base : Nat} {w : World} {v : Value} {s : VS} {c : MC} (h : StOwn base 82 w v s) (hs : s.rows.length ≤ 1000) (hw : MD w) (r : MR) (hk : (mfact c.op).kind ≠ s.kind) :
    Calls Tryd.prog 41 #[v, mcV c, mrV r] w fun e w' => ∃ v', e = .returned v' ∧ StOwn w.heap.size 82 w' v' s ∧ Below w.heap.size w w' := by
  have HKI := hide (fun (w1 : World) (hb : Below w.heap.size w w1) => mkind_any (hw.later hb) c.op)
  have HCL := hide (fun (w1 : World) (hb : Below w.heap.size w w1) => vclone_any (h.later hb) hs)
  obtain ⟨op, ca, cb, cn⟩ := c
  obtain ⟨y1, y2, y3⟩ := r
  unfold mcV mrV at *
  dsimp only at *
  have e0 : ((mfact op).kind != s.kind) = true := by rw [bne_iff_ne]; exact hk
  generalize (mfact op).kind = K at *
  obtain ⟨k0, rfl, hr⟩ := h
  obtain ⟨a, cc, rfl, _⟩ := ownsRow_slice hr
  obtain ⟨kd, n, rows⟩ := s
  dsimp only at *
  obtain ⟨A, hA⟩ : ∃ A : Obj, A = .cells #[.int .i64 kd, .int .i64 n, .slice a rows.length cc] 47 (0, 0) := ⟨_, rfl⟩
  obtain ⟨B, hB⟩ : ∃ B : Obj, B = .cells #[.int .i64 op, .string (S ca), .string (S cb), .int .i64 cn] 24 (0, 0) := ⟨_, rfl⟩
  obtain ⟨C, hC⟩ : ∃ C : Obj, C = .cells #[.int .i64 y1, .string (S y2), .int .i64 y3] 26 (0, 0) := ⟨_, rfl⟩
  obtain ⟨c0, c1, c2, k0, k1, k2, k3, r0, r1, r2⟩ := B4.scr (w := w) (D := .cells #[.int .i64 0, .int .i64 0, .slice none 0 0] 47 (0, 0)) hA hB hC
  have hst := B4.start w A B C (.cells #[.int .i64 0, .int .i64 0, .slice none 0 0] 47 (0, 0))
  have hstd := hst.drew
  clear hr hw hk
  go_enter Tryd.func41, Tryd.ntmps41
  go_wp2_with fail
  rw [← hA, ← hB, ← hC]
  clear hA hB hC
  refine wp_region_held_drew (S := fun w' => B4 w A B C (.cells #[.int .i64 0, .int .i64 0, .slice none 0 0] 47 (0, 0)) w') (by kernel_rfl) ?_ (fun hHeld => ?_)
  · exact hstd
  refine wpAnyH_take (i := 0) (oi := { dst := some 7, op := _, type := _, pos := _, after := _, guard := _ }) (v := ?_) rfl (by kernel_rfl) (by kernel_rfl) (by kernel_rfl) (fun _ _ _ h => h) (Or.inl ⟨by kernel_rfl, ?_⟩) (by assumption) ?_
  rotate_left
  · intro w hSw; (try dsimp only at hSw); go_simp; try (with_reducible rfl)
  try simp only [Act.put, List.setIfInBounds_toArray, List.set_cons_zero, List.set_cons_succ]
  refine wpAnyH_take (i := 1) (oi := { dst := some 8, op := _, type := _, pos := _, after := _, guard := _ }) (v := ?_) rfl (by kernel_rfl) (by kernel_rfl) (by kernel_rfl) (fun _ _ _ h => h) (Or.inl ⟨by kernel_rfl, ?_⟩) (by assumption) ?_
  rotate_left
  · intro w hSw; (try dsimp only at hSw); go_simp; try (with_reducible rfl)
  try simp only [Act.put, List.setIfInBounds_toArray, List.set_cons_zero, List.set_cons_succ]
  refine wpAnyH_take (i := 3) (oi := { dst := some 10, op := _, type := _, pos := _, after := _, guard := _ }) (v := ?_) rfl (by kernel_rfl) (by kernel_rfl) (by kernel_rfl) (fun _ _ _ h => h) (Or.inl ⟨by kernel_rfl, ?_⟩) (by assumption) ?_
  rotate_left
  · intro w hSw; (try dsimp only at hSw); go_simp; try (with_reducible rfl)
  try simp only [Act.put, List.setIfInBounds_toArray, List.set_cons_zero, List.set_cons_succ]
  refine wpAnyH_take (i := 4) (oi := { dst := some 11, op := _, type := _, pos := _, after := _, guard := _ }) (v := ?_) rfl (by kernel_rfl) (by kernel_rfl) (by kernel_rfl) (fun _ _ _ h => h) (Or.inl ⟨by kernel_rfl, ?_⟩) (by assumption) ?_
  rotate_left
  · intro w hSw; (try dsimp only at hSw); go_simp; try (with_reducible rfl)
  try simp only [Act.put, List.setIfInBounds_toArray, List.set_cons_zero, List.set_cons_succ]
  refine wpAnyH_ready (rs := [2]) (by kernel_rfl) (by simp) ?_
  refine AllReadyH.cons rfl (fun K hK => ?_) AllReadyH.nil
  go_simp
  (go_at_call 28; refine (unhide HKI _ (B4.low (by assumption))).mono ?_; rintro e wn ⟨rfl, hbn⟩)
  refine hK.out _ _ ?_ (fun hHeld => ?_)
  · exact B4.below (by assumption) hbn
  clear hK K
  try simp only [Act.put, List.setIfInBounds_toArray, List.set_cons_zero, List.set_cons_succ]
  refine wpAnyH_take (i := 5) (oi := { dst := some 12, op := _, type := _, pos := _, after := _, guard := _ }) (v := ?_) rfl (by kernel_rfl) (by kernel_rfl) (by kernel_rfl) (fun _ _ _ h => h) (Or.inl ⟨by kernel_rfl, ?_⟩) (by assumption) ?_
  rotate_left
  · intro w hSw; (try dsimp only at hSw); go_simp; try (with_reducible rfl)
  try simp only [Act.put, List.setIfInBounds_toArray, List.set_cons_zero, List.set_cons_succ]
  refine wpAnyH_take (i := 6) (oi := { dst := some 13, op := _, type := _, pos := _, after := _, guard := _ }) (v := ?_) rfl (by kernel_rfl) (by kernel_rfl) (by kernel_rfl) (fun _ _ _ h => h) (Or.inl ⟨by kernel_rfl, ?_⟩) (by assumption) ?_
  rotate_left
  · intro w hSw; (try dsimp only at hSw); go_simp; try (with_reducible rfl)
  try simp only [Act.put, List.setIfInBounds_toArray, List.set_cons_zero, List.set_cons_succ]
  refine wpAnyH_take (i := 7) (oi := { dst := some 14, op := _, type := _, pos := _, after := _, guard := _ }) (v := undef) rfl (by kernel_rfl) (by kernel_rfl) (by kernel_rfl) (fun _ _ _ h => h) (Or.inr ⟨by kernel_rfl, rfl⟩) (by assumption) ?_
  try simp only [Act.put, List.setIfInBounds_toArray, List.set_cons_zero, List.set_cons_succ]
  refine wpAnyH_take (i := 8) (oi := { dst := some 15, op := _, type := _, pos := _, after := _, guard := _ }) (v := undef) rfl (by kernel_rfl) (by kernel_rfl) (by kernel_rfl) (fun _ _ _ h => h) (Or.inr ⟨by kernel_rfl, rfl⟩) (by assumption) ?_
  try simp only [Act.put, List.setIfInBounds_toArray, List.set_cons_zero, List.set_cons_succ]
  refine wpAnyH_take (i := 9) (oi := { dst := some 16, op := _, type := _, pos := _, after := _, guard := _ }) (v := undef) rfl (by kernel_rfl) (by kernel_rfl) (by kernel_rfl) (fun _ _ _ h => h) (Or.inr ⟨by kernel_rfl, rfl⟩) (by assumption) ?_
  try simp only [Act.put, List.setIfInBounds_toArray, List.set_cons_zero, List.set_cons_succ]
  refine wpAnyH_take (i := 10) (oi := { dst := some 17, op := _, type := _, pos := _, after := _, guard := _ }) (v := undef) rfl (by kernel_rfl) (by kernel_rfl) (by kernel_rfl) (fun _ _ _ h => h) (Or.inr ⟨by kernel_rfl, rfl⟩) (by assumption) ?_
  try simp only [Act.put, List.setIfInBounds_toArray, List.set_cons_zero, List.set_cons_succ]
  refine wpAnyH_take (i := 11) (oi := { dst := some 18, op := _, type := _, pos := _, after := _, guard := _ }) (v := ?_) rfl (by kernel_rfl) (by kernel_rfl) (by kernel_rfl) (fun _ _ _ h => h) (Or.inl ⟨by kernel_rfl, ?_⟩) (by assumption) ?_
  rotate_left
  · intro w hSw; (try dsimp only at hSw); go_simp; try (with_reducible rfl)
  try simp only [Act.put, List.setIfInBounds_toArray, List.set_cons_zero, List.set_cons_succ]
  refine wpAnyH_done (by kernel_rfl) ?_ _
  have hx0 : B4 w A B C (.cells #[.int .i64 0, .int .i64 0, .slice none 0 0] 47 (0, 0)) wn := by assumption
  clear hbn hst hstd HKI
  have s0 := c0 _ hx0
  have s1 := c1 _ hx0
  have s2 := c2 _ hx0
  go_wp2_with fail
  refine (unhide HCL _ hx0.low).mono ?_
  rintro e w2 ⟨v2, rfl, ⟨k2, rfl, ho⟩, hb⟩
  obtain ⟨ka, kc, rfl, _⟩ := ownsRow_slice ho
  have hx2 := hx0.below hb
  obtain ⟨z0, z1, z2, zl, zo, y0, y1, y2, f1⟩ := hx2.give (.int .i64 kd) (.int .i64 n) (.slice ka rows.length kc)
  have ZO := hide (zo _ _ _ _ _ _ (by have := hx0.size; omega) ho)
  unfold put3 at z0 z1 z2 zl ZO
  have ZL := hide zl
  clear hx2 hb ho zo zl hx0
  go_wp2_with fail
  exact bodyPost_ret (v := .agg #[.int .i64 kd, .int .i64 n, .slice ka rows.length kc]) (by simp [results, Tryd.results41, go_sem, z0, z1, z2]) rfl ⟨_, rfl, ⟨_, rfl, unhide ZO⟩, unhide ZL⟩
theorem aapply_any {base : Nat} {w : World} {v : Value} {s : VS} {c : MC} (h : StOwn base 82 w v s) (hs : s.rows.length ≤ 1000) (hop : okOp c.op) (hw : MD w) (r : MR) :
    Calls Tryd.prog 41 #[v, mcV c, mrV r] w fun e w' => ∃ v', e = .returned v' ∧ StOwn w.heap.size 82 w' v' (apply1 s c r) ∧ Below w.heap.size w w' := by
  by_cases hk : (mfact c.op).kind = s.kind
  · exact aapply_eq h hs hop hw r hk
  · rw [show apply1 s c r = s by unfold apply1 applyBy; rw [if_pos (Or.inl hk)]]
    exact aapply_ne h hs hw r hk
end Go.Proofs.YteaiidcconggcaaDoor
/- The contract of adt's Run. -/
namespace Go.Proofs.YteaiidcconggcaaDoor
open Go.RowKit
set_option linter.unusedVariables false
set_option maxRecDepth 100000

structure Rn (w : World) (y : VS) (sl : Value) (wr : World) : Prop where
  low : Below w.heap.size w wr
  st : wr.heap[w.heap.size]? = some (.cells #[.int .i64 y.kind, .int .i64 y.n, sl] 47 (0, 0))
  res : wr.heap[w.heap.size + 1]? = some (.cells #[.int .i64 0, .int .i64 0, .slice none 0 0] 47 (0, 0))
  own : wr.ownsRow (w.heap.size + 1 + 1) 82 2 sl y.rows.length (R9 y.rows)
section
variable {w wr w' : World} {y : VS} {sl : Value}
theorem Rn.later (h : Rn w y sl wr) (hb : Below wr.heap.size wr w') : Rn w y sl w' := ⟨h.low.trans (hb.mono h.low.size), (hb.block _ (block_lt h.st)).trans h.st, (hb.block _ (block_lt h.res)).trans h.res, ownsRow_below h.own hb⟩
theorem Rn.put (h : Rn w y sl wr) {z : VS} {u : Value} (ho : wr.ownsRow (w.heap.size + 1 + 1) 82 2 u z.rows.length (R9 z.rows)) : Rn w z u (put3 wr w.heap.size (.int .i64 z.kind) (.int .i64 z.n) u) := by
  refine ⟨⟨h.low.os, h.low.tape, h.low.output, by rw [put3_size]; exact h.low.size, fun j hj => by rw [put3_other _ _ _ _ (by omega)]; exact h.low.block j hj⟩, ?_, by rw [put3_other _ _ _ _ (by omega)]; exact h.res, ownsRow_same ho fun j hj => ?_⟩
  · have f1 := heap_setCell_same wr w.heap.size 0 _ _ (.int .i64 z.kind) h.st
    have f2 := heap_setCell_same _ w.heap.size 1 _ _ (.int .i64 z.n) f1
    have f3 := heap_setCell_same _ w.heap.size 2 _ _ u f2
    unfold put3
    simpa [Array.setIfInBounds] using f3
  · have := (ho.lt j hj).1
    rw [put3_other _ _ _ _ (by omega)]
theorem Rn.at (h : Rn w y sl wr) : StOwn (w.heap.size + 1 + 1) 82 wr (.agg #[.int .i64 y.kind, .int .i64 y.n, sl]) y := ⟨_, rfl, h.own⟩
end
theorem cells7 {w : World} {N : Nat} {a b c d e f g : Value} {t : TypeId} (h : w.heap[N]? = some (.cells #[a, b, c, d, e, f, g] t (0, 0))) : w.cell? ⟨N, 0, none⟩ = some a ∧ w.cell? ⟨N, 1, none⟩ = some b ∧ w.cell? ⟨N, 2, none⟩ = some c ∧ w.cell? ⟨N, 3, none⟩ = some d ∧ w.cell? ⟨N, 4, none⟩ = some e ∧ w.cell? ⟨N, 5, none⟩ = some f ∧ w.cell? ⟨N, 6, none⟩ = some g := by
  refine ⟨?_, ?_, ?_, ?_, ?_, ?_, ?_⟩ <;> rw [block_cell h] <;> rfl
theorem cells3 {w : World} {N : Nat} {a b c : Value} {t : TypeId} (h : w.heap[N]? = some (.cells #[a, b, c] t (0, 0))) : w.cell? ⟨N, 0, none⟩ = some a ∧ w.cell? ⟨N, 1, none⟩ = some b ∧ w.cell? ⟨N, 2, none⟩ = some c ∧ ∀ j, w.frozen? ⟨N, j, none⟩ = false := by
  refine ⟨?_, ?_, ?_, fun j => block_frozen h j⟩ <;> rw [block_cell h] <;> rfl

set_option maxHeartbeats 25600000 in
theorem arun_any {base : Nat} {w : World} {v lv : Value} {x : VS} {l : List (MC × MR)} (h : StOwn base 82 w v x) (hfit : x.fit) (hxl : x.rows.length ≤ 100) (hl : Row7 w lv l) (hll : l.length ≤ 100) (hsteps : Steps l) (hw : MD w) (m : Nat) (hm : m ≤ l.length)
    (hleg : ∀ k (hk : k < l.length), k < m → legal (runSt x (l.take k)) (l[k]'hk).1 (l[k]'hk).2 = true) (hstop : ∀ hk : m < l.length, legal (runSt x (l.take m)) (l[m]'hk).1 (l[m]'hk).2 = false) :
    Calls Tryd.prog 24 #[v, lv] w fun e w' => ∃ v', e = .returned (.tuple #[v', .int .i64 (m : Int)]) ∧ StOwn w.heap.size 82 w' v' (runSt x (l.take m)) ∧ Below w.heap.size w w' := by
  have HCL := hide (fun (w1 : World) (hb : Below w.heap.size w w1) => vclone_any (h.later hb) (by omega))
  have HLG : Hid (∀ (k : Nat) (hk : k < l.length) (w1 : World) (sl : Value), Below w.heap.size w w1 → Rn w (runSt x (l.take k)) sl w1 → Calls Tryd.prog 40 #[.agg #[.int .i64 (runSt x (l.take k)).kind, .int .i64 (runSt x (l.take k)).n, sl], mcV (l[k]'hk).1, mrV (l[k]'hk).2] w1 fun e w' => e = .returned (.bool (legal (runSt x (l.take k)) (l[k]'hk).1 (l[k]'hk).2)) ∧ Below w1.heap.size w1 w') := fun k hk w1 sl hb hr => alegal_any hr.at.at (by have := runSt_len x (l.take k); simp at this; omega) (hsteps _ (List.getElem_mem hk)) (hw.later hb) _
  have HAP : Hid (∀ (k : Nat) (hk : k < l.length) (w1 : World) (sl : Value), Below w.heap.size w w1 → Rn w (runSt x (l.take k)) sl w1 → Calls Tryd.prog 41 #[.agg #[.int .i64 (runSt x (l.take k)).kind, .int .i64 (runSt x (l.take k)).n, sl], mcV (l[k]'hk).1, mrV (l[k]'hk).2] w1 fun e w' => ∃ v', e = .returned v' ∧ StOwn w1.heap.size 82 w' v' (runSt x (l.take (k + 1))) ∧ Below w1.heap.size w1 w') := fun k hk w1 sl hb hr => by
    rw [runSt_take x l k hk, ← apply_same (runSt_fit hfit _ fun p hp => hsteps p (List.mem_of_mem_take hp))]
    exact aapply_any hr.at (by have := runSt_len x (l.take k); simp at this; omega) (hsteps _ (List.getElem_mem hk)) (hw.later hb) _
  obtain ⟨la, lc, rfl, hlc, hlm⟩ := hl.shape
  unfold maxLen at hlm
  have HROW := hide hl
  obtain ⟨st, hstf⟩ : ∃ st : Nat → VS, (fun k => runSt x (l.take k)) = st := ⟨_, rfl⟩
  have hst' : ∀ k, runSt x (l.take k) = st k := fun k => by rw [← hstf]
  have h00 : st 0 = x := by rw [← hst']; rfl
  simp only [hst'] at HLG HAP hleg hstop ⊢
  have HLE := hide hleg
  have HSP := hide hstop
  clear hst' hstf hl hleg hstop hsteps hw hfit
  obtain ⟨k0, rfl, hr⟩ := h
  obtain ⟨a, cc, rfl, _⟩ := ownsRow_slice hr
  have HST := hide (B2.start w (.cells #[.int .i64 x.kind, .int .i64 x.n, .slice a x.rows.length cc] 47) (.cells #[.int .i64 0, .int .i64 0, .slice none 0 0] 47))
  clear hr
  go_enter Tryd.func24, Tryd.ntmps24
  go_wp2_with fail
  refine (unhide HCL _ (unhide HST).low).mono ?_
  rintro e w1 ⟨v1, rfl, ⟨k1, rfl, ho⟩, hb1⟩
  obtain ⟨ka, kc, rfl, _⟩ := ownsRow_slice ho
  have hx1 := (unhide HST).on hb1
  obtain ⟨⟨c0, c1, c2⟩, _, f0, _⟩ := hx1.facts
  have HR0 : Hid (Rn w (st 0) (.slice ka (st 0).rows.length kc) (put3 w1 w.heap.size (.int .i64 x.kind) (.int .i64 x.n) (.slice ka x.rows.length kc))) := by
    show Rn _ _ _ _
    rw [h00]
    have : Rn w x (.slice a x.rows.length cc) w1 → Rn w x (.slice ka x.rows.length kc) (put3 w1 w.heap.size (.int .i64 x.kind) (.int .i64 x.n) (.slice ka x.rows.length kc)) := fun h => h.put (ownsRow_less ho (by simp))
    obtain ⟨g1, g2, g3⟩ := hx1.blocks
    refine ⟨⟨hx1.low.os, hx1.low.tape, hx1.low.output, by rw [put3_size]; exact hx1.low.size, fun j hj => by rw [put3_other _ _ _ _ (by omega)]; exact hx1.low.block j hj⟩, ?_, by rw [put3_other _ _ _ _ (by omega)]; exact g2, ownsRow_same (ownsRow_less ho (by simp)) fun j hj => ?_⟩
    · have q1 := heap_setCell_same w1 w.heap.size 0 _ _ (.int .i64 x.kind) g1
      have q2 := heap_setCell_same _ w.heap.size 1 _ _ (.int .i64 x.n) q1
      have q3 := heap_setCell_same _ w.heap.size 2 _ _ (.slice ka x.rows.length kc) q2
      unfold put3
      simpa [Array.setIfInBounds] using q3
    · have := (ho.lt j hj).1
      rw [put3_other _ _ _ _ (by simp at this; omega)]
  unfold put3 at HR0
  clear hx1 ho hb1 HCL HST h00
  go_wp2_with fail
  go_loopw [12] (fun i wr => ∃ (k : Nat) (ka : Option Addr) (kc : Nat), k ≤ m ∧ i = .int .i64 (k : Int) ∧ Rn w (st k) (.slice ka (st k).rows.length kc) wr) (fun i _ => l.length - (intOf i).toNat)
  case atStart => exact ⟨0, _, _, Nat.zero_le _, rfl, unhide HR0⟩
  case round =>
    obtain ⟨k, ka, kc, hk, rfl, hrn⟩ := hrel
    clear c0 c1 c2 f0 HR0
    by_cases hlt : k < l.length
    · obtain ⟨b, off, rfl, hbl, e0, e1, e2, e3, e4, e5, e6⟩ := (unhide HROW).at k hlt
      have hlow := hrn.low
      rw [← hlow.cell (p := ⟨b, off + k * 7, none⟩) hbl] at e0
      rw [← hlow.cell (p := ⟨b, off + k * 7 + 1, none⟩) hbl] at e1
      rw [← hlow.cell (p := ⟨b, off + k * 7 + 2, none⟩) hbl] at e2
      rw [← hlow.cell (p := ⟨b, off + k * 7 + 3, none⟩) hbl] at e3
      rw [← hlow.cell (p := ⟨b, off + k * 7 + 4, none⟩) hbl] at e4
      rw [← hlow.cell (p := ⟨b, off + k * 7 + 5, none⟩) hbl] at e5
      rw [← hlow.cell (p := ⟨b, off + k * 7 + 6, none⟩) hbl] at e6
      have HLK := hide (unhide HLG k hlt)
      have HAK := hide (unhide HAP k hlt)
      have HL1 := hide (fun h : k < m => unhide HLE k hlt h)
      have HL2 : Hid (k = m → legal (st k) (l[k]'hlt).1 (l[k]'hlt).2 = false) := fun e => by subst e; exact unhide HSP hlt
      clear HLG HAP HLE HSP HROW
      generalize l[k]'hlt = q at *
      obtain ⟨⟨q1, q2, q3, q4⟩, ⟨q5, q6, q7⟩⟩ := q
      unfold mcV mrV at *
      dsimp only at *
      have hi0 : (0 : Int) ≤ (k : Int) := by omega
      have hi1 : (k : Int) < ((l.length : Nat) : Int) := by omega
      have hne : wr.heap.size ≠ b := by have := hlow.size; omega
      obtain ⟨W2, hW2⟩ : ∃ W2, wr.alloc (.cells #[.int .i64 q1, .string (S q2), .string (S q3), .int .i64 q4, .int .i64 q5, .string (S q6), .int .i64 q7] 41) = W2 := ⟨_, rfl⟩
      have hb2 : Below wr.heap.size wr W2 := by rw [← hW2]; exact under_box _
      have hc2 : W2.heap[wr.heap.size]? = some (.cells #[.int .i64 q1, .string (S q2), .string (S q3), .int .i64 q4, .int .i64 q5, .string (S q6), .int .i64 q7] 41 (0, 0)) := by rw [← hW2]; exact heap_alloc_new wr _
      have HN2 := hide (hrn.later hb2)
      have HC2 := hide hc2
      obtain ⟨p0, p1, p2, p3, p4, p5, p6⟩ := cells7 hc2
      obtain ⟨s0, s1, s2, _⟩ := cells3 (unhide HN2).st
      clear hrn hlow hb2 hc2
      go_upto_region 5 with fail
      try rw [hW2]
      clear hW2 e0 e1 e2 e3 e4 e5 e6
      go_wp2_with fail
      refine (unhide HLK _ _ (unhide HN2).low (unhide HN2)).mono ?_
      rintro e w3 ⟨rfl, hb3⟩
      have HN3 := hide ((unhide HN2).later hb3)
      have HC3 := hide ((hb3.block _ (block_lt (unhide HC2))).trans (unhide HC2))
      clear hb3 p0 p1 p2 p3 p4 p5 p6 s0 s1 s2 HN2 HC2 HLK
      obtain ⟨s0, s1, s2, fz⟩ := cells3 (unhide HN3).st
      by_cases hkm : k < m
      · rw [unhide HL1 hkm]
        obtain ⟨p0, p1, p2, p3, p4, p5, p6⟩ := cells7 (unhide HC3)
        have HKM := hide hkm
        clear HL1 HL2 hkm HC3
        go_wp2_with fail
        refine (unhide HAK _ _ (unhide HN3).low (unhide HN3)).mono ?_
        rintro e w4 ⟨v4, rfl, ⟨k4, rfl, ho4⟩, hb4⟩
        obtain ⟨za, zc, rfl, _⟩ := ownsRow_slice ho4
        have hn4 := (unhide HN3).later hb4
        clear s0 s1 s2 fz
        obtain ⟨s0, s1, s2, fz⟩ := cells3 hn4.st
        have HN5 := hide (hn4.put (ownsRow_less ho4 (by have := block_lt (unhide HN3).res; omega)))
        unfold put3 at HN5
        clear hn4 hb4 ho4 HAK HN3
        go_wp2_with fail
        go_roundw
        case rel => exact ⟨k + 1, _, _, by have := unhide HKM; omega, by go_num, unhide HN5⟩
        case measure => simp [intOf]; omega
      · have hke : k = m := by omega
        rw [unhide HL2 hke]
        obtain ⟨y0, y1, y2, fy⟩ := cells3 (unhide HN3).res
        obtain ⟨z0, z1, z2, zl, zo, _⟩ := give3 (unhide HN3).low (Nat.le_succ _) (unhide HN3).res (.int .i64 (st k).kind) (.int .i64 (st k).n) (.slice ka (st k).rows.length kc)
        have ZO := hide (zo _ _ _ _ _ _ (by omega) (unhide HN3).own)
        unfold put3 at z0 z1 z2 zl ZO
        have ZL := hide zl
        clear zl zo HN3 HC3 HAK HL1 HL2
        subst hke
        go_wp2_with fail
        exact bodyPost_ret (v := .tuple #[.agg #[.int .i64 (st k).kind, .int .i64 (st k).n, .slice ka (st k).rows.length kc], .int .i64 (k : Int)]) (by simp [results, Tryd.results24, go_sem, z0, z1, z2]) rfl ⟨_, rfl, ⟨_, rfl, unhide ZO⟩, unhide ZL⟩
    · have hke : k = m := by omega
      have hkl : l.length = m := by omega
      obtain ⟨s0, s1, s2, fz⟩ := cells3 hrn.st
      obtain ⟨y0, y1, y2, fy⟩ := cells3 hrn.res
      obtain ⟨z0, z1, z2, zl, zo, _⟩ := give3 hrn.low (Nat.le_succ _) hrn.res (.int .i64 (st k).kind) (.int .i64 (st k).n) (.slice ka (st k).rows.length kc)
      have ZO := hide (zo _ _ _ _ _ _ (by omega) hrn.own)
      unfold put3 at z0 z1 z2 zl ZO
      have ZL := hide zl
      clear zl zo hrn HLG HAP HLE HSP HROW
      subst hke
      have hi1 : ¬ (k : Int) < ((l.length : Nat) : Int) := by omega
      rw [hkl] at *
      clear hkl hlt hm hk
      go_wp2_with fail
      exact bodyPost_ret (v := .tuple #[.agg #[.int .i64 (st k).kind, .int .i64 (st k).n, .slice ka (st k).rows.length kc], .int .i64 (k : Int)]) (by simp [results, Tryd.results24, go_sem, z0, z1, z2]) rfl ⟨_, rfl, ⟨_, rfl, unhide ZO⟩, unhide ZL⟩
end Go.Proofs.YteaiidcconggcaaDoor
