/- Texts that this proof needs, one behind the other: TRAns, TLegal, TWithout, TLaw, TOf. -/
import Derived.Test.YteaiidcconggcaaDoorBundleT6
import Derived.Test.YteaiidcconggcaaDoorMRefs2
import Derived.Test.YteaiidcconggcaaDoorVWith
import Derived.Test.YteaiidcconggcaaDoorMTidy
import Derived.Test.YteaiidcconggcaaDoorVTidy
/- The contract of the document's Answers. -/
namespace Go.Proofs.YteaiidcconggcaaDoor
open Go.RowKit
set_option linter.unusedVariables false
set_option maxRecDepth 100000

theorem under_at {w w1 : World} (h : Below w.heap.size w w1) (o : Obj) : Below w.heap.size w1 (w1.alloc o) := (Below.refl _ _).alloc h.size _
set_option maxHeartbeats 25600000 in
theorem ranswers_any {w : World} {v : Value} {s : VS} {c : MC} (h : StAt w v s) (hs : s.rows.length ≤ 1000) (hop : okOp c.op) :
    Calls Tryd.prog 16 #[v, mcV c] w fun e w' => ∃ v', e = .returned v' ∧ Row3 w' v' (answers s c) ∧ Below w.heap.size w w' := by
  have HKI := hide (fun (w1 : World) => rkind_any (w := w1) c.op hop)
  have HFI := hide (fun (w1 : World) (hb : Below w.heap.size w w1) => rfind_any (h.later hb) c.a)
  obtain ⟨K, hK⟩ : ∃ K, (mfact c.op).kind = K := ⟨_, rfl⟩
  obtain ⟨op, ca, cb, cn⟩ := c
  dsimp only at *
  rw [hK] at HKI
  unfold mcV
  dsimp only
  by_cases hk : K = s.kind
  · have e0 : (K != s.kind) = false := by rw [hk]; simp
    have hkk : ¬ (mfact op).kind ≠ s.kind := by rw [hK]; simpa using hk
    rcases op_cases hop with rfl | rfl | rfl | rfl | rfl | rfl | rfl | rfl | rfl | rfl | rfl | rfl | rfl | rfl | rfl | rfl | rfl
    · have hA : answers s ⟨1, ca, cb, cn⟩ = [⟨1, s.key 0, 0⟩] := by unfold answers; rw [if_neg hkk]; rfl
      rw [hA]
      clear hA
      have HO1 := hide (fun (w1 : World) => rok_any (w := w1) true)
      rw [show okR true = ⟨1, [], 0⟩ from rfl] at HO1
      by_cases hl : s.rows.length = 0
      · have hk0 : s.key 0 = [] := by simp [VS.key, List.eq_nil_of_length_eq_zero hl]
        have hn : (((s.rows.length : Nat) : Int) == 0) = true := by rw [beq_iff_eq]; omega
        rw [hk0]
        clear hk0 hl
        generalize (if s.has ca = true then ((hits ca s.rows : Nat) : Int) else -1) = AT at *
        obtain ⟨k0, rfl, hr⟩ := h
        obtain ⟨a, c, rfl, hc, hm⟩ := hr.shape
        unfold maxLen at hm
        obtain ⟨kd, n, rows⟩ := s
        dsimp only at *
        obtain ⟨A, hA⟩ : ∃ A : Obj, A = .cells #[.int .i64 kd, .int .i64 n, .slice a rows.length c] 38 (0, 0) := ⟨_, rfl⟩
        obtain ⟨B, hB⟩ : ∃ B : Obj, B = .cells #[.int .i64 1, .string (S ca), .string (S cb), .int .i64 cn] 29 (0, 0) := ⟨_, rfl⟩
        obtain ⟨c0, c1, c2, k0, k1, k2, k3⟩ := B2.sc (w := w) hA hB
        have hst := B2.start w A B
        have hstd := hst.drew
        clear hr hkk hK hk hs hop
        go_enter Tryd.func16, Tryd.ntmps16
        go_wp2_with fail
        rw [← hA, ← hB]
        clear hA hB
        go_region_held3 (fun w' => B2 w A B w') (with_reducible (first | exact hstd | exact hst | (refine B2.below ?_ (by assumption) <;> assumption)))
          (first | (go_at_call 11; refine (unhide HKI _).mono ?_; rintro e wm ⟨rfl, hbm⟩) | fail)
        have hx0 : B2 w A B wm := by assumption
        clear hbm hst hstd HKI
        go_wp2_with fail
        refine (unhide HFI _ hx0.low).mono ?_
        rintro e w1 ⟨rfl, hb1⟩
        have hx1 := hx0.below hb1
        clear hb1
        go_wp2_with fail
        refine (unhide HO1 _).mono ?_
        rintro e w2 ⟨v2, rfl, hrow, hb2⟩
        have hx2 := hx1.below hb2
        clear hb2
        go_wp2_with fail
        go_ret
        exact ⟨_, rfl, hrow, hx2.low⟩
      · have hn : (((s.rows.length : Nat) : Int) == 0) = false := by rw [beq_eq_false_iff_ne]; omega
        have hn1 : (0 : Int) < ((s.rows.length : Nat) : Int) := by omega
        generalize (if s.has ca = true then ((hits ca s.rows : Nat) : Int) else -1) = AT at *
        obtain ⟨k0, rfl, hr⟩ := h
        obtain ⟨a, c, rfl, hc, hm⟩ := hr.shape
        unfold maxLen at hm
        obtain ⟨b, off, rfl, hbl, e1, e2⟩ := hr.at 0 (by omega)
        have hg : s.key 0 = (s.rows[0]'(by omega)).1 := by simp [VS.key, List.getD, show 0 < s.rows.length by omega]
        rw [hg]
        generalize s.rows[0]'(by omega) = q at *
        obtain ⟨x, y⟩ := q
        rw [Nat.zero_mul, Nat.add_zero] at e1
        clear hg hl
        obtain ⟨kd, n, rows⟩ := s
        dsimp only at *
        obtain ⟨A, hA⟩ : ∃ A : Obj, A = .cells #[.int .i64 kd, .int .i64 n, .slice (some ⟨b, off, none⟩) rows.length c] 38 (0, 0) := ⟨_, rfl⟩
        obtain ⟨B, hB⟩ : ∃ B : Obj, B = .cells #[.int .i64 1, .string (S ca), .string (S cb), .int .i64 cn] 29 (0, 0) := ⟨_, rfl⟩
        obtain ⟨c0, c1, c2, k0, k1, k2, k3⟩ := B2.sc (w := w) hA hB
        have hst := B2.start w A B
        have hstd := hst.drew
        clear hr hkk hK hk hs hop
        go_enter Tryd.func16, Tryd.ntmps16
        go_wp2_with fail
        rw [← hA, ← hB]
        clear hA hB
        go_region_held3 (fun w' => B2 w A B w') (with_reducible (first | exact hstd | exact hst | (refine B2.below ?_ (by assumption) <;> assumption)))
          (first | (go_at_call 11; refine (unhide HKI _).mono ?_; rintro e wm ⟨rfl, hbm⟩) | fail)
        have hx0 : B2 w A B wm := by assumption
        clear hbm hst hstd HKI
        go_wp2_with fail
        refine (unhide HFI _ hx0.low).mono ?_
        rintro e w1 ⟨rfl, hb1⟩
        have hx1 := hx0.below hb1
        clear hb1
        have hlow := hx1.low
        rw [← hlow.cell (p := ⟨b, off, none⟩) hbl] at e1
        clear e2 hlow
        go_wp2_with fail
        go_ret
        exact ⟨_, rfl, Row3.new _ ⟨1, x, 0⟩ _, hx1.low.trans (under_at hx1.low _)⟩
    · have hA : answers s ⟨2, ca, cb, cn⟩ = [okR true] := by unfold answers; rw [if_neg hkk]; rfl
      rw [hA]
      clear hA
      generalize (if s.has ca = true then ((hits ca s.rows : Nat) : Int) else -1) = AT at *
      have HO1 := hide (fun (w1 : World) => rok_any (w := w1) true)
      obtain ⟨k0, rfl, hr⟩ := h
      obtain ⟨a, c, rfl, hc, hm⟩ := hr.shape
      unfold maxLen at hm
      obtain ⟨kd, n, rows⟩ := s
      dsimp only at *
      obtain ⟨A, hA⟩ : ∃ A : Obj, A = .cells #[.int .i64 kd, .int .i64 n, .slice a rows.length c] 38 (0, 0) := ⟨_, rfl⟩
      obtain ⟨B, hB⟩ : ∃ B : Obj, B = .cells #[.int .i64 2, .string (S ca), .string (S cb), .int .i64 cn] 29 (0, 0) := ⟨_, rfl⟩
      obtain ⟨c0, c1, c2, k0, k1, k2, k3⟩ := B2.sc (w := w) hA hB
      have hst := B2.start w A B
      have hstd := hst.drew
      clear hr hkk hK hk hs hop
      go_enter Tryd.func16, Tryd.ntmps16
      go_wp2_with fail
      rw [← hA, ← hB]
      clear hA hB
      go_region_held3 (fun w' => B2 w A B w') (with_reducible (first | exact hstd | exact hst | (refine B2.below ?_ (by assumption) <;> assumption)))
        (first | (go_at_call 11; refine (unhide HKI _).mono ?_; rintro e wm ⟨rfl, hbm⟩) | fail)
      have hx0 : B2 w A B wm := by assumption
      clear hbm hst hstd HKI
      go_wp2_with fail
      refine (unhide HFI _ hx0.low).mono ?_
      rintro e w1 ⟨rfl, hb1⟩
      have hx1 := hx0.below hb1
      clear hb1
      go_wp2_with fail
      refine (unhide HO1 _).mono ?_
      rintro e w2 ⟨v2, rfl, hrow, hb2⟩
      have hx2 := hx1.below hb2
      clear hb2
      go_wp2_with fail
      go_ret
      exact ⟨_, rfl, hrow, hx2.low⟩
    · have hA : answers s ⟨3, ca, cb, cn⟩ = [okR true] := by unfold answers; rw [if_neg hkk]; rfl
      rw [hA]
      clear hA
      generalize (if s.has ca = true then ((hits ca s.rows : Nat) : Int) else -1) = AT at *
      have HO1 := hide (fun (w1 : World) => rok_any (w := w1) true)
      obtain ⟨k0, rfl, hr⟩ := h
      obtain ⟨a, c, rfl, hc, hm⟩ := hr.shape
      unfold maxLen at hm
      obtain ⟨kd, n, rows⟩ := s
      dsimp only at *
      obtain ⟨A, hA⟩ : ∃ A : Obj, A = .cells #[.int .i64 kd, .int .i64 n, .slice a rows.length c] 38 (0, 0) := ⟨_, rfl⟩
      obtain ⟨B, hB⟩ : ∃ B : Obj, B = .cells #[.int .i64 3, .string (S ca), .string (S cb), .int .i64 cn] 29 (0, 0) := ⟨_, rfl⟩
      obtain ⟨c0, c1, c2, k0, k1, k2, k3⟩ := B2.sc (w := w) hA hB
      have hst := B2.start w A B
      have hstd := hst.drew
      clear hr hkk hK hk hs hop
      go_enter Tryd.func16, Tryd.ntmps16
      go_wp2_with fail
      rw [← hA, ← hB]
      clear hA hB
      go_region_held3 (fun w' => B2 w A B w') (with_reducible (first | exact hstd | exact hst | (refine B2.below ?_ (by assumption) <;> assumption)))
        (first | (go_at_call 11; refine (unhide HKI _).mono ?_; rintro e wm ⟨rfl, hbm⟩) | fail)
      have hx0 : B2 w A B wm := by assumption
      clear hbm hst hstd HKI
      go_wp2_with fail
      refine (unhide HFI _ hx0.low).mono ?_
      rintro e w1 ⟨rfl, hb1⟩
      have hx1 := hx0.below hb1
      clear hb1
      go_wp2_with fail
      refine (unhide HO1 _).mono ?_
      rintro e w2 ⟨v2, rfl, hrow, hb2⟩
      have hx2 := hx1.below hb2
      clear hb2
      go_wp2_with fail
      go_ret
      exact ⟨_, rfl, hrow, hx2.low⟩
    · have hA : answers s ⟨4, ca, cb, cn⟩ = [⟨1, [], s.n⟩] := by unfold answers; rw [if_neg hkk]; rfl
      rw [hA]
      clear hA
      generalize (if s.has ca = true then ((hits ca s.rows : Nat) : Int) else -1) = AT at *
      obtain ⟨k0, rfl, hr⟩ := h
      obtain ⟨a, c, rfl, hc, hm⟩ := hr.shape
      unfold maxLen at hm
      obtain ⟨kd, n, rows⟩ := s
      dsimp only at *
      obtain ⟨A, hA⟩ : ∃ A : Obj, A = .cells #[.int .i64 kd, .int .i64 n, .slice a rows.length c] 38 (0, 0) := ⟨_, rfl⟩
      obtain ⟨B, hB⟩ : ∃ B : Obj, B = .cells #[.int .i64 4, .string (S ca), .string (S cb), .int .i64 cn] 29 (0, 0) := ⟨_, rfl⟩
      obtain ⟨c0, c1, c2, k0, k1, k2, k3⟩ := B2.sc (w := w) hA hB
      have hst := B2.start w A B
      have hstd := hst.drew
      clear hr hkk hK hk hs hop
      go_enter Tryd.func16, Tryd.ntmps16
      go_wp2_with fail
      rw [← hA, ← hB]
      clear hA hB
      go_region_held3 (fun w' => B2 w A B w') (with_reducible (first | exact hstd | exact hst | (refine B2.below ?_ (by assumption) <;> assumption)))
        (first | (go_at_call 11; refine (unhide HKI _).mono ?_; rintro e wm ⟨rfl, hbm⟩) | fail)
      have hx0 : B2 w A B wm := by assumption
      clear hbm hst hstd HKI
      go_wp2_with fail
      refine (unhide HFI _ hx0.low).mono ?_
      rintro e w1 ⟨rfl, hb1⟩
      have hx1 := hx0.below hb1
      clear hb1
      go_wp2_with fail
      go_ret
      exact ⟨_, rfl, Row3.new _ ⟨1, [], n⟩ _, hx1.low.trans (under_at hx1.low _)⟩
    · have hA : answers s ⟨5, ca, cb, cn⟩ = [okR true] := by unfold answers; rw [if_neg hkk]; rfl
      rw [hA]
      clear hA
      generalize (if s.has ca = true then ((hits ca s.rows : Nat) : Int) else -1) = AT at *
      have HO1 := hide (fun (w1 : World) => rok_any (w := w1) true)
      obtain ⟨k0, rfl, hr⟩ := h
      obtain ⟨a, c, rfl, hc, hm⟩ := hr.shape
      unfold maxLen at hm
      obtain ⟨kd, n, rows⟩ := s
      dsimp only at *
      obtain ⟨A, hA⟩ : ∃ A : Obj, A = .cells #[.int .i64 kd, .int .i64 n, .slice a rows.length c] 38 (0, 0) := ⟨_, rfl⟩
      obtain ⟨B, hB⟩ : ∃ B : Obj, B = .cells #[.int .i64 5, .string (S ca), .string (S cb), .int .i64 cn] 29 (0, 0) := ⟨_, rfl⟩
      obtain ⟨c0, c1, c2, k0, k1, k2, k3⟩ := B2.sc (w := w) hA hB
      have hst := B2.start w A B
      have hstd := hst.drew
      clear hr hkk hK hk hs hop
      go_enter Tryd.func16, Tryd.ntmps16
      go_wp2_with fail
      rw [← hA, ← hB]
      clear hA hB
      go_region_held3 (fun w' => B2 w A B w') (with_reducible (first | exact hstd | exact hst | (refine B2.below ?_ (by assumption) <;> assumption)))
        (first | (go_at_call 11; refine (unhide HKI _).mono ?_; rintro e wm ⟨rfl, hbm⟩) | fail)
      have hx0 : B2 w A B wm := by assumption
      clear hbm hst hstd HKI
      go_wp2_with fail
      refine (unhide HFI _ hx0.low).mono ?_
      rintro e w1 ⟨rfl, hb1⟩
      have hx1 := hx0.below hb1
      clear hb1
      go_wp2_with fail
      refine (unhide HO1 _).mono ?_
      rintro e w2 ⟨v2, rfl, hrow, hb2⟩
      have hx2 := hx1.below hb2
      clear hb2
      go_wp2_with fail
      go_ret
      exact ⟨_, rfl, hrow, hx2.low⟩
    · have hA : answers s ⟨6, ca, cb, cn⟩ = [okR (decide (cn ≤ s.n))] := by unfold answers; rw [if_neg hkk]; rfl
      rw [hA]
      clear hA
      generalize (if s.has ca = true then ((hits ca s.rows : Nat) : Int) else -1) = AT at *
      have HOK := hide (fun (w1 : World) => rok_any (w := w1) (decide (cn ≤ s.n)))
      generalize okR (decide (cn ≤ s.n)) = r at *
      obtain ⟨R, hR⟩ : ∃ R, decide (cn ≤ s.n) = R := ⟨_, rfl⟩
      rw [hR] at HOK
      obtain ⟨k0, rfl, hr⟩ := h
      obtain ⟨a, c, rfl, hc, hm⟩ := hr.shape
      unfold maxLen at hm
      obtain ⟨kd, n, rows⟩ := s
      dsimp only at *
      obtain ⟨A, hA⟩ : ∃ A : Obj, A = .cells #[.int .i64 kd, .int .i64 n, .slice a rows.length c] 38 (0, 0) := ⟨_, rfl⟩
      obtain ⟨B, hB⟩ : ∃ B : Obj, B = .cells #[.int .i64 6, .string (S ca), .string (S cb), .int .i64 cn] 29 (0, 0) := ⟨_, rfl⟩
      obtain ⟨c0, c1, c2, k0, k1, k2, k3⟩ := B2.sc (w := w) hA hB
      have hst := B2.start w A B
      have hstd := hst.drew
      clear hr hkk hK hk hs hop
      go_enter Tryd.func16, Tryd.ntmps16
      go_wp2_with fail
      rw [← hA, ← hB]
      clear hA hB
      go_region_held3 (fun w' => B2 w A B w') (with_reducible (first | exact hstd | exact hst | (refine B2.below ?_ (by assumption) <;> assumption)))
        (first | (go_at_call 11; refine (unhide HKI _).mono ?_; rintro e wm ⟨rfl, hbm⟩) | fail)
      have hx0 : B2 w A B wm := by assumption
      clear hbm hst hstd HKI
      go_wp2_with fail
      refine (unhide HFI _ hx0.low).mono ?_
      rintro e w1 ⟨rfl, hb1⟩
      have hx1 := hx0.below hb1
      clear hb1
      go_wp2_with fail
      refine (unhide HOK _).mono ?_
      rintro e w2 ⟨v2, rfl, hrow, hb2⟩
      have hx2 := hx1.below hb2
      clear hb2
      go_wp2_with fail
      go_ret
      exact ⟨_, rfl, hrow, hx2.low⟩
    · have hA : answers s ⟨7, ca, cb, cn⟩ = [⟨1, [], s.n⟩] := by unfold answers; rw [if_neg hkk]; rfl
      rw [hA]
      clear hA
      generalize (if s.has ca = true then ((hits ca s.rows : Nat) : Int) else -1) = AT at *
      obtain ⟨k0, rfl, hr⟩ := h
      obtain ⟨a, c, rfl, hc, hm⟩ := hr.shape
      unfold maxLen at hm
      obtain ⟨kd, n, rows⟩ := s
      dsimp only at *
      obtain ⟨A, hA⟩ : ∃ A : Obj, A = .cells #[.int .i64 kd, .int .i64 n, .slice a rows.length c] 38 (0, 0) := ⟨_, rfl⟩
      obtain ⟨B, hB⟩ : ∃ B : Obj, B = .cells #[.int .i64 7, .string (S ca), .string (S cb), .int .i64 cn] 29 (0, 0) := ⟨_, rfl⟩
      obtain ⟨c0, c1, c2, k0, k1, k2, k3⟩ := B2.sc (w := w) hA hB
      have hst := B2.start w A B
      have hstd := hst.drew
      clear hr hkk hK hk hs hop
      go_enter Tryd.func16, Tryd.ntmps16
      go_wp2_with fail
      rw [← hA, ← hB]
      clear hA hB
      go_region_held3 (fun w' => B2 w A B w') (with_reducible (first | exact hstd | exact hst | (refine B2.below ?_ (by assumption) <;> assumption)))
        (first | (go_at_call 11; refine (unhide HKI _).mono ?_; rintro e wm ⟨rfl, hbm⟩) | fail)
      have hx0 : B2 w A B wm := by assumption
      clear hbm hst hstd HKI
      go_wp2_with fail
      refine (unhide HFI _ hx0.low).mono ?_
      rintro e w1 ⟨rfl, hb1⟩
      have hx1 := hx0.below hb1
      clear hb1
      go_wp2_with fail
      go_ret
      exact ⟨_, rfl, Row3.new _ ⟨1, [], n⟩ _, hx1.low.trans (under_at hx1.low _)⟩
    · have hA : answers s ⟨8, ca, cb, cn⟩ = [okR (!s.has ca)] := by unfold answers; rw [if_neg hkk]; rfl
      rw [hA]
      clear hA
      have HOK := hide (fun (w1 : World) => rok_any (w := w1) (!s.has ca))
      generalize okR (!s.has ca) = r at *
      obtain ⟨R, hR⟩ : ∃ R, s.has ca = R := ⟨_, rfl⟩
      rw [hR] at HFI HOK
      clear hR
      generalize hits ca s.rows = P at *
      have hP0 : (0 : Int) ≤ (P : Int) := by omega
      have hP1 : ¬ (P : Int) < 0 := by omega
      cases R
      · rw [if_neg (by simp)] at HFI
        obtain ⟨k0, rfl, hr⟩ := h
        obtain ⟨a, c, rfl, hc, hm⟩ := hr.shape
        unfold maxLen at hm
        obtain ⟨kd, n, rows⟩ := s
        dsimp only at *
        obtain ⟨A, hA⟩ : ∃ A : Obj, A = .cells #[.int .i64 kd, .int .i64 n, .slice a rows.length c] 38 (0, 0) := ⟨_, rfl⟩
        obtain ⟨B, hB⟩ : ∃ B : Obj, B = .cells #[.int .i64 8, .string (S ca), .string (S cb), .int .i64 cn] 29 (0, 0) := ⟨_, rfl⟩
        obtain ⟨c0, c1, c2, k0, k1, k2, k3⟩ := B2.sc (w := w) hA hB
        have hst := B2.start w A B
        have hstd := hst.drew
        clear hr hkk hK hk hs hop
        go_enter Tryd.func16, Tryd.ntmps16
        go_wp2_with fail
        rw [← hA, ← hB]
        clear hA hB
        go_region_held3 (fun w' => B2 w A B w') (with_reducible (first | exact hstd | exact hst | (refine B2.below ?_ (by assumption) <;> assumption)))
          (first | (go_at_call 11; refine (unhide HKI _).mono ?_; rintro e wm ⟨rfl, hbm⟩) | fail)
        have hx0 : B2 w A B wm := by assumption
        clear hbm hst hstd HKI
        go_wp2_with fail
        refine (unhide HFI _ hx0.low).mono ?_
        rintro e w1 ⟨rfl, hb1⟩
        have hx1 := hx0.below hb1
        clear hb1
        go_wp2_with fail
        refine (unhide HOK _).mono ?_
        rintro e w2 ⟨v2, rfl, hrow, hb2⟩
        have hx2 := hx1.below hb2
        clear hb2
        go_wp2_with fail
        go_ret
        exact ⟨_, rfl, hrow, hx2.low⟩
      · rw [if_pos rfl] at HFI
        obtain ⟨k0, rfl, hr⟩ := h
        obtain ⟨a, c, rfl, hc, hm⟩ := hr.shape
        unfold maxLen at hm
        obtain ⟨kd, n, rows⟩ := s
        dsimp only at *
        obtain ⟨A, hA⟩ : ∃ A : Obj, A = .cells #[.int .i64 kd, .int .i64 n, .slice a rows.length c] 38 (0, 0) := ⟨_, rfl⟩
        obtain ⟨B, hB⟩ : ∃ B : Obj, B = .cells #[.int .i64 8, .string (S ca), .string (S cb), .int .i64 cn] 29 (0, 0) := ⟨_, rfl⟩
        obtain ⟨c0, c1, c2, k0, k1, k2, k3⟩ := B2.sc (w := w) hA hB
        have hst := B2.start w A B
        have hstd := hst.drew
        clear hr hkk hK hk hs hop
        go_enter Tryd.func16, Tryd.ntmps16
        go_wp2_with fail
        rw [← hA, ← hB]
        clear hA hB
        go_region_held3 (fun w' => B2 w A B w') (with_reducible (first | exact hstd | exact hst | (refine B2.below ?_ (by assumption) <;> assumption)))
          (first | (go_at_call 11; refine (unhide HKI _).mono ?_; rintro e wm ⟨rfl, hbm⟩) | fail)
        have hx0 : B2 w A B wm := by assumption
        clear hbm hst hstd HKI
        go_wp2_with fail
        refine (unhide HFI _ hx0.low).mono ?_
        rintro e w1 ⟨rfl, hb1⟩
        have hx1 := hx0.below hb1
        clear hb1
        go_wp2_with fail
        refine (unhide HOK _).mono ?_
        rintro e w2 ⟨v2, rfl, hrow, hb2⟩
        have hx2 := hx1.below hb2
        clear hb2
        go_wp2_with fail
        go_ret
        exact ⟨_, rfl, hrow, hx2.low⟩
    · have hA : answers s ⟨9, ca, cb, cn⟩ = [okR (s.has ca)] := by unfold answers; rw [if_neg hkk]; rfl
      rw [hA]
      clear hA
      have HOK := hide (fun (w1 : World) => rok_any (w := w1) (s.has ca))
      generalize okR (s.has ca) = r at *
      obtain ⟨R, hR⟩ : ∃ R, s.has ca = R := ⟨_, rfl⟩
      rw [hR] at HFI HOK
      clear hR
      generalize hits ca s.rows = P at *
      have hP0 : (0 : Int) ≤ (P : Int) := by omega
      have hP1 : ¬ (P : Int) < 0 := by omega
      cases R
      · rw [if_neg (by simp)] at HFI
        obtain ⟨k0, rfl, hr⟩ := h
        obtain ⟨a, c, rfl, hc, hm⟩ := hr.shape
        unfold maxLen at hm
        obtain ⟨kd, n, rows⟩ := s
        dsimp only at *
        obtain ⟨A, hA⟩ : ∃ A : Obj, A = .cells #[.int .i64 kd, .int .i64 n, .slice a rows.length c] 38 (0, 0) := ⟨_, rfl⟩
        obtain ⟨B, hB⟩ : ∃ B : Obj, B = .cells #[.int .i64 9, .string (S ca), .string (S cb), .int .i64 cn] 29 (0, 0) := ⟨_, rfl⟩
        obtain ⟨c0, c1, c2, k0, k1, k2, k3⟩ := B2.sc (w := w) hA hB
        have hst := B2.start w A B
        have hstd := hst.drew
        clear hr hkk hK hk hs hop
        go_enter Tryd.func16, Tryd.ntmps16
        go_wp2_with fail
        rw [← hA, ← hB]
        clear hA hB
        go_region_held3 (fun w' => B2 w A B w') (with_reducible (first | exact hstd | exact hst | (refine B2.below ?_ (by assumption) <;> assumption)))
          (first | (go_at_call 11; refine (unhide HKI _).mono ?_; rintro e wm ⟨rfl, hbm⟩) | fail)
        have hx0 : B2 w A B wm := by assumption
        clear hbm hst hstd HKI
        go_wp2_with fail
        refine (unhide HFI _ hx0.low).mono ?_
        rintro e w1 ⟨rfl, hb1⟩
        have hx1 := hx0.below hb1
        clear hb1
        go_wp2_with fail
        refine (unhide HOK _).mono ?_
        rintro e w2 ⟨v2, rfl, hrow, hb2⟩
        have hx2 := hx1.below hb2
        clear hb2
        go_wp2_with fail
        go_ret
        exact ⟨_, rfl, hrow, hx2.low⟩
      · rw [if_pos rfl] at HFI
        obtain ⟨k0, rfl, hr⟩ := h
        obtain ⟨a, c, rfl, hc, hm⟩ := hr.shape
        unfold maxLen at hm
        obtain ⟨kd, n, rows⟩ := s
        dsimp only at *
        obtain ⟨A, hA⟩ : ∃ A : Obj, A = .cells #[.int .i64 kd, .int .i64 n, .slice a rows.length c] 38 (0, 0) := ⟨_, rfl⟩
        obtain ⟨B, hB⟩ : ∃ B : Obj, B = .cells #[.int .i64 9, .string (S ca), .string (S cb), .int .i64 cn] 29 (0, 0) := ⟨_, rfl⟩
        obtain ⟨c0, c1, c2, k0, k1, k2, k3⟩ := B2.sc (w := w) hA hB
        have hst := B2.start w A B
        have hstd := hst.drew
        clear hr hkk hK hk hs hop
        go_enter Tryd.func16, Tryd.ntmps16
        go_wp2_with fail
        rw [← hA, ← hB]
        clear hA hB
        go_region_held3 (fun w' => B2 w A B w') (with_reducible (first | exact hstd | exact hst | (refine B2.below ?_ (by assumption) <;> assumption)))
          (first | (go_at_call 11; refine (unhide HKI _).mono ?_; rintro e wm ⟨rfl, hbm⟩) | fail)
        have hx0 : B2 w A B wm := by assumption
        clear hbm hst hstd HKI
        go_wp2_with fail
        refine (unhide HFI _ hx0.low).mono ?_
        rintro e w1 ⟨rfl, hb1⟩
        have hx1 := hx0.below hb1
        clear hb1
        go_wp2_with fail
        refine (unhide HOK _).mono ?_
        rintro e w2 ⟨v2, rfl, hrow, hb2⟩
        have hx2 := hx1.below hb2
        clear hb2
        go_wp2_with fail
        go_ret
        exact ⟨_, rfl, hrow, hx2.low⟩
    · have hA : answers s ⟨10, ca, cb, cn⟩ = [okR (s.has ca)] := by unfold answers; rw [if_neg hkk]; rfl
      rw [hA]
      clear hA
      have HOK := hide (fun (w1 : World) => rok_any (w := w1) (s.has ca))
      generalize okR (s.has ca) = r at *
      obtain ⟨R, hR⟩ : ∃ R, s.has ca = R := ⟨_, rfl⟩
      rw [hR] at HFI HOK
      clear hR
      generalize hits ca s.rows = P at *
      have hP0 : (0 : Int) ≤ (P : Int) := by omega
      have hP1 : ¬ (P : Int) < 0 := by omega
      cases R
      · rw [if_neg (by simp)] at HFI
        obtain ⟨k0, rfl, hr⟩ := h
        obtain ⟨a, c, rfl, hc, hm⟩ := hr.shape
        unfold maxLen at hm
        obtain ⟨kd, n, rows⟩ := s
        dsimp only at *
        obtain ⟨A, hA⟩ : ∃ A : Obj, A = .cells #[.int .i64 kd, .int .i64 n, .slice a rows.length c] 38 (0, 0) := ⟨_, rfl⟩
        obtain ⟨B, hB⟩ : ∃ B : Obj, B = .cells #[.int .i64 10, .string (S ca), .string (S cb), .int .i64 cn] 29 (0, 0) := ⟨_, rfl⟩
        obtain ⟨c0, c1, c2, k0, k1, k2, k3⟩ := B2.sc (w := w) hA hB
        have hst := B2.start w A B
        have hstd := hst.drew
        clear hr hkk hK hk hs hop
        go_enter Tryd.func16, Tryd.ntmps16
        go_wp2_with fail
        rw [← hA, ← hB]
        clear hA hB
        go_region_held3 (fun w' => B2 w A B w') (with_reducible (first | exact hstd | exact hst | (refine B2.below ?_ (by assumption) <;> assumption)))
          (first | (go_at_call 11; refine (unhide HKI _).mono ?_; rintro e wm ⟨rfl, hbm⟩) | fail)
        have hx0 : B2 w A B wm := by assumption
        clear hbm hst hstd HKI
        go_wp2_with fail
        refine (unhide HFI _ hx0.low).mono ?_
        rintro e w1 ⟨rfl, hb1⟩
        have hx1 := hx0.below hb1
        clear hb1
        go_wp2_with fail
        refine (unhide HOK _).mono ?_
        rintro e w2 ⟨v2, rfl, hrow, hb2⟩
        have hx2 := hx1.below hb2
        clear hb2
        go_wp2_with fail
        go_ret
        exact ⟨_, rfl, hrow, hx2.low⟩
      · rw [if_pos rfl] at HFI
        obtain ⟨k0, rfl, hr⟩ := h
        obtain ⟨a, c, rfl, hc, hm⟩ := hr.shape
        unfold maxLen at hm
        obtain ⟨kd, n, rows⟩ := s
        dsimp only at *
        obtain ⟨A, hA⟩ : ∃ A : Obj, A = .cells #[.int .i64 kd, .int .i64 n, .slice a rows.length c] 38 (0, 0) := ⟨_, rfl⟩
        obtain ⟨B, hB⟩ : ∃ B : Obj, B = .cells #[.int .i64 10, .string (S ca), .string (S cb), .int .i64 cn] 29 (0, 0) := ⟨_, rfl⟩
        obtain ⟨c0, c1, c2, k0, k1, k2, k3⟩ := B2.sc (w := w) hA hB
        have hst := B2.start w A B
        have hstd := hst.drew
        clear hr hkk hK hk hs hop
        go_enter Tryd.func16, Tryd.ntmps16
        go_wp2_with fail
        rw [← hA, ← hB]
        clear hA hB
        go_region_held3 (fun w' => B2 w A B w') (with_reducible (first | exact hstd | exact hst | (refine B2.below ?_ (by assumption) <;> assumption)))
          (first | (go_at_call 11; refine (unhide HKI _).mono ?_; rintro e wm ⟨rfl, hbm⟩) | fail)
        have hx0 : B2 w A B wm := by assumption
        clear hbm hst hstd HKI
        go_wp2_with fail
        refine (unhide HFI _ hx0.low).mono ?_
        rintro e w1 ⟨rfl, hb1⟩
        have hx1 := hx0.below hb1
        clear hb1
        go_wp2_with fail
        refine (unhide HOK _).mono ?_
        rintro e w2 ⟨v2, rfl, hrow, hb2⟩
        have hx2 := hx1.below hb2
        clear hb2
        go_wp2_with fail
        go_ret
        exact ⟨_, rfl, hrow, hx2.low⟩
    · have hA : answers s ⟨11, ca, cb, cn⟩ = [okR (!s.has ca)] := by unfold answers; rw [if_neg hkk]; rfl
      rw [hA]
      clear hA
      have HOK := hide (fun (w1 : World) => rok_any (w := w1) (!s.has ca))
      generalize okR (!s.has ca) = r at *
      obtain ⟨R, hR⟩ : ∃ R, s.has ca = R := ⟨_, rfl⟩
      rw [hR] at HFI HOK
      clear hR
      generalize hits ca s.rows = P at *
      have hP0 : (0 : Int) ≤ (P : Int) := by omega
      have hP1 : ¬ (P : Int) < 0 := by omega
      cases R
      · rw [if_neg (by simp)] at HFI
        obtain ⟨k0, rfl, hr⟩ := h
        obtain ⟨a, c, rfl, hc, hm⟩ := hr.shape
        unfold maxLen at hm
        obtain ⟨kd, n, rows⟩ := s
        dsimp only at *
        obtain ⟨A, hA⟩ : ∃ A : Obj, A = .cells #[.int .i64 kd, .int .i64 n, .slice a rows.length c] 38 (0, 0) := ⟨_, rfl⟩
        obtain ⟨B, hB⟩ : ∃ B : Obj, B = .cells #[.int .i64 11, .string (S ca), .string (S cb), .int .i64 cn] 29 (0, 0) := ⟨_, rfl⟩
        obtain ⟨c0, c1, c2, k0, k1, k2, k3⟩ := B2.sc (w := w) hA hB
        have hst := B2.start w A B
        have hstd := hst.drew
        clear hr hkk hK hk hs hop
        go_enter Tryd.func16, Tryd.ntmps16
        go_wp2_with fail
        rw [← hA, ← hB]
        clear hA hB
        go_region_held3 (fun w' => B2 w A B w') (with_reducible (first | exact hstd | exact hst | (refine B2.below ?_ (by assumption) <;> assumption)))
          (first | (go_at_call 11; refine (unhide HKI _).mono ?_; rintro e wm ⟨rfl, hbm⟩) | fail)
        have hx0 : B2 w A B wm := by assumption
        clear hbm hst hstd HKI
        go_wp2_with fail
        refine (unhide HFI _ hx0.low).mono ?_
        rintro e w1 ⟨rfl, hb1⟩
        have hx1 := hx0.below hb1
        clear hb1
        go_wp2_with fail
        refine (unhide HOK _).mono ?_
        rintro e w2 ⟨v2, rfl, hrow, hb2⟩
        have hx2 := hx1.below hb2
        clear hb2
        go_wp2_with fail
        go_ret
        exact ⟨_, rfl, hrow, hx2.low⟩
      · rw [if_pos rfl] at HFI
        obtain ⟨k0, rfl, hr⟩ := h
        obtain ⟨a, c, rfl, hc, hm⟩ := hr.shape
        unfold maxLen at hm
        obtain ⟨kd, n, rows⟩ := s
        dsimp only at *
        obtain ⟨A, hA⟩ : ∃ A : Obj, A = .cells #[.int .i64 kd, .int .i64 n, .slice a rows.length c] 38 (0, 0) := ⟨_, rfl⟩
        obtain ⟨B, hB⟩ : ∃ B : Obj, B = .cells #[.int .i64 11, .string (S ca), .string (S cb), .int .i64 cn] 29 (0, 0) := ⟨_, rfl⟩
        obtain ⟨c0, c1, c2, k0, k1, k2, k3⟩ := B2.sc (w := w) hA hB
        have hst := B2.start w A B
        have hstd := hst.drew
        clear hr hkk hK hk hs hop
        go_enter Tryd.func16, Tryd.ntmps16
        go_wp2_with fail
        rw [← hA, ← hB]
        clear hA hB
        go_region_held3 (fun w' => B2 w A B w') (with_reducible (first | exact hstd | exact hst | (refine B2.below ?_ (by assumption) <;> assumption)))
          (first | (go_at_call 11; refine (unhide HKI _).mono ?_; rintro e wm ⟨rfl, hbm⟩) | fail)
        have hx0 : B2 w A B wm := by assumption
        clear hbm hst hstd HKI
        go_wp2_with fail
        refine (unhide HFI _ hx0.low).mono ?_
        rintro e w1 ⟨rfl, hb1⟩
        have hx1 := hx0.below hb1
        clear hb1
        go_wp2_with fail
        refine (unhide HOK _).mono ?_
        rintro e w2 ⟨v2, rfl, hrow, hb2⟩
        have hx2 := hx1.below hb2
        clear hb2
        go_wp2_with fail
        go_ret
        exact ⟨_, rfl, hrow, hx2.low⟩
    · have hA : answers s ⟨12, ca, cb, cn⟩ = [okR (s.has ca)] := by unfold answers; rw [if_neg hkk]; rfl
      rw [hA]
      clear hA
      have HOK := hide (fun (w1 : World) => rok_any (w := w1) (s.has ca))
      generalize okR (s.has ca) = r at *
      obtain ⟨R, hR⟩ : ∃ R, s.has ca = R := ⟨_, rfl⟩
      rw [hR] at HFI HOK
      clear hR
      generalize hits ca s.rows = P at *
      have hP0 : (0 : Int) ≤ (P : Int) := by omega
      have hP1 : ¬ (P : Int) < 0 := by omega
      cases R
      · rw [if_neg (by simp)] at HFI
        obtain ⟨k0, rfl, hr⟩ := h
        obtain ⟨a, c, rfl, hc, hm⟩ := hr.shape
        unfold maxLen at hm
        obtain ⟨kd, n, rows⟩ := s
        dsimp only at *
        obtain ⟨A, hA⟩ : ∃ A : Obj, A = .cells #[.int .i64 kd, .int .i64 n, .slice a rows.length c] 38 (0, 0) := ⟨_, rfl⟩
        obtain ⟨B, hB⟩ : ∃ B : Obj, B = .cells #[.int .i64 12, .string (S ca), .string (S cb), .int .i64 cn] 29 (0, 0) := ⟨_, rfl⟩
        obtain ⟨c0, c1, c2, k0, k1, k2, k3⟩ := B2.sc (w := w) hA hB
        have hst := B2.start w A B
        have hstd := hst.drew
        clear hr hkk hK hk hs hop
        go_enter Tryd.func16, Tryd.ntmps16
        go_wp2_with fail
        rw [← hA, ← hB]
        clear hA hB
        go_region_held3 (fun w' => B2 w A B w') (with_reducible (first | exact hstd | exact hst | (refine B2.below ?_ (by assumption) <;> assumption)))
          (first | (go_at_call 11; refine (unhide HKI _).mono ?_; rintro e wm ⟨rfl, hbm⟩) | fail)
        have hx0 : B2 w A B wm := by assumption
        clear hbm hst hstd HKI
        go_wp2_with fail
        refine (unhide HFI _ hx0.low).mono ?_
        rintro e w1 ⟨rfl, hb1⟩
        have hx1 := hx0.below hb1
        clear hb1
        go_wp2_with fail
        refine (unhide HOK _).mono ?_
        rintro e w2 ⟨v2, rfl, hrow, hb2⟩
        have hx2 := hx1.below hb2
        clear hb2
        go_wp2_with fail
        go_ret
        exact ⟨_, rfl, hrow, hx2.low⟩
      · rw [if_pos rfl] at HFI
        obtain ⟨k0, rfl, hr⟩ := h
        obtain ⟨a, c, rfl, hc, hm⟩ := hr.shape
        unfold maxLen at hm
        obtain ⟨kd, n, rows⟩ := s
        dsimp only at *
        obtain ⟨A, hA⟩ : ∃ A : Obj, A = .cells #[.int .i64 kd, .int .i64 n, .slice a rows.length c] 38 (0, 0) := ⟨_, rfl⟩
        obtain ⟨B, hB⟩ : ∃ B : Obj, B = .cells #[.int .i64 12, .string (S ca), .string (S cb), .int .i64 cn] 29 (0, 0) := ⟨_, rfl⟩
        obtain ⟨c0, c1, c2, k0, k1, k2, k3⟩ := B2.sc (w := w) hA hB
        have hst := B2.start w A B
        have hstd := hst.drew
        clear hr hkk hK hk hs hop
        go_enter Tryd.func16, Tryd.ntmps16
        go_wp2_with fail
        rw [← hA, ← hB]
        clear hA hB
        go_region_held3 (fun w' => B2 w A B w') (with_reducible (first | exact hstd | exact hst | (refine B2.below ?_ (by assumption) <;> assumption)))
          (first | (go_at_call 11; refine (unhide HKI _).mono ?_; rintro e wm ⟨rfl, hbm⟩) | fail)
        have hx0 : B2 w A B wm := by assumption
        clear hbm hst hstd HKI
        go_wp2_with fail
        refine (unhide HFI _ hx0.low).mono ?_
        rintro e w1 ⟨rfl, hb1⟩
        have hx1 := hx0.below hb1
        clear hb1
        go_wp2_with fail
        refine (unhide HOK _).mono ?_
        rintro e w2 ⟨v2, rfl, hrow, hb2⟩
        have hx2 := hx1.below hb2
        clear hb2
        go_wp2_with fail
        go_ret
        exact ⟨_, rfl, hrow, hx2.low⟩
    · have hA : answers s ⟨13, ca, cb, cn⟩ = [lookR s ca] := by unfold answers; rw [if_neg hkk]; rfl
      rw [hA]
      clear hA
      have HO0 := hide (fun (w1 : World) => rok_any (w := w1) false)
      unfold lookR
      unfold VS.has at *
      by_cases hl : hits ca s.rows < s.rows.length
      · rw [decide_eq_true hl, if_pos rfl] at *
        obtain ⟨k0, rfl, hr⟩ := h
        obtain ⟨a, c, rfl, hc, hm⟩ := hr.shape
        unfold maxLen at hm
        obtain ⟨b, off, rfl, hbl, e1, e2⟩ := hr.at _ hl
        have hg : s.val (hits ca s.rows) = (s.rows[hits ca s.rows]'hl).2 := by simp [VS.val, List.getD, hl]
        rw [hg]
        generalize s.rows[hits ca s.rows]'hl = q at *
        generalize hits ca s.rows = P at *
        obtain ⟨x, y⟩ := q
        have hP0 : (0 : Int) ≤ (P : Int) := by omega
        have hP1 : ¬ (P : Int) < 0 := by omega
        have hP2 : (P : Int) < ((s.rows.length : Nat) : Int) := by omega
        clear hg hl
        obtain ⟨kd, n, rows⟩ := s
        dsimp only at *
        obtain ⟨A, hA⟩ : ∃ A : Obj, A = .cells #[.int .i64 kd, .int .i64 n, .slice (some ⟨b, off, none⟩) rows.length c] 38 (0, 0) := ⟨_, rfl⟩
        obtain ⟨B, hB⟩ : ∃ B : Obj, B = .cells #[.int .i64 13, .string (S ca), .string (S cb), .int .i64 cn] 29 (0, 0) := ⟨_, rfl⟩
        obtain ⟨c0, c1, c2, k0, k1, k2, k3⟩ := B2.sc (w := w) hA hB
        have hst := B2.start w A B
        have hstd := hst.drew
        clear hr hkk hK hk hs hop
        go_enter Tryd.func16, Tryd.ntmps16
        go_wp2_with fail
        rw [← hA, ← hB]
        clear hA hB
        go_region_held3 (fun w' => B2 w A B w') (with_reducible (first | exact hstd | exact hst | (refine B2.below ?_ (by assumption) <;> assumption)))
          (first | (go_at_call 11; refine (unhide HKI _).mono ?_; rintro e wm ⟨rfl, hbm⟩) | fail)
        have hx0 : B2 w A B wm := by assumption
        clear hbm hst hstd HKI
        go_wp2_with fail
        refine (unhide HFI _ hx0.low).mono ?_
        rintro e w1 ⟨rfl, hb1⟩
        have hx1 := hx0.below hb1
        clear hb1
        have hlow := hx1.low
        rw [← hlow.cell (p := ⟨b, off + P * 2 + 1, none⟩) hbl] at e2
        clear e1 hlow
        go_wp2_with fail
        go_ret
        exact ⟨_, rfl, Row3.new _ ⟨1, y, 0⟩ _, hx1.low.trans (under_at hx1.low _)⟩
      · rw [decide_eq_false hl] at *
        rw [if_neg (by simp)] at *
        obtain ⟨k0, rfl, hr⟩ := h
        obtain ⟨a, c, rfl, hc, hm⟩ := hr.shape
        unfold maxLen at hm
        generalize hits ca s.rows = P at *
        clear hl
        obtain ⟨kd, n, rows⟩ := s
        dsimp only at *
        obtain ⟨A, hA⟩ : ∃ A : Obj, A = .cells #[.int .i64 kd, .int .i64 n, .slice a rows.length c] 38 (0, 0) := ⟨_, rfl⟩
        obtain ⟨B, hB⟩ : ∃ B : Obj, B = .cells #[.int .i64 13, .string (S ca), .string (S cb), .int .i64 cn] 29 (0, 0) := ⟨_, rfl⟩
        obtain ⟨c0, c1, c2, k0, k1, k2, k3⟩ := B2.sc (w := w) hA hB
        have hst := B2.start w A B
        have hstd := hst.drew
        clear hr hkk hK hk hs hop
        go_enter Tryd.func16, Tryd.ntmps16
        go_wp2_with fail
        rw [← hA, ← hB]
        clear hA hB
        go_region_held3 (fun w' => B2 w A B w') (with_reducible (first | exact hstd | exact hst | (refine B2.below ?_ (by assumption) <;> assumption)))
          (first | (go_at_call 11; refine (unhide HKI _).mono ?_; rintro e wm ⟨rfl, hbm⟩) | fail)
        have hx0 : B2 w A B wm := by assumption
        clear hbm hst hstd HKI
        go_wp2_with fail
        refine (unhide HFI _ hx0.low).mono ?_
        rintro e w1 ⟨rfl, hb1⟩
        have hx1 := hx0.below hb1
        clear hb1
        go_wp2_with fail
        refine (unhide HO0 _).mono ?_
        rintro e w2 ⟨v2, rfl, hrow, hb2⟩
        have hx2 := hx1.below hb2
        clear hb2
        go_wp2_with fail
        go_ret
        exact ⟨_, rfl, hrow, hx2.low⟩
    · have hA : answers s ⟨14, ca, cb, cn⟩ = [okR true] := by unfold answers; rw [if_neg hkk]; rfl
      rw [hA]
      clear hA
      generalize (if s.has ca = true then ((hits ca s.rows : Nat) : Int) else -1) = AT at *
      have HO1 := hide (fun (w1 : World) => rok_any (w := w1) true)
      obtain ⟨k0, rfl, hr⟩ := h
      obtain ⟨a, c, rfl, hc, hm⟩ := hr.shape
      unfold maxLen at hm
      obtain ⟨kd, n, rows⟩ := s
      dsimp only at *
      obtain ⟨A, hA⟩ : ∃ A : Obj, A = .cells #[.int .i64 kd, .int .i64 n, .slice a rows.length c] 38 (0, 0) := ⟨_, rfl⟩
      obtain ⟨B, hB⟩ : ∃ B : Obj, B = .cells #[.int .i64 14, .string (S ca), .string (S cb), .int .i64 cn] 29 (0, 0) := ⟨_, rfl⟩
      obtain ⟨c0, c1, c2, k0, k1, k2, k3⟩ := B2.sc (w := w) hA hB
      have hst := B2.start w A B
      have hstd := hst.drew
      clear hr hkk hK hk hs hop
      go_enter Tryd.func16, Tryd.ntmps16
      go_wp2_with fail
      rw [← hA, ← hB]
      clear hA hB
      go_region_held3 (fun w' => B2 w A B w') (with_reducible (first | exact hstd | exact hst | (refine B2.below ?_ (by assumption) <;> assumption)))
        (first | (go_at_call 11; refine (unhide HKI _).mono ?_; rintro e wm ⟨rfl, hbm⟩) | fail)
      have hx0 : B2 w A B wm := by assumption
      clear hbm hst hstd HKI
      go_wp2_with fail
      refine (unhide HFI _ hx0.low).mono ?_
      rintro e w1 ⟨rfl, hb1⟩
      have hx1 := hx0.below hb1
      clear hb1
      go_wp2_with fail
      refine (unhide HO1 _).mono ?_
      rintro e w2 ⟨v2, rfl, hrow, hb2⟩
      have hx2 := hx1.below hb2
      clear hb2
      go_wp2_with fail
      go_ret
      exact ⟨_, rfl, hrow, hx2.low⟩
    · have hA : answers s ⟨15, ca, cb, cn⟩ = [frontR s] := by unfold answers; rw [if_neg hkk]; rfl
      rw [hA]
      clear hA
      have HTK := hide (fun (w1 : World) (hb : Below w.heap.size w w1) => rtaken_any (h.later hb) hs false)
      simp only [takeO_false, Bool.false_eq_true, if_false] at HTK
      generalize frontR s = T at *
      generalize (if s.has ca = true then ((hits ca s.rows : Nat) : Int) else -1) = AT at *
      obtain ⟨k0, rfl, hr⟩ := h
      obtain ⟨a, c, rfl, hc, hm⟩ := hr.shape
      unfold maxLen at hm
      obtain ⟨kd, n, rows⟩ := s
      dsimp only at *
      obtain ⟨A, hA⟩ : ∃ A : Obj, A = .cells #[.int .i64 kd, .int .i64 n, .slice a rows.length c] 38 (0, 0) := ⟨_, rfl⟩
      obtain ⟨B, hB⟩ : ∃ B : Obj, B = .cells #[.int .i64 15, .string (S ca), .string (S cb), .int .i64 cn] 29 (0, 0) := ⟨_, rfl⟩
      obtain ⟨c0, c1, c2, k0, k1, k2, k3⟩ := B2.sc (w := w) hA hB
      have hst := B2.start w A B
      have hstd := hst.drew
      clear hr hkk hK hk hs hop
      go_enter Tryd.func16, Tryd.ntmps16
      go_wp2_with fail
      rw [← hA, ← hB]
      clear hA hB
      go_region_held3 (fun w' => B2 w A B w') (with_reducible (first | exact hstd | exact hst | (refine B2.below ?_ (by assumption) <;> assumption)))
        (first | (go_at_call 11; refine (unhide HKI _).mono ?_; rintro e wm ⟨rfl, hbm⟩) | fail)
      have hx0 : B2 w A B wm := by assumption
      clear hbm hst hstd HKI
      go_wp2_with fail
      refine (unhide HFI _ hx0.low).mono ?_
      rintro e w1 ⟨rfl, hb1⟩
      have hx1 := hx0.below hb1
      clear hb1
      go_wp2_with fail
      refine (unhide HTK _ hx1.low).mono ?_
      rintro e w2 ⟨v2, rfl, hrow, hb2⟩
      have hx2 := hx1.below hb2
      clear hb2
      go_wp2_with fail
      go_ret
      exact ⟨_, rfl, hrow, hx2.low⟩
    · have hA : answers s ⟨16, ca, cb, cn⟩ = [okR true] := by unfold answers; rw [if_neg hkk]; rfl
      rw [hA]
      clear hA
      generalize (if s.has ca = true then ((hits ca s.rows : Nat) : Int) else -1) = AT at *
      have HO1 := hide (fun (w1 : World) => rok_any (w := w1) true)
      obtain ⟨k0, rfl, hr⟩ := h
      obtain ⟨a, c, rfl, hc, hm⟩ := hr.shape
      unfold maxLen at hm
      obtain ⟨kd, n, rows⟩ := s
      dsimp only at *
      obtain ⟨A, hA⟩ : ∃ A : Obj, A = .cells #[.int .i64 kd, .int .i64 n, .slice a rows.length c] 38 (0, 0) := ⟨_, rfl⟩
      obtain ⟨B, hB⟩ : ∃ B : Obj, B = .cells #[.int .i64 16, .string (S ca), .string (S cb), .int .i64 cn] 29 (0, 0) := ⟨_, rfl⟩
      obtain ⟨c0, c1, c2, k0, k1, k2, k3⟩ := B2.sc (w := w) hA hB
      have hst := B2.start w A B
      have hstd := hst.drew
      clear hr hkk hK hk hs hop
      go_enter Tryd.func16, Tryd.ntmps16
      go_wp2_with fail
      rw [← hA, ← hB]
      clear hA hB
      go_region_held3 (fun w' => B2 w A B w') (with_reducible (first | exact hstd | exact hst | (refine B2.below ?_ (by assumption) <;> assumption)))
        (first | (go_at_call 11; refine (unhide HKI _).mono ?_; rintro e wm ⟨rfl, hbm⟩) | fail)
      have hx0 : B2 w A B wm := by assumption
      clear hbm hst hstd HKI
      go_wp2_with fail
      refine (unhide HFI _ hx0.low).mono ?_
      rintro e w1 ⟨rfl, hb1⟩
      have hx1 := hx0.below hb1
      clear hb1
      go_wp2_with fail
      refine (unhide HO1 _).mono ?_
      rintro e w2 ⟨v2, rfl, hrow, hb2⟩
      have hx2 := hx1.below hb2
      clear hb2
      go_wp2_with fail
      go_ret
      exact ⟨_, rfl, hrow, hx2.low⟩
    · have hA : answers s ⟨17, ca, cb, cn⟩ = takes s := by unfold answers; rw [if_neg hkk]; rfl
      rw [hA]
      clear hA
      have HTK := hide (fun (w1 : World) (hb : Below w.heap.size w w1) => rtaken_any (h.later hb) hs true)
      simp only [takeO_true, if_true] at HTK
      generalize takes s = T at *
      generalize (if s.has ca = true then ((hits ca s.rows : Nat) : Int) else -1) = AT at *
      obtain ⟨k0, rfl, hr⟩ := h
      obtain ⟨a, c, rfl, hc, hm⟩ := hr.shape
      unfold maxLen at hm
      obtain ⟨kd, n, rows⟩ := s
      dsimp only at *
      obtain ⟨A, hA⟩ : ∃ A : Obj, A = .cells #[.int .i64 kd, .int .i64 n, .slice a rows.length c] 38 (0, 0) := ⟨_, rfl⟩
      obtain ⟨B, hB⟩ : ∃ B : Obj, B = .cells #[.int .i64 17, .string (S ca), .string (S cb), .int .i64 cn] 29 (0, 0) := ⟨_, rfl⟩
      obtain ⟨c0, c1, c2, k0, k1, k2, k3⟩ := B2.sc (w := w) hA hB
      have hst := B2.start w A B
      have hstd := hst.drew
      clear hr hkk hK hk hs hop
      go_enter Tryd.func16, Tryd.ntmps16
      go_wp2_with fail
      rw [← hA, ← hB]
      clear hA hB
      go_region_held3 (fun w' => B2 w A B w') (with_reducible (first | exact hstd | exact hst | (refine B2.below ?_ (by assumption) <;> assumption)))
        (first | (go_at_call 11; refine (unhide HKI _).mono ?_; rintro e wm ⟨rfl, hbm⟩) | fail)
      have hx0 : B2 w A B wm := by assumption
      clear hbm hst hstd HKI
      go_wp2_with fail
      refine (unhide HFI _ hx0.low).mono ?_
      rintro e w1 ⟨rfl, hb1⟩
      have hx1 := hx0.below hb1
      clear hb1
      go_wp2_with fail
      refine (unhide HTK _ hx1.low).mono ?_
      rintro e w2 ⟨v2, rfl, hrow, hb2⟩
      have hx2 := hx1.below hb2
      clear hb2
      go_wp2_with fail
      go_ret
      exact ⟨_, rfl, hrow, hx2.low⟩
  · have e0 : (K != s.kind) = true := by rw [bne_iff_ne]; exact hk
    have hkk : (mfact op).kind ≠ s.kind := by rw [hK]; exact hk
    rw [show answers s ⟨op, ca, cb, cn⟩ = [] by unfold answers; rw [if_pos hkk]]
    generalize (if s.has ca = true then ((hits ca s.rows : Nat) : Int) else -1) = AT at *
    obtain ⟨k0, rfl, hr⟩ := h
    obtain ⟨a, c, rfl, hc, hm⟩ := hr.shape
    unfold maxLen at hm
    obtain ⟨kd, n, rows⟩ := s
    dsimp only at *
    obtain ⟨A, hA⟩ : ∃ A : Obj, A = .cells #[.int .i64 kd, .int .i64 n, .slice a rows.length c] 38 (0, 0) := ⟨_, rfl⟩
    obtain ⟨B, hB⟩ : ∃ B : Obj, B = .cells #[.int .i64 op, .string (S ca), .string (S cb), .int .i64 cn] 29 (0, 0) := ⟨_, rfl⟩
    obtain ⟨c0, c1, c2, k0, k1, k2, k3⟩ := B2.sc (w := w) hA hB
    have hst := B2.start w A B
    have hstd := hst.drew
    clear hr hkk hK hk hs hop HFI
    go_enter Tryd.func16, Tryd.ntmps16
    go_wp2_with fail
    rw [← hA, ← hB]
    clear hA hB
    go_region_held3 (fun w' => B2 w A B w') (with_reducible (first | exact hstd | exact hst | (refine B2.below ?_ (by assumption) <;> assumption)))
      (first | (go_at_call 11; refine (unhide HKI _).mono ?_; rintro e wm ⟨rfl, hbm⟩) | fail)
    have hx0 : B2 w A B wm := by assumption
    clear hbm hst hstd HKI
    go_wp2_with fail
    go_ret
    exact ⟨_, rfl, Row3.nil _, hx0.low⟩
end Go.Proofs.YteaiidcconggcaaDoor
/- The contracts of slices.Index and Contains at answers, and of Legal, the program's and the document's. -/
namespace Go.Proofs.YteaiidcconggcaaDoor
open Go.RowKit
set_option linter.unusedVariables false
set_option maxRecDepth 100000

theorem not_mem_to {l : List MR} {r : MR} {k : Nat} (hk : k < l.length) (hno : ∀ j (h : j < l.length), j < k → l[j]'h ≠ r) (e : l[k]'hk ≠ r) : ∀ j (h : j < l.length), j < k + 1 → l[j]'h ≠ r := fun j h hj => by
  by_cases hjk : j = k
  · subst hjk; exact e
  · exact hno j h (by omega)
theorem not_mem_all {l : List MR} {r : MR} {k : Nat} (hk : ¬ k < l.length) (hno : ∀ j (h : j < l.length), j < k → l[j]'h ≠ r) : ¬ r ∈ l := fun h => by
  obtain ⟨j, hj, e⟩ := List.getElem_of_mem h
  exact hno j hj (by omega) e
theorem Bx.mr {w : World} {o : Obj} {a b c : Value} {t : TypeId} (ho : o = .cells #[a, b, c] t (0, 0)) : (∀ w1, Bx w o w1 → w1.cell? ⟨w.heap.size, 0, none⟩ = some a) ∧ (∀ w1, Bx w o w1 → w1.cell? ⟨w.heap.size, 1, none⟩ = some b) ∧ (∀ w1, Bx w o w1 → w1.cell? ⟨w.heap.size, 2, none⟩ = some c) := Bx.cells3 ho

set_option maxHeartbeats 3200000 in
theorem mindex_any {w : World} {v : Value} {l : List MR} (h : Row3 w v l) (r : MR) :
    Calls Tryd.prog 67 #[v, mrV r] w fun e w' => ∃ k : Int, e = .returned (.int .i64 k) ∧ (r ∈ l → 0 ≤ k) ∧ (¬ r ∈ l → k = -1) ∧ Below w.heap.size w w' := by
  obtain ⟨a, c, rfl, hc, hm⟩ := h.shape
  unfold maxLen at hm
  have HROW := hide h
  obtain ⟨y1, y2, y3⟩ := r
  unfold mrV
  dsimp only
  obtain ⟨B, hB⟩ : ∃ B : Obj, B = .cells #[.int .i64 y1, .string (S y2), .int .i64 y3] 26 (0, 0) := ⟨_, rfl⟩
  obtain ⟨c0, c1, c2⟩ := Bx.mr (w := w) hB
  have HST := hide (Bx.start w B)
  clear h
  go_enter Tryd.func67, Tryd.ntmps67
  go_wp2_with fail
  rw [← hB]
  clear hB
  go_loopw [8] (fun i wr => ∃ k : Nat, k ≤ l.length ∧ i = .int .i64 (k : Int) ∧ (∀ j (h : j < l.length), j < k → l[j]'h ≠ ⟨y1, y2, y3⟩) ∧ Bx w B wr) (fun i _ => l.length - (intOf i).toNat)
  case atStart => exact ⟨0, Nat.zero_le _, rfl, fun j _ hj => by omega, unhide HST⟩
  case round =>
    obtain ⟨k, hk, rfl, hno, hbx⟩ := hrel
    have hlow := hbx.low
    by_cases hlt : k < l.length
    · obtain ⟨b, off, rfl, hbl, e1, e2, e3⟩ := (unhide HROW).at k hlt
      rw [← hlow.cell (p := ⟨b, off + k * 3, none⟩) hbl] at e1
      rw [← hlow.cell (p := ⟨b, off + k * 3 + 1, none⟩) hbl] at e2
      rw [← hlow.cell (p := ⟨b, off + k * 3 + 2, none⟩) hbl] at e3
      have HIN := hide (List.getElem_mem hlt)
      have HN := hide (fun e => not_mem_to hlt hno e)
      generalize l[k]'hlt = q at *
      obtain ⟨x1, x2, x3⟩ := q
      dsimp only at *
      have hi0 : (0 : Int) ≤ (k : Int) := by omega
      have hi1 : (k : Int) < ((l.length : Nat) : Int) := by omega
      have HBX : ∀ q, Hid (Bx w B (wr.drewN q)) := fun q => Below.trans hbx (drewN_low _ q)
      have d0 := c0 _ hbx
      have d1 := c1 _ hbx
      have d2 := c2 _ hbx
      clear hno hlow c0 c1 c2 hbx
      by_cases hx : x1 = y1
      · have s1 : (y1 == x1) = true := by rw [beq_iff_eq]; exact hx.symm
        by_cases hy : x2 = y2
        · have s2 := S_eq y2 x2
          rw [decide_eq_true hy.symm] at s2
          by_cases hz : x3 = y3
          · have s3 : (y3 == x3) = true := by rw [beq_iff_eq]; exact hz.symm
            have heq : (⟨x1, x2, x3⟩ : MR) = ⟨y1, y2, y3⟩ := by rw [hx, hy, hz]
            have HI2 : Hid ((⟨y1, y2, y3⟩ : MR) ∈ l) := by
              have := unhide HIN
              rw [heq] at this
              exact this
            clear hx hy hz HN HIN heq
            go_wp2_with fail
            go_quiet (fail)
            go_wp2_with fail
            go_ret
            exact ⟨_, rfl, fun _ => by omega, fun h => absurd (unhide HI2) h, (unhide (HBX _)).low⟩
          · have s3 : (y3 == x3) = false := by rw [beq_eq_false_iff_ne]; exact fun e => hz e.symm
            have hne3 : (⟨x1, x2, x3⟩ : MR) ≠ ⟨y1, y2, y3⟩ := by simp [hz]
            have HN2 := hide (unhide HN hne3)
            clear hne3 HN HIN
            go_wp2_with fail
            go_quiet (fail)
            go_wp2_with fail
            go_roundw
            case rel => exact ⟨k + 1, by omega, by go_num, unhide HN2, unhide (HBX _)⟩
            case measure => simp [intOf]; omega
        · have s2 := S_eq y2 x2
          rw [decide_eq_false (fun e => hy e.symm)] at s2
          have hne3 : (⟨x1, x2, x3⟩ : MR) ≠ ⟨y1, y2, y3⟩ := by simp [hy]
          have HN2 := hide (unhide HN hne3)
          clear hne3 HN HIN
          go_wp2_with fail
          go_quiet (fail)
          go_wp2_with fail
          go_roundw
          case rel => exact ⟨k + 1, by omega, by go_num, unhide HN2, unhide (HBX _)⟩
          case measure => simp [intOf]; omega
      · have s1 : (y1 == x1) = false := by rw [beq_eq_false_iff_ne]; exact fun e => hx e.symm
        have hne3 : (⟨x1, x2, x3⟩ : MR) ≠ ⟨y1, y2, y3⟩ := by simp [hx]
        have HN2 := hide (unhide HN hne3)
        clear hne3 HN HIN
        go_wp2_with fail
        go_quiet (fail)
        go_wp2_with fail
        go_roundw
        case rel => exact ⟨k + 1, by omega, by go_num, unhide HN2, unhide (HBX _)⟩
        case measure => simp [intOf]; omega
    · have HNM := hide (not_mem_all hlt hno)
      have HL := hide hlow
      have hkn : k = l.length := by omega
      clear hno hlow hbx
      subst hkn
      go_wp2_with fail
      go_ret
      exact ⟨_, rfl, fun h => absurd h (unhide HNM), fun _ => rfl, unhide HL⟩
theorem mcontains_any {w : World} {v : Value} {l : List MR} (h : Row3 w v l) (r : MR) :
    Calls Tryd.prog 59 #[v, mrV r] w fun e w' => e = .returned (.bool (decide (r ∈ l))) ∧ Below w.heap.size w w' := by
  have HIX := hide (fun (w1 : World) (hb : Below w.heap.size w w1) => mindex_any (h.later hb) r)
  obtain ⟨a, c, rfl, hc, hm⟩ := h.shape
  have HST := hide (under_box (w := w) (.cells #[.int .i64 r.code, .string (S r.text), .int .i64 r.n] 26))
  unfold mrV at *
  by_cases hin : r ∈ l
  · rw [decide_eq_true hin]
    go_enter Tryd.func59, Tryd.ntmps59
    go_wp2_with fail
    refine (unhide HIX _ (unhide HST)).mono ?_
    rintro e w1 ⟨k, rfl, hk, _, hb⟩
    have hk0 := hk hin
    have HL := hide ((unhide HST).trans (hb.mono (by simp)))
    clear hb hk hin h
    go_wp2_with fail
    go_ret
    exact ⟨rfl, unhide HL⟩
  · rw [decide_eq_false hin]
    go_enter Tryd.func59, Tryd.ntmps59
    go_wp2_with fail
    refine (unhide HIX _ (unhide HST)).mono ?_
    rintro e w1 ⟨k, rfl, _, hk, hb⟩
    have hk0 := hk hin
    subst hk0
    have HL := hide ((unhide HST).trans (hb.mono (by simp)))
    clear hb hk hin h
    go_wp2_with fail
    go_ret
    exact ⟨rfl, unhide HL⟩

/- Behind three new boxes: a state's, a call's, an answer's. -/
def B3 (w : World) (A B C : Obj) (w1 : World) : Prop := Below (w.heap.size + 1 + 1 + 1) (((w.alloc A).alloc B).alloc C) w1
section
variable {w w1 w2 : World} {A B C : Obj}
theorem B3.start (w : World) (A B C : Obj) : B3 w A B C (((w.alloc A).alloc B).alloc C) := Below.refl _ _
theorem B3.drew (h : B3 w A B C w1) : B3 w A B C w1.drew := Below.drew h
theorem B3.size (h : B3 w A B C w1) : w.heap.size + 1 + 1 + 1 ≤ w1.heap.size := by
  have hs := Below.size h
  rwa [World.size_alloc, World.size_alloc, World.size_alloc] at hs
theorem B3.below (h : B3 w A B C w1) (hb : Below w1.heap.size w1 w2) : B3 w A B C w2 := Below.trans h (hb.mono h.size)
theorem B3.low (h : B3 w A B C w1) : Below w.heap.size w w1 := ((under_two w A B).alloc (by simp; omega) C).trans (Below.mono h (by omega))
theorem B3.heap (h : B3 w A B C w1) : w1.heap[w.heap.size]? = some A ∧ w1.heap[w.heap.size + 1]? = some B ∧ w1.heap[w.heap.size + 1 + 1]? = some C := by
  refine ⟨?_, ?_, ?_⟩
  · rw [Below.block h _ (by omega), Below.heap_alloc _ _ _ (by simp; omega), Below.heap_alloc _ _ _ (by simp)]; exact heap_alloc_new w _
  · rw [Below.block h _ (by omega), Below.heap_alloc _ _ _ (by simp)]
    have := heap_alloc_new (w.alloc A) B
    rwa [World.size_alloc] at this
  · rw [Below.block h _ (by omega)]
    have := heap_alloc_new ((w.alloc A).alloc B) C
    rwa [World.size_alloc, World.size_alloc] at this
theorem B3.scr {a b c a' b' c' d' x y z : Value} {t t' t'' : TypeId} (hA : A = .cells #[a, b, c] t (0, 0)) (hB : B = .cells #[a', b', c', d'] t' (0, 0)) (hC : C = .cells #[x, y, z] t'' (0, 0)) :
    (∀ w1, B3 w A B C w1 → w1.cell? ⟨w.heap.size, 0, none⟩ = some a) ∧ (∀ w1, B3 w A B C w1 → w1.cell? ⟨w.heap.size, 1, none⟩ = some b) ∧ (∀ w1, B3 w A B C w1 → w1.cell? ⟨w.heap.size, 2, none⟩ = some c) ∧
    (∀ w1, B3 w A B C w1 → w1.cell? ⟨w.heap.size + 1, 0, none⟩ = some a') ∧ (∀ w1, B3 w A B C w1 → w1.cell? ⟨w.heap.size + 1, 1, none⟩ = some b') ∧ (∀ w1, B3 w A B C w1 → w1.cell? ⟨w.heap.size + 1, 2, none⟩ = some c') ∧ (∀ w1, B3 w A B C w1 → w1.cell? ⟨w.heap.size + 1, 3, none⟩ = some d') ∧
    (∀ w1, B3 w A B C w1 → w1.cell? ⟨w.heap.size + 1 + 1, 0, none⟩ = some x) ∧ (∀ w1, B3 w A B C w1 → w1.cell? ⟨w.heap.size + 1 + 1, 1, none⟩ = some y) ∧ (∀ w1, B3 w A B C w1 → w1.cell? ⟨w.heap.size + 1 + 1, 2, none⟩ = some z) := by
  subst hA hB hC
  refine ⟨fun w1 h => ?_, fun w1 h => ?_, fun w1 h => ?_, fun w1 h => ?_, fun w1 h => ?_, fun w1 h => ?_, fun w1 h => ?_, fun w1 h => ?_, fun w1 h => ?_, fun w1 h => ?_⟩ <;> first | (rw [block_cell h.heap.1]; rfl) | (rw [block_cell h.heap.2.1]; rfl) | (rw [block_cell h.heap.2.2]; rfl)
end

set_option maxHeartbeats 6400000 in
theorem alegal_any {w : World} {v : Value} {s : VS} {c : MC} (h : StAt w v s) (hs : s.rows.length ≤ 1000) (hop : okOp c.op) (hw : MD w) (r : MR) :
    Calls Tryd.prog 40 #[v, mcV c, mrV r] w fun e w' => e = .returned (.bool (legal s c r)) ∧ Below w.heap.size w w' := by
  have HAN := hide (fun (w1 : World) (hb : Below w.heap.size w w1) => aanswers_any (c := c) (h.later hb) hs hop (hw.later hb))
  unfold legal
  obtain ⟨R, hR⟩ : ∃ R, decide (r ∈ answers s c) = R := ⟨_, rfl⟩
  have HCO : Hid (∀ (w1 : World) (x : Value) (hx : Row3 w1 x (answers s c)), Calls Tryd.prog 59 #[x, mrV r] w1 fun e w' => e = .returned (.bool R) ∧ Below w1.heap.size w1 w') := fun w1 x hx => by rw [← hR]; exact mcontains_any hx r
  rw [hR]
  clear hR
  generalize answers s c = T at *
  obtain ⟨k0, rfl, hr⟩ := h
  obtain ⟨a, cc, rfl, hc, hm⟩ := hr.shape
  obtain ⟨kd, n, rows⟩ := s
  obtain ⟨op, ca, cb, cn⟩ := c
  obtain ⟨y1, y2, y3⟩ := r
  unfold mcV mrV at *
  dsimp only at *
  obtain ⟨A, hA⟩ : ∃ A : Obj, A = .cells #[.int .i64 kd, .int .i64 n, .slice a rows.length cc] 47 (0, 0) := ⟨_, rfl⟩
  obtain ⟨B, hB⟩ : ∃ B : Obj, B = .cells #[.int .i64 op, .string (S ca), .string (S cb), .int .i64 cn] 24 (0, 0) := ⟨_, rfl⟩
  obtain ⟨C, hC⟩ : ∃ C : Obj, C = .cells #[.int .i64 y1, .string (S y2), .int .i64 y3] 26 (0, 0) := ⟨_, rfl⟩
  obtain ⟨c0, c1, c2, k0, k1, k2, k3, r0, r1, r2⟩ := B3.scr (w := w) hA hB hC
  have hst := B3.start w A B C
  have hstd := hst.drew
  clear hr hw hs hop
  go_enter Tryd.func40, Tryd.ntmps40
  go_wp2_with fail
  rw [← hA, ← hB, ← hC]
  clear hA hB hC
  go_region_held3 (fun w' => B3 w A B C w') (with_reducible (first | exact hstd | exact hst | (refine B3.below ?_ (by assumption) <;> assumption)))
    (first | (go_at_call 60; refine (unhide HAN _ (B3.low (by assumption))).mono ?_; rintro e wa ⟨va, rfl, hrow, hba⟩; obtain ⟨sa, sc, rfl, _, _⟩ := hrow.shape) | (go_at_call 59; refine (unhide HCO _ _ (by first | exact hrow | exact hrow.later (by assumption))).mono ?_; rintro e wb ⟨rfl, hbb⟩) | fail)
  all_goals
    have hx0 : B3 w A B C wb := by assumption
    have HL := hide hx0.low
    clear hbb hst hstd HAN HCO hx0
    go_wp2_with fail
    go_ret
    exact ⟨rfl, unhide HL⟩
set_option maxHeartbeats 6400000 in
theorem rlegal_any {w : World} {v : Value} {s : VS} {c : MC} (h : StAt w v s) (hs : s.rows.length ≤ 1000) (hop : okOp c.op) (r : MR) :
    Calls Tryd.prog 36 #[v, mcV c, mrV r] w fun e w' => e = .returned (.bool (legal s c r)) ∧ Below w.heap.size w w' := by
  have HAN := hide (fun (w1 : World) (hb : Below w.heap.size w w1) => ranswers_any (c := c) (h.later hb) hs hop)
  unfold legal
  generalize answers s c = l at *
  obtain ⟨k0, rfl, hr⟩ := h
  obtain ⟨a, cc, rfl, hc, hm⟩ := hr.shape
  obtain ⟨kd, n, rows⟩ := s
  obtain ⟨op, ca, cb, cn⟩ := c
  obtain ⟨R, hR⟩ : ∃ R, decide (r ∈ l) = R := ⟨_, rfl⟩
  have HR := hide hR
  rw [hR]
  obtain ⟨y1, y2, y3⟩ := r
  unfold mcV mrV at *
  dsimp only at *
  obtain ⟨A, hA⟩ : ∃ A : Obj, A = .cells #[.int .i64 kd, .int .i64 n, .slice a rows.length cc] 38 (0, 0) := ⟨_, rfl⟩
  obtain ⟨B, hB⟩ : ∃ B : Obj, B = .cells #[.int .i64 op, .string (S ca), .string (S cb), .int .i64 cn] 29 (0, 0) := ⟨_, rfl⟩
  obtain ⟨C, hC⟩ : ∃ C : Obj, C = .cells #[.int .i64 y1, .string (S y2), .int .i64 y3] 30 (0, 0) := ⟨_, rfl⟩
  obtain ⟨c0, c1, c2, k0, k1, k2, k3, r0, r1, r2⟩ := B3.scr (w := w) hA hB hC
  have HST := hide (B3.start w A B C)
  clear hr hs hop hR
  go_enter Tryd.func36, Tryd.ntmps36
  go_wp2_with fail
  rw [← hA, ← hB, ← hC]
  have hst := unhide HST
  clear hA hB hC
  refine (unhide HAN _ hst.low).mono ?_
  rintro e wa ⟨va, rfl, hrow, hba⟩
  obtain ⟨sa, sc, rfl, hsc, hsm⟩ := hrow.shape
  unfold maxLen at hsm
  have HXA := hide (hst.below hba)
  have HROW := hide hrow
  clear hst hba hrow HAN HST
  go_wp2_with fail
  go_loopw [13] (fun i wr => ∃ k : Nat, k ≤ l.length ∧ i = .int .i64 (k : Int) ∧ (∀ j (h : j < l.length), j < k → l[j]'h ≠ ⟨y1, y2, y3⟩) ∧ B3 w A B C wr ∧ Below wa.heap.size wa wr) (fun i _ => l.length - (intOf i).toNat)
  case atStart => exact ⟨0, Nat.zero_le _, rfl, fun j _ hj => by omega, unhide HXA, Below.refl _ _⟩
  case round =>
    obtain ⟨k, hk, rfl, hno, hbx, hlow⟩ := hrel
    by_cases hlt : k < l.length
    · obtain ⟨b, off, rfl, hbl, e1, e2, e3⟩ := (unhide HROW).at k hlt
      rw [← hlow.cell (p := ⟨b, off + k * 3, none⟩) hbl] at e1
      rw [← hlow.cell (p := ⟨b, off + k * 3 + 1, none⟩) hbl] at e2
      rw [← hlow.cell (p := ⟨b, off + k * 3 + 2, none⟩) hbl] at e3
      have HIN := hide (List.getElem_mem hlt)
      have HN := hide (fun e => not_mem_to hlt hno e)
      generalize l[k]'hlt = q at *
      obtain ⟨x1, x2, x3⟩ := q
      dsimp only at *
      have hi0 : (0 : Int) ≤ (k : Int) := by omega
      have hi1 : (k : Int) < ((l.length : Nat) : Int) := by omega
      have hne : wr.heap.size ≠ b := by have := hlow.size; omega
      have d0 := fun o => r0 _ (hbx.below (under_box o))
      have d1 := fun o => r1 _ (hbx.below (under_box o))
      have d2 := fun o => r2 _ (hbx.below (under_box o))
      have HBX := hide (fun o => hbx.below (under_box o))
      have HLW := hide (fun (o : Obj) => hlow.alloc hlow.size o)
      clear hno hlow hbx c0 c1 c2 k0 k1 k2 k3 r0 r1 r2
      by_cases hx : x1 = y1
      · have s1 : (x1 == y1) = true := by rw [beq_iff_eq]; exact hx
        by_cases hy : x2 = y2
        · have s2 := S_eq x2 y2
          rw [decide_eq_true hy] at s2
          by_cases hz : x3 = y3
          · have s3 : (x3 == y3) = true := by rw [beq_iff_eq]; exact hz
            have heq : (⟨x1, x2, x3⟩ : MR) = ⟨y1, y2, y3⟩ := by rw [hx, hy, hz]
            have HI2 : Hid ((⟨y1, y2, y3⟩ : MR) ∈ l) := by
              have := unhide HIN
              rw [heq] at this
              exact this
            have hRt : R = true := by rw [← unhide HR]; exact decide_eq_true (unhide HI2)
            subst hRt
            clear hx hy hz HN HIN heq
            go_wp2_with fail
            go_ret
            exact ⟨rfl, ((unhide HBX) _).low⟩
          · have s3 : (x3 == y3) = false := by rw [beq_eq_false_iff_ne]; exact hz
            have hne3 : (⟨x1, x2, x3⟩ : MR) ≠ ⟨y1, y2, y3⟩ := by simp [hz]
            have HN2 := hide (unhide HN hne3)
            clear hne3 HN HIN
            go_wp2_with fail
            go_roundw
            case rel => exact ⟨k + 1, by omega, by go_num, unhide HN2, (unhide HBX) _, unhide HLW _⟩
            case measure => simp [intOf]; omega
        · have s2 := S_eq x2 y2
          rw [decide_eq_false hy] at s2
          have hne3 : (⟨x1, x2, x3⟩ : MR) ≠ ⟨y1, y2, y3⟩ := by simp [hy]
          have HN2 := hide (unhide HN hne3)
          clear hne3 HN HIN
          go_wp2_with fail
          go_roundw
          case rel => exact ⟨k + 1, by omega, by go_num, unhide HN2, (unhide HBX) _, unhide HLW _⟩
          case measure => simp [intOf]; omega
      · have s1 : (x1 == y1) = false := by rw [beq_eq_false_iff_ne]; exact hx
        have hne3 : (⟨x1, x2, x3⟩ : MR) ≠ ⟨y1, y2, y3⟩ := by simp [hx]
        have HN2 := hide (unhide HN hne3)
        clear hne3 HN HIN
        go_wp2_with fail
        go_roundw
        case rel => exact ⟨k + 1, by omega, by go_num, unhide HN2, (unhide HBX) _, unhide HLW _⟩
        case measure => simp [intOf]; omega
    · have hRf : R = false := by rw [← unhide HR]; exact decide_eq_false (not_mem_all hlt hno)
      subst hRf
      have HL := hide hbx.low
      have hkn : k = l.length := by omega
      clear hno hlow hbx
      subst hkn
      go_wp2_with fail
      go_ret
      exact ⟨rfl, unhide HL⟩
end Go.Proofs.YteaiidcconggcaaDoor
/- The contracts of a state's Without, and of adt's without, written, plus. -/
namespace Go.Proofs.YteaiidcconggcaaDoor
open Go.RowKit
set_option linter.unusedVariables false
set_option maxRecDepth 100000

/- A box of three cells is written, and all that is behind it stays. -/
theorem give3 {w w1 : World} {N : Nat} {a b c : Value} {t : TypeId} (hl : Below w.heap.size w w1) (hN : w.heap.size ≤ N) (hh : w1.heap[N]? = some (.cells #[a, b, c] t (0, 0))) (x y z : Value) :
    (put3 w1 N x y z).cell? ⟨N, 0, none⟩ = some x ∧ (put3 w1 N x y z).cell? ⟨N, 1, none⟩ = some y ∧ (put3 w1 N x y z).cell? ⟨N, 2, none⟩ = some z ∧ Below w.heap.size w (put3 w1 N x y z) ∧
    (∀ (base k : Nat) (u : Value) (nn : Nat) (xs : List Value) (e : TypeId), N < base → w1.ownsRow base e k u nn xs → (put3 w1 N x y z).ownsRow w.heap.size e k u nn xs) ∧
    w1.cell? ⟨N, 0, none⟩ = some a ∧ w1.cell? ⟨N, 1, none⟩ = some b ∧ w1.cell? ⟨N, 2, none⟩ = some c ∧ ∀ j, w1.frozen? ⟨N, j, none⟩ = false := by
  obtain ⟨p0, p1, p2⟩ := put3_cells hh x y z
  refine ⟨p0, p1, p2, ⟨hl.os, hl.tape, hl.output, by rw [put3_size]; exact hl.size, fun j hj => ?_⟩, fun base k u nn xs e hbs hu => ownsRow_less (ownsRow_same hu fun j hj => ?_) (by omega), by rw [block_cell hh]; rfl, by rw [block_cell hh]; rfl, by rw [block_cell hh]; rfl, fun j => block_frozen hh j⟩
  · rw [put3_other _ _ _ _ (by omega)]; exact hl.block j hj
  · have := (hu.lt j hj).1
    rw [put3_other _ _ _ _ (by omega)]
theorem vlow_one {w wr : World} {B : Nat} (h : Below B w wr) (hB : B ≤ wr.heap.size) (o : Obj) : Below B w ((wr.alloc o).drew) := (h.alloc hB o).drew
theorem B2.drew' {w w1 : World} {A B : Obj} (h : B2 w A B w1) : B2 w A B w1.drew := Below.drew h
theorem B2.on {w w1 w2 : World} {A B : Obj} (h : B2 w A B w1) (hb : Below w1.heap.size w1 w2) : B2 w A B w2 := by
  have hs := Below.size h
  rw [World.size_alloc, World.size_alloc] at hs
  exact Below.trans h (hb.mono hs)

set_option maxHeartbeats 6400000 in
theorem vwithout_any {base : Nat} {w : World} {v : Value} {s : VS} (h : StOwn base 82 w v s) (hs : s.rows.length ≤ 1000) (P : Nat) (hP : P < s.rows.length) :
    Calls Tryd.prog 78 #[v, .int .i64 (P : Int)] w fun e w' => ∃ v', e = .returned v' ∧ StOwn w.heap.size 82 w' v' (s.without P) ∧ Below w.heap.size w w' := by
  have hr := h.at
  obtain ⟨k, rfl, hr⟩ := hr
  obtain ⟨a, c, rfl, hc, hm⟩ := hr.shape
  unfold maxLen at hm
  obtain ⟨kd, n, rows⟩ := s
  unfold VS.without
  dsimp only at *
  obtain ⟨a1, c1, hs1, hr1⟩ := hr.ahead P (by omega)
  obtain ⟨Q, hQ⟩ : ∃ Q, P + 1 = Q := ⟨_, rfl⟩
  rw [List.eraseIdx_eq_take_drop_succ, hQ]
  obtain ⟨a2, c2, hs2, hr2⟩ := hr.behind Q (by omega)
  obtain ⟨Dn, hDn⟩ : ∃ Dn, rows.length - Q = Dn := ⟨_, rfl⟩
  rw [hDn] at hs2 hr2
  have HC := hide (fun (w1 : World) (hb : Below w.heap.size w w1) (q : Nat) hq => vconcat2 (b := q) (l1 := rows.take P) (l2 := rows.drop Q) hq (hr1.later hb) (hr2.later hb) (by simp; omega))
  generalize rows.take P ++ rows.drop Q = L at *
  obtain ⟨A, hA⟩ : ∃ A : Obj, A = .cells #[.int .i64 kd, .int .i64 n, .slice a rows.length c] 47 (0, 0) := ⟨_, rfl⟩
  obtain ⟨B, hB⟩ : ∃ B : Obj, B = .cells #[.int .i64 0, .int .i64 0, .slice none 0 0] 47 (0, 0) := ⟨_, rfl⟩
  have HST := hide (B2.start w A B)
  have e0 : (0 : Int) ≤ (P : Int) := by omega
  have e1 : ¬ (P : Int) < 0 := by omega
  have e2 : ¬ ((rows.length : Nat) : Int) ≤ (P : Int) := by omega
  have e3 : (P : Int) ≤ ((rows.length : Nat) : Int) := by omega
  have hw1 : IntKind.i64.wrap ((P : Int) + 1) = (Q : Int) := by rw [IntKind.wrap_i64]; omega
  have e4 : (Q : Int) ≤ ((rows.length : Nat) : Int) := by omega
  have e5 : (0 : Int) ≤ (Q : Int) := by omega
  clear hr hr1 hr2 h hDn hP hs hQ
  go_enter Tryd.func78, Tryd.ntmps78
  go_upto_region 3 with fail
  obtain ⟨Wr, hWr⟩ : ∃ Wr, ((w.alloc (.cells #[.int .i64 kd, .int .i64 n, .slice a rows.length c] 47)).alloc (.cells #[.int .i64 0, .int .i64 0, .slice none 0 0] 47)) = Wr := ⟨_, rfl⟩
  rw [hWr]
  rw [hA, hB, hWr] at HST
  subst hA hB
  clear hWr
  obtain ⟨⟨p0, p1, p2⟩, ⟨r0, r1, r2⟩, f2, f3⟩ := (unhide HST).facts
  have q2 := fun o => ((unhide HST).on (under_box o)).facts.1.2.2
  have HLR := hide (unhide HST).low
  have HLS := hide (unhide HST).low.size
  go_cut [] (fun wx => ∃ wk ka kc, wx = wk.setCell ⟨w.heap.size, 2, none⟩ (.slice ka L.length kc) ∧ B2 w (.cells #[.int .i64 kd, .int .i64 n, .slice a rows.length c] 47 (0, 0)) (.cells #[.int .i64 0, .int .i64 0, .slice none 0 0] 47 (0, 0)) wk ∧ wk.ownsRow (w.heap.size + 1 + 1) 82 2 (.slice ka L.length kc) L.length (R9 L))
  case first =>
    go_region_with (go_at_call 76; refine (unhide HC _ (vlow_one (unhide HLR) (unhide HLS) _) _ (by exact valloc_new (by simp))).mono ?_; rintro e wk ⟨kv, rfl, hok, hbk⟩; obtain ⟨ka, kc, rfl, _⟩ := ownsRow_slice hok; have HOK := hide (ownsRow_less hok (show w.heap.size + 1 + 1 ≤ _ by have := (unhide HST).blocks.2.2; simp; omega)); have HW3 := hide ((unhide HST).on ((vlow_one (Below.refl _ _) (Nat.le_refl _) _).trans (hbk.mono (by simp)))); obtain ⟨⟨u0, u1, u2⟩, _, g2, g3⟩ := (unhide HW3).facts; clear hok hbk)
    all_goals go_wp2_with fail
    all_goals go_meet
    all_goals exact ⟨wk, ka, kc, rfl, unhide HW3, unhide HOK⟩
  case rest =>
  obtain ⟨wk, ka, kc, rfl, hW3, hok⟩ := hcut
  clear p0 p1 p2 r0 r1 r2 f2 f3 q2
  obtain ⟨⟨u0, u1, u2⟩, ⟨y0, y1, y2⟩, g2, g3⟩ := hW3.facts
  obtain ⟨z0, z1, z2, zlow, zown⟩ := hW3.done 2 (.slice ka L.length kc) (.int .i64 kd) (.int .i64 n) (.slice ka L.length kc)
  have hown := zown _ _ _ _ _ (by omega) hok
  unfold put3 at z0 z1 z2 zlow hown
  clear hW3 zown hok
  go_wp2_with fail
  exact bodyPost_ret (v := .agg #[.int .i64 kd, .int .i64 n, .slice ka L.length kc]) (by simp [results, Tryd.results78, go_sem, z0, z1, z2]) rfl ⟨_, rfl, ⟨_, rfl, hown⟩, zlow⟩
end Go.Proofs.YteaiidcconggcaaDoor
/- The law's own: awake, State, Of. -/
namespace Go.Proofs.YteaiidcconggcaaDoor
open Go.RowKit
set_option linter.unusedVariables false
set_option maxRecDepth 100000

theorem vs_eq {s t : VS} (h1 : s.kind = t.kind) (h2 : s.n = t.n) (h3 : s.rows = t.rows) : s = t := by
  cases s
  cases t
  simp_all
def semi1 : VS := ⟨7, 0, [([98], [])]⟩
def semi2 : VS := ⟨7, 0, [([97], []), ([98], [])]⟩
def semi3 : VS := ⟨7, 0, [([97], []), ([98], []), ([98], [])]⟩
theorem semi1_is : VS.with ⟨7, 0, []⟩ ([98], []) = semi1 := vs_eq rfl rfl (by decide +kernel)
theorem semi2_is : semi1.with ([97], []) = semi2 := vs_eq rfl rfl (by decide +kernel)
theorem semi3_is : semi2.with ([98], []) = semi3 := vs_eq rfl rfl (by decide +kernel)
theorem semi_answers : answers semi3 ⟨17, [], [], 0⟩ = [⟨1, [97], 0⟩, ⟨1, [98], 0⟩] := by decide +kernel
theorem semi_legal : legal semi3 ⟨16, [], [], 0⟩ ⟨1, [], 0⟩ = true := by decide +kernel

end Go.Proofs.YteaiidcconggcaaDoor
/- The law's State and Of. -/
namespace Go.Proofs.YteaiidcconggcaaDoor
open Go.RowKit
set_option linter.unusedVariables false
set_option maxRecDepth 100000

theorem mask50 (n : Int) : bits .and .i64 n 1125899906842623 = n % 1125899906842624 := by
  have h := pl_and_mask n 50 1125899906842623 (by decide) (by decide)
  rw [h]
  rfl
theorem may_masked {x : VS} (h : x.may) (hk : x.kind = 3) : VS.may ⟨x.kind, x.n % 1125899906842624, x.rows⟩ := by
  have hr := h.fit.bare (Or.inr hk)
  rw [hk, hr]
  exact may_three _ (by omega) (by omega)

set_option maxHeartbeats 6400000 in
theorem tstate_any {w : World} {v : Value} {s : VS} (h : StAt w v s) (hn : -9223372036854775808 ≤ s.n ∧ s.n ≤ 9223372036854775807) (hsz : ∀ i (h : i < s.rows.length), (s.rows[i]'h).1.length ≤ maxLen ∧ (s.rows[i]'h).2.length ≤ maxLen) :
    Calls Tryd.prog 15 #[v] w fun e w' => ∃ v', e = .returned v' ∧ ∃ x : VS, x.may ∧ (x.kind = 3 → 0 ≤ x.n ∧ x.n < 1125899906842624) ∧ StOwn w.heap.size 77 w' v' x ∧ Below w.heap.size w w' := by
  have HT := hide (fun (w1 : World) (hb : Below w.heap.size w w1) => tidy_any (h.later hb) hn hsz)
  obtain ⟨k0, rfl, hr⟩ := h
  obtain ⟨a, c, rfl, hc, hm⟩ := hr.shape
  have HST := hide (B2.start w (.cells #[.int .i64 s.kind, .int .i64 s.n, .slice a s.rows.length c] 47) (.cells #[.int .i64 0, .int .i64 0, .slice none 0 0] 38))
  clear hr
  go_enter Tryd.func15, Tryd.ntmps15
  go_wp2_with fail
  refine (unhide HT _ (unhide HST).low).mono ?_
  rintro e w1 ⟨v1, rfl, x, hmay, ⟨k1, rfl, ho⟩, hb⟩
  obtain ⟨ka, kc, rfl, _⟩ := ownsRow_slice ho
  have hx1 := (unhide HST).on hb
  have hs1 := (unhide HST).blocks.2.2
  by_cases h3 : x.kind = 3
  · have e3 : (x.kind == 3) = true := by rw [h3]; rfl
    have hq := mask50 x.n
    have HMAY := hide (may_masked hmay h3)
    obtain ⟨q, hqq⟩ : ∃ q, x.n % 1125899906842624 = q := ⟨_, rfl⟩
    have HQ : Hid (0 ≤ q ∧ q < 1125899906842624) := by show _ ∧ _; rw [← hqq]; omega
    rw [hqq] at hq HMAY
    obtain ⟨z0, z1, z2, zl, zo, y0, y1, y2, f1⟩ := give3 (hx1.on (under_box (.cells #[.int .i64 x.kind, .int .i64 q, .slice ka x.rows.length kc] 38))).low (by omega) (hx1.on (under_box (.cells #[.int .i64 x.kind, .int .i64 q, .slice ka x.rows.length kc] 38))).blocks.2.1 (.int .i64 x.kind) (.int .i64 q) (.slice ka x.rows.length kc)
    have ZO := hide (zo _ _ _ _ _ _ (by omega) (ho.alloc _))
    unfold put3 at z0 z1 z2 zl ZO
    have ZL := hide zl
    clear hx1 hb ho zo zl HT HST hs1 hqq h3 hmay
    go_wp2_with fail
    exact bodyPost_ret (v := .agg #[.int .i64 x.kind, .int .i64 q, .slice ka x.rows.length kc]) (by simp [results, Tryd.results15, go_sem, z0, z1, z2]) rfl ⟨_, rfl, ⟨x.kind, q, x.rows⟩, unhide HMAY, fun _ => unhide HQ, ⟨_, rfl, unhide ZO⟩, unhide ZL⟩
  · have e3 : (x.kind == 3) = false := by rw [beq_eq_false_iff_ne]; exact h3
    obtain ⟨z0, z1, z2, zl, zo, y0, y1, y2, f1⟩ := give3 (hx1.on (under_box (.cells #[.int .i64 x.kind, .int .i64 x.n, .slice ka x.rows.length kc] 38))).low (by omega) (hx1.on (under_box (.cells #[.int .i64 x.kind, .int .i64 x.n, .slice ka x.rows.length kc] 38))).blocks.2.1 (.int .i64 x.kind) (.int .i64 x.n) (.slice ka x.rows.length kc)
    have ZO := hide (zo _ _ _ _ _ _ (by omega) (ho.alloc _))
    unfold put3 at z0 z1 z2 zl ZO
    have ZL := hide zl
    have H3 := hide h3
    clear hx1 hb ho zo zl HT HST hs1 h3
    go_wp2_with fail
    exact bodyPost_ret (v := .agg #[.int .i64 x.kind, .int .i64 x.n, .slice ka x.rows.length kc]) (by simp [results, Tryd.results15, go_sem, z0, z1, z2]) rfl ⟨_, rfl, x, hmay, fun e => absurd e (unhide H3), ⟨_, rfl, unhide ZO⟩, unhide ZL⟩
end Go.Proofs.YteaiidcconggcaaDoor
