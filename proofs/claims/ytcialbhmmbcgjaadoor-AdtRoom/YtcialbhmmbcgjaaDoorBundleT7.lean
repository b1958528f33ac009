/- Texts that this proof needs, one behind the other: TRAns, TLegal, TApply, TRoomMath. -/
import Derived.Test.YtcialbhmmbcgjaaDoorBundleT6
import Derived.Test.YtcialbhmmbcgjaaDoorMRefs2
import Derived.Test.YtcialbhmmbcgjaaDoorMChange
import Derived.Test.YtcialbhmmbcgjaaDoorBundleT5
/- The contract of the document's Answers. -/
namespace Go.Proofs.YtcialbhmmbcgjaaDoor
open Go.RowKit
set_option linter.unusedVariables false
set_option maxRecDepth 100000

theorem under_at {w w1 : World} (h : Below w.heap.size w w1) (o : Obj) : Below w.heap.size w1 (w1.alloc o) := (Below.refl _ _).alloc h.size _
set_option maxHeartbeats 25600000 in
theorem ranswers_any {w : World} {v : Value} {s : VS} {c : MC} (h : StAt w v s) (hs : s.rows.length ≤ 1000) (hop : okOp c.op) :
    Calls Tryd.prog 14 #[v, mcV c] w fun e w' => ∃ v', e = .returned v' ∧ Row3 w' v' (answers s c) ∧ Below w.heap.size w w' := by
  have HKI := hide (fun (w1 : World) => rkind_any (w := w1) c.op hop)
  have HFI := hide (fun (w1 : World) (hb : Below w.heap.size w w1) => rfind_any (h.later hb) c.a)
  obtain ⟨K, hK⟩ : ∃ K, (mfact c.op).kind = K := ⟨_, rfl⟩
  obtain ⟨op, ca, cb, cn⟩ := c
  dsimp only at *
  rw [hK] at HKI
  unfold mcV
  dsimp only
  by_cases hk : K = s.kind
  · have e0 : (K != s.kind) = false := by rw [hk]; simp
    have hkk : ¬ (mfact op).kind ≠ s.kind := by rw [hK]; simpa using hk
    rcases op_cases hop with rfl | rfl | rfl | rfl | rfl | rfl | rfl | rfl | rfl | rfl | rfl | rfl | rfl | rfl | rfl | rfl | rfl
    · have hA : answers s ⟨1, ca, cb, cn⟩ = [⟨1, s.key 0, 0⟩] := by unfold answers; rw [if_neg hkk]; rfl
      rw [hA]
      clear hA
      have HO1 := hide (fun (w1 : World) => rok_any (w := w1) true)
      rw [show okR true = ⟨1, [], 0⟩ from rfl] at HO1
      by_cases hl : s.rows.length = 0
      · have hk0 : s.key 0 = [] := by simp [VS.key, List.eq_nil_of_length_eq_zero hl]
        have hn : (((s.rows.length : Nat) : Int) == 0) = true := by rw [beq_iff_eq]; omega
        rw [hk0]
        clear hk0 hl
        generalize (if s.has ca = true then ((hits ca s.rows : Nat) : Int) else -1) = AT at *
        obtain ⟨k0, rfl, hr⟩ := h
        obtain ⟨a, c, rfl, hc, hm⟩ := hr.shape
        unfold maxLen at hm
        obtain ⟨kd, n, rows⟩ := s
        dsimp only at *
        obtain ⟨A, hA⟩ : ∃ A : Obj, A = .cells #[.int .i64 kd, .int .i64 n, .slice a rows.length c] 30 (0, 0) := ⟨_, rfl⟩
        obtain ⟨B, hB⟩ : ∃ B : Obj, B = .cells #[.int .i64 1, .string (S ca), .string (S cb), .int .i64 cn] 33 (0, 0) := ⟨_, rfl⟩
        obtain ⟨c0, c1, c2, k0, k1, k2, k3⟩ := B2.sc (w := w) hA hB
        have hst := B2.start w A B
        have hstd := hst.drew
        clear hr hkk hK hk hs hop
        go_enter Tryd.func14, Tryd.ntmps14
        go_wp2_with fail
        rw [← hA, ← hB]
        clear hA hB
        go_region_held3 (fun w' => B2 w A B w') (with_reducible (first | exact hstd | exact hst | (refine B2.below ?_ (by assumption) <;> assumption)))
          (first | (go_at_call 30; refine (unhide HKI _).mono ?_; rintro e wm ⟨rfl, hbm⟩) | fail)
        have hx0 : B2 w A B wm := by assumption
        clear hbm hst hstd HKI
        go_wp2_with fail
        refine (unhide HFI _ hx0.low).mono ?_
        rintro e w1 ⟨rfl, hb1⟩
        have hx1 := hx0.below hb1
        clear hb1
        go_wp2_with fail
        refine (unhide HO1 _).mono ?_
        rintro e w2 ⟨v2, rfl, hrow, hb2⟩
        have hx2 := hx1.below hb2
        clear hb2
        go_wp2_with fail
        go_ret
        exact ⟨_, rfl, hrow, hx2.low⟩
      · have hn : (((s.rows.length : Nat) : Int) == 0) = false := by rw [beq_eq_false_iff_ne]; omega
        have hn1 : (0 : Int) < ((s.rows.length : Nat) : Int) := by omega
        generalize (if s.has ca = true then ((hits ca s.rows : Nat) : Int) else -1) = AT at *
        obtain ⟨k0, rfl, hr⟩ := h
        obtain ⟨a, c, rfl, hc, hm⟩ := hr.shape
        unfold maxLen at hm
        obtain ⟨b, off, rfl, hbl, e1, e2⟩ := hr.at 0 (by omega)
        have hg : s.key 0 = (s.rows[0]'(by omega)).1 := by simp [VS.key, List.getD, show 0 < s.rows.length by omega]
        rw [hg]
        generalize s.rows[0]'(by omega) = q at *
        obtain ⟨x, y⟩ := q
        rw [Nat.zero_mul, Nat.add_zero] at e1
        clear hg hl
        obtain ⟨kd, n, rows⟩ := s
        dsimp only at *
        obtain ⟨A, hA⟩ : ∃ A : Obj, A = .cells #[.int .i64 kd, .int .i64 n, .slice (some ⟨b, off, none⟩) rows.length c] 30 (0, 0) := ⟨_, rfl⟩
        obtain ⟨B, hB⟩ : ∃ B : Obj, B = .cells #[.int .i64 1, .string (S ca), .string (S cb), .int .i64 cn] 33 (0, 0) := ⟨_, rfl⟩
        obtain ⟨c0, c1, c2, k0, k1, k2, k3⟩ := B2.sc (w := w) hA hB
        have hst := B2.start w A B
        have hstd := hst.drew
        clear hr hkk hK hk hs hop
        go_enter Tryd.func14, Tryd.ntmps14
        go_wp2_with fail
        rw [← hA, ← hB]
        clear hA hB
        go_region_held3 (fun w' => B2 w A B w') (with_reducible (first | exact hstd | exact hst | (refine B2.below ?_ (by assumption) <;> assumption)))
          (first | (go_at_call 30; refine (unhide HKI _).mono ?_; rintro e wm ⟨rfl, hbm⟩) | fail)
        have hx0 : B2 w A B wm := by assumption
        clear hbm hst hstd HKI
        go_wp2_with fail
        refine (unhide HFI _ hx0.low).mono ?_
        rintro e w1 ⟨rfl, hb1⟩
        have hx1 := hx0.below hb1
        clear hb1
        have hlow := hx1.low
        rw [← hlow.cell (p := ⟨b, off, none⟩) hbl] at e1
        clear e2 hlow
        go_wp2_with fail
        go_ret
        exact ⟨_, rfl, Row3.new _ ⟨1, x, 0⟩ _, hx1.low.trans (under_at hx1.low _)⟩
    · have hA : answers s ⟨2, ca, cb, cn⟩ = [okR true] := by unfold answers; rw [if_neg hkk]; rfl
      rw [hA]
      clear hA
      generalize (if s.has ca = true then ((hits ca s.rows : Nat) : Int) else -1) = AT at *
      have HO1 := hide (fun (w1 : World) => rok_any (w := w1) true)
      obtain ⟨k0, rfl, hr⟩ := h
      obtain ⟨a, c, rfl, hc, hm⟩ := hr.shape
      unfold maxLen at hm
      obtain ⟨kd, n, rows⟩ := s
      dsimp only at *
      obtain ⟨A, hA⟩ : ∃ A : Obj, A = .cells #[.int .i64 kd, .int .i64 n, .slice a rows.length c] 30 (0, 0) := ⟨_, rfl⟩
      obtain ⟨B, hB⟩ : ∃ B : Obj, B = .cells #[.int .i64 2, .string (S ca), .string (S cb), .int .i64 cn] 33 (0, 0) := ⟨_, rfl⟩
      obtain ⟨c0, c1, c2, k0, k1, k2, k3⟩ := B2.sc (w := w) hA hB
      have hst := B2.start w A B
      have hstd := hst.drew
      clear hr hkk hK hk hs hop
      go_enter Tryd.func14, Tryd.ntmps14
      go_wp2_with fail
      rw [← hA, ← hB]
      clear hA hB
      go_region_held3 (fun w' => B2 w A B w') (with_reducible (first | exact hstd | exact hst | (refine B2.below ?_ (by assumption) <;> assumption)))
        (first | (go_at_call 30; refine (unhide HKI _).mono ?_; rintro e wm ⟨rfl, hbm⟩) | fail)
      have hx0 : B2 w A B wm := by assumption
      clear hbm hst hstd HKI
      go_wp2_with fail
      refine (unhide HFI _ hx0.low).mono ?_
      rintro e w1 ⟨rfl, hb1⟩
      have hx1 := hx0.below hb1
      clear hb1
      go_wp2_with fail
      refine (unhide HO1 _).mono ?_
      rintro e w2 ⟨v2, rfl, hrow, hb2⟩
      have hx2 := hx1.below hb2
      clear hb2
      go_wp2_with fail
      go_ret
      exact ⟨_, rfl, hrow, hx2.low⟩
    · have hA : answers s ⟨3, ca, cb, cn⟩ = [okR true] := by unfold answers; rw [if_neg hkk]; rfl
      rw [hA]
      clear hA
      generalize (if s.has ca = true then ((hits ca s.rows : Nat) : Int) else -1) = AT at *
      have HO1 := hide (fun (w1 : World) => rok_any (w := w1) true)
      obtain ⟨k0, rfl, hr⟩ := h
      obtain ⟨a, c, rfl, hc, hm⟩ := hr.shape
      unfold maxLen at hm
      obtain ⟨kd, n, rows⟩ := s
      dsimp only at *
      obtain ⟨A, hA⟩ : ∃ A : Obj, A = .cells #[.int .i64 kd, .int .i64 n, .slice a rows.length c] 30 (0, 0) := ⟨_, rfl⟩
      obtain ⟨B, hB⟩ : ∃ B : Obj, B = .cells #[.int .i64 3, .string (S ca), .string (S cb), .int .i64 cn] 33 (0, 0) := ⟨_, rfl⟩
      obtain ⟨c0, c1, c2, k0, k1, k2, k3⟩ := B2.sc (w := w) hA hB
      have hst := B2.start w A B
      have hstd := hst.drew
      clear hr hkk hK hk hs hop
      go_enter Tryd.func14, Tryd.ntmps14
      go_wp2_with fail
      rw [← hA, ← hB]
      clear hA hB
      go_region_held3 (fun w' => B2 w A B w') (with_reducible (first | exact hstd | exact hst | (refine B2.below ?_ (by assumption) <;> assumption)))
        (first | (go_at_call 30; refine (unhide HKI _).mono ?_; rintro e wm ⟨rfl, hbm⟩) | fail)
      have hx0 : B2 w A B wm := by assumption
      clear hbm hst hstd HKI
      go_wp2_with fail
      refine (unhide HFI _ hx0.low).mono ?_
      rintro e w1 ⟨rfl, hb1⟩
      have hx1 := hx0.below hb1
      clear hb1
      go_wp2_with fail
      refine (unhide HO1 _).mono ?_
      rintro e w2 ⟨v2, rfl, hrow, hb2⟩
      have hx2 := hx1.below hb2
      clear hb2
      go_wp2_with fail
      go_ret
      exact ⟨_, rfl, hrow, hx2.low⟩
    · have hA : answers s ⟨4, ca, cb, cn⟩ = [⟨1, [], s.n⟩] := by unfold answers; rw [if_neg hkk]; rfl
      rw [hA]
      clear hA
      generalize (if s.has ca = true then ((hits ca s.rows : Nat) : Int) else -1) = AT at *
      obtain ⟨k0, rfl, hr⟩ := h
      obtain ⟨a, c, rfl, hc, hm⟩ := hr.shape
      unfold maxLen at hm
      obtain ⟨kd, n, rows⟩ := s
      dsimp only at *
      obtain ⟨A, hA⟩ : ∃ A : Obj, A = .cells #[.int .i64 kd, .int .i64 n, .slice a rows.length c] 30 (0, 0) := ⟨_, rfl⟩
      obtain ⟨B, hB⟩ : ∃ B : Obj, B = .cells #[.int .i64 4, .string (S ca), .string (S cb), .int .i64 cn] 33 (0, 0) := ⟨_, rfl⟩
      obtain ⟨c0, c1, c2, k0, k1, k2, k3⟩ := B2.sc (w := w) hA hB
      have hst := B2.start w A B
      have hstd := hst.drew
      clear hr hkk hK hk hs hop
      go_enter Tryd.func14, Tryd.ntmps14
      go_wp2_with fail
      rw [← hA, ← hB]
      clear hA hB
      go_region_held3 (fun w' => B2 w A B w') (with_reducible (first | exact hstd | exact hst | (refine B2.below ?_ (by assumption) <;> assumption)))
        (first | (go_at_call 30; refine (unhide HKI _).mono ?_; rintro e wm ⟨rfl, hbm⟩) | fail)
      have hx0 : B2 w A B wm := by assumption
      clear hbm hst hstd HKI
      go_wp2_with fail
      refine (unhide HFI _ hx0.low).mono ?_
      rintro e w1 ⟨rfl, hb1⟩
      have hx1 := hx0.below hb1
      clear hb1
      go_wp2_with fail
      go_ret
      exact ⟨_, rfl, Row3.new _ ⟨1, [], n⟩ _, hx1.low.trans (under_at hx1.low _)⟩
    · have hA : answers s ⟨5, ca, cb, cn⟩ = [okR true] := by unfold answers; rw [if_neg hkk]; rfl
      rw [hA]
      clear hA
      generalize (if s.has ca = true then ((hits ca s.rows : Nat) : Int) else -1) = AT at *
      have HO1 := hide (fun (w1 : World) => rok_any (w := w1) true)
      obtain ⟨k0, rfl, hr⟩ := h
      obtain ⟨a, c, rfl, hc, hm⟩ := hr.shape
      unfold maxLen at hm
      obtain ⟨kd, n, rows⟩ := s
      dsimp only at *
      obtain ⟨A, hA⟩ : ∃ A : Obj, A = .cells #[.int .i64 kd, .int .i64 n, .slice a rows.length c] 30 (0, 0) := ⟨_, rfl⟩
      obtain ⟨B, hB⟩ : ∃ B : Obj, B = .cells #[.int .i64 5, .string (S ca), .string (S cb), .int .i64 cn] 33 (0, 0) := ⟨_, rfl⟩
      obtain ⟨c0, c1, c2, k0, k1, k2, k3⟩ := B2.sc (w := w) hA hB
      have hst := B2.start w A B
      have hstd := hst.drew
      clear hr hkk hK hk hs hop
      go_enter Tryd.func14, Tryd.ntmps14
      go_wp2_with fail
      rw [← hA, ← hB]
      clear hA hB
      go_region_held3 (fun w' => B2 w A B w') (with_reducible (first | exact hstd | exact hst | (refine B2.below ?_ (by assumption) <;> assumption)))
        (first | (go_at_call 30; refine (unhide HKI _).mono ?_; rintro e wm ⟨rfl, hbm⟩) | fail)
      have hx0 : B2 w A B wm := by assumption
      clear hbm hst hstd HKI
      go_wp2_with fail
      refine (unhide HFI _ hx0.low).mono ?_
      rintro e w1 ⟨rfl, hb1⟩
      have hx1 := hx0.below hb1
      clear hb1
      go_wp2_with fail
      refine (unhide HO1 _).mono ?_
      rintro e w2 ⟨v2, rfl, hrow, hb2⟩
      have hx2 := hx1.below hb2
      clear hb2
      go_wp2_with fail
      go_ret
      exact ⟨_, rfl, hrow, hx2.low⟩
    · have hA : answers s ⟨6, ca, cb, cn⟩ = [okR (decide (cn ≤ s.n))] := by unfold answers; rw [if_neg hkk]; rfl
      rw [hA]
      clear hA
      generalize (if s.has ca = true then ((hits ca s.rows : Nat) : Int) else -1) = AT at *
      have HOK := hide (fun (w1 : World) => rok_any (w := w1) (decide (cn ≤ s.n)))
      generalize okR (decide (cn ≤ s.n)) = r at *
      obtain ⟨R, hR⟩ : ∃ R, decide (cn ≤ s.n) = R := ⟨_, rfl⟩
      rw [hR] at HOK
      obtain ⟨k0, rfl, hr⟩ := h
      obtain ⟨a, c, rfl, hc, hm⟩ := hr.shape
      unfold maxLen at hm
      obtain ⟨kd, n, rows⟩ := s
      dsimp only at *
      obtain ⟨A, hA⟩ : ∃ A : Obj, A = .cells #[.int .i64 kd, .int .i64 n, .slice a rows.length c] 30 (0, 0) := ⟨_, rfl⟩
      obtain ⟨B, hB⟩ : ∃ B : Obj, B = .cells #[.int .i64 6, .string (S ca), .string (S cb), .int .i64 cn] 33 (0, 0) := ⟨_, rfl⟩
      obtain ⟨c0, c1, c2, k0, k1, k2, k3⟩ := B2.sc (w := w) hA hB
      have hst := B2.start w A B
      have hstd := hst.drew
      clear hr hkk hK hk hs hop
      go_enter Tryd.func14, Tryd.ntmps14
      go_wp2_with fail
      rw [← hA, ← hB]
      clear hA hB
      go_region_held3 (fun w' => B2 w A B w') (with_reducible (first | exact hstd | exact hst | (refine B2.below ?_ (by assumption) <;> assumption)))
        (first | (go_at_call 30; refine (unhide HKI _).mono ?_; rintro e wm ⟨rfl, hbm⟩) | fail)
      have hx0 : B2 w A B wm := by assumption
      clear hbm hst hstd HKI
      go_wp2_with fail
      refine (unhide HFI _ hx0.low).mono ?_
      rintro e w1 ⟨rfl, hb1⟩
      have hx1 := hx0.below hb1
      clear hb1
      go_wp2_with fail
      refine (unhide HOK _).mono ?_
      rintro e w2 ⟨v2, rfl, hrow, hb2⟩
      have hx2 := hx1.below hb2
      clear hb2
      go_wp2_with fail
      go_ret
      exact ⟨_, rfl, hrow, hx2.low⟩
    · have hA : answers s ⟨7, ca, cb, cn⟩ = [⟨1, [], s.n⟩] := by unfold answers; rw [if_neg hkk]; rfl
      rw [hA]
      clear hA
      generalize (if s.has ca = true then ((hits ca s.rows : Nat) : Int) else -1) = AT at *
      obtain ⟨k0, rfl, hr⟩ := h
      obtain ⟨a, c, rfl, hc, hm⟩ := hr.shape
      unfold maxLen at hm
      obtain ⟨kd, n, rows⟩ := s
      dsimp only at *
      obtain ⟨A, hA⟩ : ∃ A : Obj, A = .cells #[.int .i64 kd, .int .i64 n, .slice a rows.length c] 30 (0, 0) := ⟨_, rfl⟩
      obtain ⟨B, hB⟩ : ∃ B : Obj, B = .cells #[.int .i64 7, .string (S ca), .string (S cb), .int .i64 cn] 33 (0, 0) := ⟨_, rfl⟩
      obtain ⟨c0, c1, c2, k0, k1, k2, k3⟩ := B2.sc (w := w) hA hB
      have hst := B2.start w A B
      have hstd := hst.drew
      clear hr hkk hK hk hs hop
      go_enter Tryd.func14, Tryd.ntmps14
      go_wp2_with fail
      rw [← hA, ← hB]
      clear hA hB
      go_region_held3 (fun w' => B2 w A B w') (with_reducible (first | exact hstd | exact hst | (refine B2.below ?_ (by assumption) <;> assumption)))
        (first | (go_at_call 30; refine (unhide HKI _).mono ?_; rintro e wm ⟨rfl, hbm⟩) | fail)
      have hx0 : B2 w A B wm := by assumption
      clear hbm hst hstd HKI
      go_wp2_with fail
      refine (unhide HFI _ hx0.low).mono ?_
      rintro e w1 ⟨rfl, hb1⟩
      have hx1 := hx0.below hb1
      clear hb1
      go_wp2_with fail
      go_ret
      exact ⟨_, rfl, Row3.new _ ⟨1, [], n⟩ _, hx1.low.trans (under_at hx1.low _)⟩
    · have hA : answers s ⟨8, ca, cb, cn⟩ = [okR (!s.has ca)] := by unfold answers; rw [if_neg hkk]; rfl
      rw [hA]
      clear hA
      have HOK := hide (fun (w1 : World) => rok_any (w := w1) (!s.has ca))
      generalize okR (!s.has ca) = r at *
      obtain ⟨R, hR⟩ : ∃ R, s.has ca = R := ⟨_, rfl⟩
      rw [hR] at HFI HOK
      clear hR
      generalize hits ca s.rows = P at *
      have hP0 : (0 : Int) ≤ (P : Int) := by omega
      have hP1 : ¬ (P : Int) < 0 := by omega
      cases R
      · rw [if_neg (by simp)] at HFI
        obtain ⟨k0, rfl, hr⟩ := h
        obtain ⟨a, c, rfl, hc, hm⟩ := hr.shape
        unfold maxLen at hm
        obtain ⟨kd, n, rows⟩ := s
        dsimp only at *
        obtain ⟨A, hA⟩ : ∃ A : Obj, A = .cells #[.int .i64 kd, .int .i64 n, .slice a rows.length c] 30 (0, 0) := ⟨_, rfl⟩
        obtain ⟨B, hB⟩ : ∃ B : Obj, B = .cells #[.int .i64 8, .string (S ca), .string (S cb), .int .i64 cn] 33 (0, 0) := ⟨_, rfl⟩
        obtain ⟨c0, c1, c2, k0, k1, k2, k3⟩ := B2.sc (w := w) hA hB
        have hst := B2.start w A B
        have hstd := hst.drew
        clear hr hkk hK hk hs hop
        go_enter Tryd.func14, Tryd.ntmps14
        go_wp2_with fail
        rw [← hA, ← hB]
        clear hA hB
        go_region_held3 (fun w' => B2 w A B w') (with_reducible (first | exact hstd | exact hst | (refine B2.below ?_ (by assumption) <;> assumption)))
          (first | (go_at_call 30; refine (unhide HKI _).mono ?_; rintro e wm ⟨rfl, hbm⟩) | fail)
        have hx0 : B2 w A B wm := by assumption
        clear hbm hst hstd HKI
        go_wp2_with fail
        refine (unhide HFI _ hx0.low).mono ?_
        rintro e w1 ⟨rfl, hb1⟩
        have hx1 := hx0.below hb1
        clear hb1
        go_wp2_with fail
        refine (unhide HOK _).mono ?_
        rintro e w2 ⟨v2, rfl, hrow, hb2⟩
        have hx2 := hx1.below hb2
        clear hb2
        go_wp2_with fail
        go_ret
        exact ⟨_, rfl, hrow, hx2.low⟩
      · rw [if_pos rfl] at HFI
        obtain ⟨k0, rfl, hr⟩ := h
        obtain ⟨a, c, rfl, hc, hm⟩ := hr.shape
        unfold maxLen at hm
        obtain ⟨kd, n, rows⟩ := s
        dsimp only at *
        obtain ⟨A, hA⟩ : ∃ A : Obj, A = .cells #[.int .i64 kd, .int .i64 n, .slice a rows.length c] 30 (0, 0) := ⟨_, rfl⟩
        obtain ⟨B, hB⟩ : ∃ B : Obj, B = .cells #[.int .i64 8, .string (S ca), .string (S cb), .int .i64 cn] 33 (0, 0) := ⟨_, rfl⟩
        obtain ⟨c0, c1, c2, k0, k1, k2, k3⟩ := B2.sc (w := w) hA hB
        have hst := B2.start w A B
        have hstd := hst.drew
        clear hr hkk hK hk hs hop
        go_enter Tryd.func14, Tryd.ntmps14
        go_wp2_with fail
        rw [← hA, ← hB]
        clear hA hB
        go_region_held3 (fun w' => B2 w A B w') (with_reducible (first | exact hstd | exact hst | (refine B2.below ?_ (by assumption) <;> assumption)))
          (first | (go_at_call 30; refine (unhide HKI _).mono ?_; rintro e wm ⟨rfl, hbm⟩) | fail)
        have hx0 : B2 w A B wm := by assumption
        clear hbm hst hstd HKI
        go_wp2_with fail
        refine (unhide HFI _ hx0.low).mono ?_
        rintro e w1 ⟨rfl, hb1⟩
        have hx1 := hx0.below hb1
        clear hb1
        go_wp2_with fail
        refine (unhide HOK _).mono ?_
        rintro e w2 ⟨v2, rfl, hrow, hb2⟩
        have hx2 := hx1.below hb2
        clear hb2
        go_wp2_with fail
        go_ret
        exact ⟨_, rfl, hrow, hx2.low⟩
    · have hA : answers s ⟨9, ca, cb, cn⟩ = [okR (s.has ca)] := by unfold answers; rw [if_neg hkk]; rfl
      rw [hA]
      clear hA
      have HOK := hide (fun (w1 : World) => rok_any (w := w1) (s.has ca))
      generalize okR (s.has ca) = r at *
      obtain ⟨R, hR⟩ : ∃ R, s.has ca = R := ⟨_, rfl⟩
      rw [hR] at HFI HOK
      clear hR
      generalize hits ca s.rows = P at *
      have hP0 : (0 : Int) ≤ (P : Int) := by omega
      have hP1 : ¬ (P : Int) < 0 := by omega
      cases R
      · rw [if_neg (by simp)] at HFI
        obtain ⟨k0, rfl, hr⟩ := h
        obtain ⟨a, c, rfl, hc, hm⟩ := hr.shape
        unfold maxLen at hm
        obtain ⟨kd, n, rows⟩ := s
        dsimp only at *
        obtain ⟨A, hA⟩ : ∃ A : Obj, A = .cells #[.int .i64 kd, .int .i64 n, .slice a rows.length c] 30 (0, 0) := ⟨_, rfl⟩
        obtain ⟨B, hB⟩ : ∃ B : Obj, B = .cells #[.int .i64 9, .string (S ca), .string (S cb), .int .i64 cn] 33 (0, 0) := ⟨_, rfl⟩
        obtain ⟨c0, c1, c2, k0, k1, k2, k3⟩ := B2.sc (w := w) hA hB
        have hst := B2.start w A B
        have hstd := hst.drew
        clear hr hkk hK hk hs hop
        go_enter Tryd.func14, Tryd.ntmps14
        go_wp2_with fail
        rw [← hA, ← hB]
        clear hA hB
        go_region_held3 (fun w' => B2 w A B w') (with_reducible (first | exact hstd | exact hst | (refine B2.below ?_ (by assumption) <;> assumption)))
          (first | (go_at_call 30; refine (unhide HKI _).mono ?_; rintro e wm ⟨rfl, hbm⟩) | fail)
        have hx0 : B2 w A B wm := by assumption
        clear hbm hst hstd HKI
        go_wp2_with fail
        refine (unhide HFI _ hx0.low).mono ?_
        rintro e w1 ⟨rfl, hb1⟩
        have hx1 := hx0.below hb1
        clear hb1
        go_wp2_with fail
        refine (unhide HOK _).mono ?_
        rintro e w2 ⟨v2, rfl, hrow, hb2⟩
        have hx2 := hx1.below hb2
        clear hb2
        go_wp2_with fail
        go_ret
        exact ⟨_, rfl, hrow, hx2.low⟩
      · rw [if_pos rfl] at HFI
        obtain ⟨k0, rfl, hr⟩ := h
        obtain ⟨a, c, rfl, hc, hm⟩ := hr.shape
        unfold maxLen at hm
        obtain ⟨kd, n, rows⟩ := s
        dsimp only at *
        obtain ⟨A, hA⟩ : ∃ A : Obj, A = .cells #[.int .i64 kd, .int .i64 n, .slice a rows.length c] 30 (0, 0) := ⟨_, rfl⟩
        obtain ⟨B, hB⟩ : ∃ B : Obj, B = .cells #[.int .i64 9, .string (S ca), .string (S cb), .int .i64 cn] 33 (0, 0) := ⟨_, rfl⟩
        obtain ⟨c0, c1, c2, k0, k1, k2, k3⟩ := B2.sc (w := w) hA hB
        have hst := B2.start w A B
        have hstd := hst.drew
        clear hr hkk hK hk hs hop
        go_enter Tryd.func14, Tryd.ntmps14
        go_wp2_with fail
        rw [← hA, ← hB]
        clear hA hB
        go_region_held3 (fun w' => B2 w A B w') (with_reducible (first | exact hstd | exact hst | (refine B2.below ?_ (by assumption) <;> assumption)))
          (first | (go_at_call 30; refine (unhide HKI _).mono ?_; rintro e wm ⟨rfl, hbm⟩) | fail)
        have hx0 : B2 w A B wm := by assumption
        clear hbm hst hstd HKI
        go_wp2_with fail
        refine (unhide HFI _ hx0.low).mono ?_
        rintro e w1 ⟨rfl, hb1⟩
        have hx1 := hx0.below hb1
        clear hb1
        go_wp2_with fail
        refine (unhide HOK _).mono ?_
        rintro e w2 ⟨v2, rfl, hrow, hb2⟩
        have hx2 := hx1.below hb2
        clear hb2
        go_wp2_with fail
        go_ret
        exact ⟨_, rfl, hrow, hx2.low⟩
    · have hA : answers s ⟨10, ca, cb, cn⟩ = [okR (s.has ca)] := by unfold answers; rw [if_neg hkk]; rfl
      rw [hA]
      clear hA
      have HOK := hide (fun (w1 : World) => rok_any (w := w1) (s.has ca))
      generalize okR (s.has ca) = r at *
      obtain ⟨R, hR⟩ : ∃ R, s.has ca = R := ⟨_, rfl⟩
      rw [hR] at HFI HOK
      clear hR
      generalize hits ca s.rows = P at *
      have hP0 : (0 : Int) ≤ (P : Int) := by omega
      have hP1 : ¬ (P : Int) < 0 := by omega
      cases R
      · rw [if_neg (by simp)] at HFI
        obtain ⟨k0, rfl, hr⟩ := h
        obtain ⟨a, c, rfl, hc, hm⟩ := hr.shape
        unfold maxLen at hm
        obtain ⟨kd, n, rows⟩ := s
        dsimp only at *
        obtain ⟨A, hA⟩ : ∃ A : Obj, A = .cells #[.int .i64 kd, .int .i64 n, .slice a rows.length c] 30 (0, 0) := ⟨_, rfl⟩
        obtain ⟨B, hB⟩ : ∃ B : Obj, B = .cells #[.int .i64 10, .string (S ca), .string (S cb), .int .i64 cn] 33 (0, 0) := ⟨_, rfl⟩
        obtain ⟨c0, c1, c2, k0, k1, k2, k3⟩ := B2.sc (w := w) hA hB
        have hst := B2.start w A B
        have hstd := hst.drew
        clear hr hkk hK hk hs hop
        go_enter Tryd.func14, Tryd.ntmps14
        go_wp2_with fail
        rw [← hA, ← hB]
        clear hA hB
        go_region_held3 (fun w' => B2 w A B w') (with_reducible (first | exact hstd | exact hst | (refine B2.below ?_ (by assumption) <;> assumption)))
          (first | (go_at_call 30; refine (unhide HKI _).mono ?_; rintro e wm ⟨rfl, hbm⟩) | fail)
        have hx0 : B2 w A B wm := by assumption
        clear hbm hst hstd HKI
        go_wp2_with fail
        refine (unhide HFI _ hx0.low).mono ?_
        rintro e w1 ⟨rfl, hb1⟩
        have hx1 := hx0.below hb1
        clear hb1
        go_wp2_with fail
        refine (unhide HOK _).mono ?_
        rintro e w2 ⟨v2, rfl, hrow, hb2⟩
        have hx2 := hx1.below hb2
        clear hb2
        go_wp2_with fail
        go_ret
        exact ⟨_, rfl, hrow, hx2.low⟩
      · rw [if_pos rfl] at HFI
        obtain ⟨k0, rfl, hr⟩ := h
        obtain ⟨a, c, rfl, hc, hm⟩ := hr.shape
        unfold maxLen at hm
        obtain ⟨kd, n, rows⟩ := s
        dsimp only at *
        obtain ⟨A, hA⟩ : ∃ A : Obj, A = .cells #[.int .i64 kd, .int .i64 n, .slice a rows.length c] 30 (0, 0) := ⟨_, rfl⟩
        obtain ⟨B, hB⟩ : ∃ B : Obj, B = .cells #[.int .i64 10, .string (S ca), .string (S cb), .int .i64 cn] 33 (0, 0) := ⟨_, rfl⟩
        obtain ⟨c0, c1, c2, k0, k1, k2, k3⟩ := B2.sc (w := w) hA hB
        have hst := B2.start w A B
        have hstd := hst.drew
        clear hr hkk hK hk hs hop
        go_enter Tryd.func14, Tryd.ntmps14
        go_wp2_with fail
        rw [← hA, ← hB]
        clear hA hB
        go_region_held3 (fun w' => B2 w A B w') (with_reducible (first | exact hstd | exact hst | (refine B2.below ?_ (by assumption) <;> assumption)))
          (first | (go_at_call 30; refine (unhide HKI _).mono ?_; rintro e wm ⟨rfl, hbm⟩) | fail)
        have hx0 : B2 w A B wm := by assumption
        clear hbm hst hstd HKI
        go_wp2_with fail
        refine (unhide HFI _ hx0.low).mono ?_
        rintro e w1 ⟨rfl, hb1⟩
        have hx1 := hx0.below hb1
        clear hb1
        go_wp2_with fail
        refine (unhide HOK _).mono ?_
        rintro e w2 ⟨v2, rfl, hrow, hb2⟩
        have hx2 := hx1.below hb2
        clear hb2
        go_wp2_with fail
        go_ret
        exact ⟨_, rfl, hrow, hx2.low⟩
    · have hA : answers s ⟨11, ca, cb, cn⟩ = [okR (!s.has ca)] := by unfold answers; rw [if_neg hkk]; rfl
      rw [hA]
      clear hA
      have HOK := hide (fun (w1 : World) => rok_any (w := w1) (!s.has ca))
      generalize okR (!s.has ca) = r at *
      obtain ⟨R, hR⟩ : ∃ R, s.has ca = R := ⟨_, rfl⟩
      rw [hR] at HFI HOK
      clear hR
      generalize hits ca s.rows = P at *
      have hP0 : (0 : Int) ≤ (P : Int) := by omega
      have hP1 : ¬ (P : Int) < 0 := by omega
      cases R
      · rw [if_neg (by simp)] at HFI
        obtain ⟨k0, rfl, hr⟩ := h
        obtain ⟨a, c, rfl, hc, hm⟩ := hr.shape
        unfold maxLen at hm
        obtain ⟨kd, n, rows⟩ := s
        dsimp only at *
        obtain ⟨A, hA⟩ : ∃ A : Obj, A = .cells #[.int .i64 kd, .int .i64 n, .slice a rows.length c] 30 (0, 0) := ⟨_, rfl⟩
        obtain ⟨B, hB⟩ : ∃ B : Obj, B = .cells #[.int .i64 11, .string (S ca), .string (S cb), .int .i64 cn] 33 (0, 0) := ⟨_, rfl⟩
        obtain ⟨c0, c1, c2, k0, k1, k2, k3⟩ := B2.sc (w := w) hA hB
        have hst := B2.start w A B
        have hstd := hst.drew
        clear hr hkk hK hk hs hop
        go_enter Tryd.func14, Tryd.ntmps14
        go_wp2_with fail
        rw [← hA, ← hB]
        clear hA hB
        go_region_held3 (fun w' => B2 w A B w') (with_reducible (first | exact hstd | exact hst | (refine B2.below ?_ (by assumption) <;> assumption)))
          (first | (go_at_call 30; refine (unhide HKI _).mono ?_; rintro e wm ⟨rfl, hbm⟩) | fail)
        have hx0 : B2 w A B wm := by assumption
        clear hbm hst hstd HKI
        go_wp2_with fail
        refine (unhide HFI _ hx0.low).mono ?_
        rintro e w1 ⟨rfl, hb1⟩
        have hx1 := hx0.below hb1
        clear hb1
        go_wp2_with fail
        refine (unhide HOK _).mono ?_
        rintro e w2 ⟨v2, rfl, hrow, hb2⟩
        have hx2 := hx1.below hb2
        clear hb2
        go_wp2_with fail
        go_ret
        exact ⟨_, rfl, hrow, hx2.low⟩
      · rw [if_pos rfl] at HFI
        obtain ⟨k0, rfl, hr⟩ := h
        obtain ⟨a, c, rfl, hc, hm⟩ := hr.shape
        unfold maxLen at hm
        obtain ⟨kd, n, rows⟩ := s
        dsimp only at *
        obtain ⟨A, hA⟩ : ∃ A : Obj, A = .cells #[.int .i64 kd, .int .i64 n, .slice a rows.length c] 30 (0, 0) := ⟨_, rfl⟩
        obtain ⟨B, hB⟩ : ∃ B : Obj, B = .cells #[.int .i64 11, .string (S ca), .string (S cb), .int .i64 cn] 33 (0, 0) := ⟨_, rfl⟩
        obtain ⟨c0, c1, c2, k0, k1, k2, k3⟩ := B2.sc (w := w) hA hB
        have hst := B2.start w A B
        have hstd := hst.drew
        clear hr hkk hK hk hs hop
        go_enter Tryd.func14, Tryd.ntmps14
        go_wp2_with fail
        rw [← hA, ← hB]
        clear hA hB
        go_region_held3 (fun w' => B2 w A B w') (with_reducible (first | exact hstd | exact hst | (refine B2.below ?_ (by assumption) <;> assumption)))
          (first | (go_at_call 30; refine (unhide HKI _).mono ?_; rintro e wm ⟨rfl, hbm⟩) | fail)
        have hx0 : B2 w A B wm := by assumption
        clear hbm hst hstd HKI
        go_wp2_with fail
        refine (unhide HFI _ hx0.low).mono ?_
        rintro e w1 ⟨rfl, hb1⟩
        have hx1 := hx0.below hb1
        clear hb1
        go_wp2_with fail
        refine (unhide HOK _).mono ?_
        rintro e w2 ⟨v2, rfl, hrow, hb2⟩
        have hx2 := hx1.below hb2
        clear hb2
        go_wp2_with fail
        go_ret
        exact ⟨_, rfl, hrow, hx2.low⟩
    · have hA : answers s ⟨12, ca, cb, cn⟩ = [okR (s.has ca)] := by unfold answers; rw [if_neg hkk]; rfl
      rw [hA]
      clear hA
      have HOK := hide (fun (w1 : World) => rok_any (w := w1) (s.has ca))
      generalize okR (s.has ca) = r at *
      obtain ⟨R, hR⟩ : ∃ R, s.has ca = R := ⟨_, rfl⟩
      rw [hR] at HFI HOK
      clear hR
      generalize hits ca s.rows = P at *
      have hP0 : (0 : Int) ≤ (P : Int) := by omega
      have hP1 : ¬ (P : Int) < 0 := by omega
      cases R
      · rw [if_neg (by simp)] at HFI
        obtain ⟨k0, rfl, hr⟩ := h
        obtain ⟨a, c, rfl, hc, hm⟩ := hr.shape
        unfold maxLen at hm
        obtain ⟨kd, n, rows⟩ := s
        dsimp only at *
        obtain ⟨A, hA⟩ : ∃ A : Obj, A = .cells #[.int .i64 kd, .int .i64 n, .slice a rows.length c] 30 (0, 0) := ⟨_, rfl⟩
        obtain ⟨B, hB⟩ : ∃ B : Obj, B = .cells #[.int .i64 12, .string (S ca), .string (S cb), .int .i64 cn] 33 (0, 0) := ⟨_, rfl⟩
        obtain ⟨c0, c1, c2, k0, k1, k2, k3⟩ := B2.sc (w := w) hA hB
        have hst := B2.start w A B
        have hstd := hst.drew
        clear hr hkk hK hk hs hop
        go_enter Tryd.func14, Tryd.ntmps14
        go_wp2_with fail
        rw [← hA, ← hB]
        clear hA hB
        go_region_held3 (fun w' => B2 w A B w') (with_reducible (first | exact hstd | exact hst | (refine B2.below ?_ (by assumption) <;> assumption)))
          (first | (go_at_call 30; refine (unhide HKI _).mono ?_; rintro e wm ⟨rfl, hbm⟩) | fail)
        have hx0 : B2 w A B wm := by assumption
        clear hbm hst hstd HKI
        go_wp2_with fail
        refine (unhide HFI _ hx0.low).mono ?_
        rintro e w1 ⟨rfl, hb1⟩
        have hx1 := hx0.below hb1
        clear hb1
        go_wp2_with fail
        refine (unhide HOK _).mono ?_
        rintro e w2 ⟨v2, rfl, hrow, hb2⟩
        have hx2 := hx1.below hb2
        clear hb2
        go_wp2_with fail
        go_ret
        exact ⟨_, rfl, hrow, hx2.low⟩
      · rw [if_pos rfl] at HFI
        obtain ⟨k0, rfl, hr⟩ := h
        obtain ⟨a, c, rfl, hc, hm⟩ := hr.shape
        unfold maxLen at hm
        obtain ⟨kd, n, rows⟩ := s
        dsimp only at *
        obtain ⟨A, hA⟩ : ∃ A : Obj, A = .cells #[.int .i64 kd, .int .i64 n, .slice a rows.length c] 30 (0, 0) := ⟨_, rfl⟩
        obtain ⟨B, hB⟩ : ∃ B : Obj, B = .cells #[.int .i64 12, .string (S ca), .string (S cb), .int .i64 cn] 33 (0, 0) := ⟨_, rfl⟩
        obtain ⟨c0, c1, c2, k0, k1, k2, k3⟩ := B2.sc (w := w) hA hB
        have hst := B2.start w A B
        have hstd := hst.drew
        clear hr hkk hK hk hs hop
        go_enter Tryd.func14, Tryd.ntmps14
        go_wp2_with fail
        rw [← hA, ← hB]
        clear hA hB
        go_region_held3 (fun w' => B2 w A B w') (with_reducible (first | exact hstd | exact hst | (refine B2.below ?_ (by assumption) <;> assumption)))
          (first | (go_at_call 30; refine (unhide HKI _).mono ?_; rintro e wm ⟨rfl, hbm⟩) | fail)
        have hx0 : B2 w A B wm := by assumption
        clear hbm hst hstd HKI
        go_wp2_with fail
        refine (unhide HFI _ hx0.low).mono ?_
        rintro e w1 ⟨rfl, hb1⟩
        have hx1 := hx0.below hb1
        clear hb1
        go_wp2_with fail
        refine (unhide HOK _).mono ?_
        rintro e w2 ⟨v2, rfl, hrow, hb2⟩
        have hx2 := hx1.below hb2
        clear hb2
        go_wp2_with fail
        go_ret
        exact ⟨_, rfl, hrow, hx2.low⟩
    · have hA : answers s ⟨13, ca, cb, cn⟩ = [lookR s ca] := by unfold answers; rw [if_neg hkk]; rfl
      rw [hA]
      clear hA
      have HO0 := hide (fun (w1 : World) => rok_any (w := w1) false)
      unfold lookR
      unfold VS.has at *
      by_cases hl : hits ca s.rows < s.rows.length
      · rw [decide_eq_true hl, if_pos rfl] at *
        obtain ⟨k0, rfl, hr⟩ := h
        obtain ⟨a, c, rfl, hc, hm⟩ := hr.shape
        unfold maxLen at hm
        obtain ⟨b, off, rfl, hbl, e1, e2⟩ := hr.at _ hl
        have hg : s.val (hits ca s.rows) = (s.rows[hits ca s.rows]'hl).2 := by simp [VS.val, List.getD, hl]
        rw [hg]
        generalize s.rows[hits ca s.rows]'hl = q at *
        generalize hits ca s.rows = P at *
        obtain ⟨x, y⟩ := q
        have hP0 : (0 : Int) ≤ (P : Int) := by omega
        have hP1 : ¬ (P : Int) < 0 := by omega
        have hP2 : (P : Int) < ((s.rows.length : Nat) : Int) := by omega
        clear hg hl
        obtain ⟨kd, n, rows⟩ := s
        dsimp only at *
        obtain ⟨A, hA⟩ : ∃ A : Obj, A = .cells #[.int .i64 kd, .int .i64 n, .slice (some ⟨b, off, none⟩) rows.length c] 30 (0, 0) := ⟨_, rfl⟩
        obtain ⟨B, hB⟩ : ∃ B : Obj, B = .cells #[.int .i64 13, .string (S ca), .string (S cb), .int .i64 cn] 33 (0, 0) := ⟨_, rfl⟩
        obtain ⟨c0, c1, c2, k0, k1, k2, k3⟩ := B2.sc (w := w) hA hB
        have hst := B2.start w A B
        have hstd := hst.drew
        clear hr hkk hK hk hs hop
        go_enter Tryd.func14, Tryd.ntmps14
        go_wp2_with fail
        rw [← hA, ← hB]
        clear hA hB
        go_region_held3 (fun w' => B2 w A B w') (with_reducible (first | exact hstd | exact hst | (refine B2.below ?_ (by assumption) <;> assumption)))
          (first | (go_at_call 30; refine (unhide HKI _).mono ?_; rintro e wm ⟨rfl, hbm⟩) | fail)
        have hx0 : B2 w A B wm := by assumption
        clear hbm hst hstd HKI
        go_wp2_with fail
        refine (unhide HFI _ hx0.low).mono ?_
        rintro e w1 ⟨rfl, hb1⟩
        have hx1 := hx0.below hb1
        clear hb1
        have hlow := hx1.low
        rw [← hlow.cell (p := ⟨b, off + P * 2 + 1, none⟩) hbl] at e2
        clear e1 hlow
        go_wp2_with fail
        go_ret
        exact ⟨_, rfl, Row3.new _ ⟨1, y, 0⟩ _, hx1.low.trans (under_at hx1.low _)⟩
      · rw [decide_eq_false hl] at *
        rw [if_neg (by simp)] at *
        obtain ⟨k0, rfl, hr⟩ := h
        obtain ⟨a, c, rfl, hc, hm⟩ := hr.shape
        unfold maxLen at hm
        generalize hits ca s.rows = P at *
        clear hl
        obtain ⟨kd, n, rows⟩ := s
        dsimp only at *
        obtain ⟨A, hA⟩ : ∃ A : Obj, A = .cells #[.int .i64 kd, .int .i64 n, .slice a rows.length c] 30 (0, 0) := ⟨_, rfl⟩
        obtain ⟨B, hB⟩ : ∃ B : Obj, B = .cells #[.int .i64 13, .string (S ca), .string (S cb), .int .i64 cn] 33 (0, 0) := ⟨_, rfl⟩
        obtain ⟨c0, c1, c2, k0, k1, k2, k3⟩ := B2.sc (w := w) hA hB
        have hst := B2.start w A B
        have hstd := hst.drew
        clear hr hkk hK hk hs hop
        go_enter Tryd.func14, Tryd.ntmps14
        go_wp2_with fail
        rw [← hA, ← hB]
        clear hA hB
        go_region_held3 (fun w' => B2 w A B w') (with_reducible (first | exact hstd | exact hst | (refine B2.below ?_ (by assumption) <;> assumption)))
          (first | (go_at_call 30; refine (unhide HKI _).mono ?_; rintro e wm ⟨rfl, hbm⟩) | fail)
        have hx0 : B2 w A B wm := by assumption
        clear hbm hst hstd HKI
        go_wp2_with fail
        refine (unhide HFI _ hx0.low).mono ?_
        rintro e w1 ⟨rfl, hb1⟩
        have hx1 := hx0.below hb1
        clear hb1
        go_wp2_with fail
        refine (unhide HO0 _).mono ?_
        rintro e w2 ⟨v2, rfl, hrow, hb2⟩
        have hx2 := hx1.below hb2
        clear hb2
        go_wp2_with fail
        go_ret
        exact ⟨_, rfl, hrow, hx2.low⟩
    · have hA : answers s ⟨14, ca, cb, cn⟩ = [okR true] := by unfold answers; rw [if_neg hkk]; rfl
      rw [hA]
      clear hA
      generalize (if s.has ca = true then ((hits ca s.rows : Nat) : Int) else -1) = AT at *
      have HO1 := hide (fun (w1 : World) => rok_any (w := w1) true)
      obtain ⟨k0, rfl, hr⟩ := h
      obtain ⟨a, c, rfl, hc, hm⟩ := hr.shape
      unfold maxLen at hm
      obtain ⟨kd, n, rows⟩ := s
      dsimp only at *
      obtain ⟨A, hA⟩ : ∃ A : Obj, A = .cells #[.int .i64 kd, .int .i64 n, .slice a rows.length c] 30 (0, 0) := ⟨_, rfl⟩
      obtain ⟨B, hB⟩ : ∃ B : Obj, B = .cells #[.int .i64 14, .string (S ca), .string (S cb), .int .i64 cn] 33 (0, 0) := ⟨_, rfl⟩
      obtain ⟨c0, c1, c2, k0, k1, k2, k3⟩ := B2.sc (w := w) hA hB
      have hst := B2.start w A B
      have hstd := hst.drew
      clear hr hkk hK hk hs hop
      go_enter Tryd.func14, Tryd.ntmps14
      go_wp2_with fail
      rw [← hA, ← hB]
      clear hA hB
      go_region_held3 (fun w' => B2 w A B w') (with_reducible (first | exact hstd | exact hst | (refine B2.below ?_ (by assumption) <;> assumption)))
        (first | (go_at_call 30; refine (unhide HKI _).mono ?_; rintro e wm ⟨rfl, hbm⟩) | fail)
      have hx0 : B2 w A B wm := by assumption
      clear hbm hst hstd HKI
      go_wp2_with fail
      refine (unhide HFI _ hx0.low).mono ?_
      rintro e w1 ⟨rfl, hb1⟩
      have hx1 := hx0.below hb1
      clear hb1
      go_wp2_with fail
      refine (unhide HO1 _).mono ?_
      rintro e w2 ⟨v2, rfl, hrow, hb2⟩
      have hx2 := hx1.below hb2
      clear hb2
      go_wp2_with fail
      go_ret
      exact ⟨_, rfl, hrow, hx2.low⟩
    · have hA : answers s ⟨15, ca, cb, cn⟩ = [frontR s] := by unfold answers; rw [if_neg hkk]; rfl
      rw [hA]
      clear hA
      have HTK := hide (fun (w1 : World) (hb : Below w.heap.size w w1) => rtaken_any (h.later hb) hs false)
      simp only [takeO_false, Bool.false_eq_true, if_false] at HTK
      generalize frontR s = T at *
      generalize (if s.has ca = true then ((hits ca s.rows : Nat) : Int) else -1) = AT at *
      obtain ⟨k0, rfl, hr⟩ := h
      obtain ⟨a, c, rfl, hc, hm⟩ := hr.shape
      unfold maxLen at hm
      obtain ⟨kd, n, rows⟩ := s
      dsimp only at *
      obtain ⟨A, hA⟩ : ∃ A : Obj, A = .cells #[.int .i64 kd, .int .i64 n, .slice a rows.length c] 30 (0, 0) := ⟨_, rfl⟩
      obtain ⟨B, hB⟩ : ∃ B : Obj, B = .cells #[.int .i64 15, .string (S ca), .string (S cb), .int .i64 cn] 33 (0, 0) := ⟨_, rfl⟩
      obtain ⟨c0, c1, c2, k0, k1, k2, k3⟩ := B2.sc (w := w) hA hB
      have hst := B2.start w A B
      have hstd := hst.drew
      clear hr hkk hK hk hs hop
      go_enter Tryd.func14, Tryd.ntmps14
      go_wp2_with fail
      rw [← hA, ← hB]
      clear hA hB
      go_region_held3 (fun w' => B2 w A B w') (with_reducible (first | exact hstd | exact hst | (refine B2.below ?_ (by assumption) <;> assumption)))
        (first | (go_at_call 30; refine (unhide HKI _).mono ?_; rintro e wm ⟨rfl, hbm⟩) | fail)
      have hx0 : B2 w A B wm := by assumption
      clear hbm hst hstd HKI
      go_wp2_with fail
      refine (unhide HFI _ hx0.low).mono ?_
      rintro e w1 ⟨rfl, hb1⟩
      have hx1 := hx0.below hb1
      clear hb1
      go_wp2_with fail
      refine (unhide HTK _ hx1.low).mono ?_
      rintro e w2 ⟨v2, rfl, hrow, hb2⟩
      have hx2 := hx1.below hb2
      clear hb2
      go_wp2_with fail
      go_ret
      exact ⟨_, rfl, hrow, hx2.low⟩
    · have hA : answers s ⟨16, ca, cb, cn⟩ = [okR true] := by unfold answers; rw [if_neg hkk]; rfl
      rw [hA]
      clear hA
      generalize (if s.has ca = true then ((hits ca s.rows : Nat) : Int) else -1) = AT at *
      have HO1 := hide (fun (w1 : World) => rok_any (w := w1) true)
      obtain ⟨k0, rfl, hr⟩ := h
      obtain ⟨a, c, rfl, hc, hm⟩ := hr.shape
      unfold maxLen at hm
      obtain ⟨kd, n, rows⟩ := s
      dsimp only at *
      obtain ⟨A, hA⟩ : ∃ A : Obj, A = .cells #[.int .i64 kd, .int .i64 n, .slice a rows.length c] 30 (0, 0) := ⟨_, rfl⟩
      obtain ⟨B, hB⟩ : ∃ B : Obj, B = .cells #[.int .i64 16, .string (S ca), .string (S cb), .int .i64 cn] 33 (0, 0) := ⟨_, rfl⟩
      obtain ⟨c0, c1, c2, k0, k1, k2, k3⟩ := B2.sc (w := w) hA hB
      have hst := B2.start w A B
      have hstd := hst.drew
      clear hr hkk hK hk hs hop
      go_enter Tryd.func14, Tryd.ntmps14
      go_wp2_with fail
      rw [← hA, ← hB]
      clear hA hB
      go_region_held3 (fun w' => B2 w A B w') (with_reducible (first | exact hstd | exact hst | (refine B2.below ?_ (by assumption) <;> assumption)))
        (first | (go_at_call 30; refine (unhide HKI _).mono ?_; rintro e wm ⟨rfl, hbm⟩) | fail)
      have hx0 : B2 w A B wm := by assumption
      clear hbm hst hstd HKI
      go_wp2_with fail
      refine (unhide HFI _ hx0.low).mono ?_
      rintro e w1 ⟨rfl, hb1⟩
      have hx1 := hx0.below hb1
      clear hb1
      go_wp2_with fail
      refine (unhide HO1 _).mono ?_
      rintro e w2 ⟨v2, rfl, hrow, hb2⟩
      have hx2 := hx1.below hb2
      clear hb2
      go_wp2_with fail
      go_ret
      exact ⟨_, rfl, hrow, hx2.low⟩
    · have hA : answers s ⟨17, ca, cb, cn⟩ = takes s := by unfold answers; rw [if_neg hkk]; rfl
      rw [hA]
      clear hA
      have HTK := hide (fun (w1 : World) (hb : Below w.heap.size w w1) => rtaken_any (h.later hb) hs true)
      simp only [takeO_true, if_true] at HTK
      generalize takes s = T at *
      generalize (if s.has ca = true then ((hits ca s.rows : Nat) : Int) else -1) = AT at *
      obtain ⟨k0, rfl, hr⟩ := h
      obtain ⟨a, c, rfl, hc, hm⟩ := hr.shape
      unfold maxLen at hm
      obtain ⟨kd, n, rows⟩ := s
      dsimp only at *
      obtain ⟨A, hA⟩ : ∃ A : Obj, A = .cells #[.int .i64 kd, .int .i64 n, .slice a rows.length c] 30 (0, 0) := ⟨_, rfl⟩
      obtain ⟨B, hB⟩ : ∃ B : Obj, B = .cells #[.int .i64 17, .string (S ca), .string (S cb), .int .i64 cn] 33 (0, 0) := ⟨_, rfl⟩
      obtain ⟨c0, c1, c2, k0, k1, k2, k3⟩ := B2.sc (w := w) hA hB
      have hst := B2.start w A B
      have hstd := hst.drew
      clear hr hkk hK hk hs hop
      go_enter Tryd.func14, Tryd.ntmps14
      go_wp2_with fail
      rw [← hA, ← hB]
      clear hA hB
      go_region_held3 (fun w' => B2 w A B w') (with_reducible (first | exact hstd | exact hst | (refine B2.below ?_ (by assumption) <;> assumption)))
        (first | (go_at_call 30; refine (unhide HKI _).mono ?_; rintro e wm ⟨rfl, hbm⟩) | fail)
      have hx0 : B2 w A B wm := by assumption
      clear hbm hst hstd HKI
      go_wp2_with fail
      refine (unhide HFI _ hx0.low).mono ?_
      rintro e w1 ⟨rfl, hb1⟩
      have hx1 := hx0.below hb1
      clear hb1
      go_wp2_with fail
      refine (unhide HTK _ hx1.low).mono ?_
      rintro e w2 ⟨v2, rfl, hrow, hb2⟩
      have hx2 := hx1.below hb2
      clear hb2
      go_wp2_with fail
      go_ret
      exact ⟨_, rfl, hrow, hx2.low⟩
  · have e0 : (K != s.kind) = true := by rw [bne_iff_ne]; exact hk
    have hkk : (mfact op).kind ≠ s.kind := by rw [hK]; exact hk
    rw [show answers s ⟨op, ca, cb, cn⟩ = [] by unfold answers; rw [if_pos hkk]]
    generalize (if s.has ca = true then ((hits ca s.rows : Nat) : Int) else -1) = AT at *
    obtain ⟨k0, rfl, hr⟩ := h
    obtain ⟨a, c, rfl, hc, hm⟩ := hr.shape
    unfold maxLen at hm
    obtain ⟨kd, n, rows⟩ := s
    dsimp only at *
    obtain ⟨A, hA⟩ : ∃ A : Obj, A = .cells #[.int .i64 kd, .int .i64 n, .slice a rows.length c] 30 (0, 0) := ⟨_, rfl⟩
    obtain ⟨B, hB⟩ : ∃ B : Obj, B = .cells #[.int .i64 op, .string (S ca), .string (S cb), .int .i64 cn] 33 (0, 0) := ⟨_, rfl⟩
    obtain ⟨c0, c1, c2, k0, k1, k2, k3⟩ := B2.sc (w := w) hA hB
    have hst := B2.start w A B
    have hstd := hst.drew
    clear hr hkk hK hk hs hop HFI
    go_enter Tryd.func14, Tryd.ntmps14
    go_wp2_with fail
    rw [← hA, ← hB]
    clear hA hB
    go_region_held3 (fun w' => B2 w A B w') (with_reducible (first | exact hstd | exact hst | (refine B2.below ?_ (by assumption) <;> assumption)))
      (first | (go_at_call 30; refine (unhide HKI _).mono ?_; rintro e wm ⟨rfl, hbm⟩) | fail)
    have hx0 : B2 w A B wm := by assumption
    clear hbm hst hstd HKI
    go_wp2_with fail
    go_ret
    exact ⟨_, rfl, Row3.nil _, hx0.low⟩
end Go.Proofs.YtcialbhmmbcgjaaDoor
/- The contracts of slices.Index and Contains at answers, and of Legal, the program's and the document's. -/
namespace Go.Proofs.YtcialbhmmbcgjaaDoor
open Go.RowKit
set_option linter.unusedVariables false
set_option maxRecDepth 100000

theorem not_mem_to {l : List MR} {r : MR} {k : Nat} (hk : k < l.length) (hno : ∀ j (h : j < l.length), j < k → l[j]'h ≠ r) (e : l[k]'hk ≠ r) : ∀ j (h : j < l.length), j < k + 1 → l[j]'h ≠ r := fun j h hj => by
  by_cases hjk : j = k
  · subst hjk; exact e
  · exact hno j h (by omega)
theorem not_mem_all {l : List MR} {r : MR} {k : Nat} (hk : ¬ k < l.length) (hno : ∀ j (h : j < l.length), j < k → l[j]'h ≠ r) : ¬ r ∈ l := fun h => by
  obtain ⟨j, hj, e⟩ := List.getElem_of_mem h
  exact hno j hj (by omega) e
theorem Bx.mr {w : World} {o : Obj} {a b c : Value} {t : TypeId} (ho : o = .cells #[a, b, c] t (0, 0)) : (∀ w1, Bx w o w1 → w1.cell? ⟨w.heap.size, 0, none⟩ = some a) ∧ (∀ w1, Bx w o w1 → w1.cell? ⟨w.heap.size, 1, none⟩ = some b) ∧ (∀ w1, Bx w o w1 → w1.cell? ⟨w.heap.size, 2, none⟩ = some c) := Bx.cells3 ho

set_option maxHeartbeats 3200000 in
theorem mindex_any {w : World} {v : Value} {l : List MR} (h : Row3 w v l) (r : MR) :
    Calls Tryd.prog 63 #[v, mrV r] w fun e w' => ∃ k : Int, e = .returned (.int .i64 k) ∧ (r ∈ l → 0 ≤ k) ∧ (¬ r ∈ l → k = -1) ∧ Below w.heap.size w w' := by
  obtain ⟨a, c, rfl, hc, hm⟩ := h.shape
  unfold maxLen at hm
  have HROW := hide h
  obtain ⟨y1, y2, y3⟩ := r
  unfold mrV
  dsimp only
  obtain ⟨B, hB⟩ : ∃ B : Obj, B = .cells #[.int .i64 y1, .string (S y2), .int .i64 y3] 44 (0, 0) := ⟨_, rfl⟩
  obtain ⟨c0, c1, c2⟩ := Bx.mr (w := w) hB
  have HST := hide (Bx.start w B)
  clear h
  go_enter Tryd.func63, Tryd.ntmps63
  go_wp2_with fail
  rw [← hB]
  clear hB
  go_loopw [8] (fun i wr => ∃ k : Nat, k ≤ l.length ∧ i = .int .i64 (k : Int) ∧ (∀ j (h : j < l.length), j < k → l[j]'h ≠ ⟨y1, y2, y3⟩) ∧ Bx w B wr) (fun i _ => l.length - (intOf i).toNat)
  case atStart => exact ⟨0, Nat.zero_le _, rfl, fun j _ hj => by omega, unhide HST⟩
  case round =>
    obtain ⟨k, hk, rfl, hno, hbx⟩ := hrel
    have hlow := hbx.low
    by_cases hlt : k < l.length
    · obtain ⟨b, off, rfl, hbl, e1, e2, e3⟩ := (unhide HROW).at k hlt
      rw [← hlow.cell (p := ⟨b, off + k * 3, none⟩) hbl] at e1
      rw [← hlow.cell (p := ⟨b, off + k * 3 + 1, none⟩) hbl] at e2
      rw [← hlow.cell (p := ⟨b, off + k * 3 + 2, none⟩) hbl] at e3
      have HIN := hide (List.getElem_mem hlt)
      have HN := hide (fun e => not_mem_to hlt hno e)
      generalize l[k]'hlt = q at *
      obtain ⟨x1, x2, x3⟩ := q
      dsimp only at *
      have hi0 : (0 : Int) ≤ (k : Int) := by omega
      have hi1 : (k : Int) < ((l.length : Nat) : Int) := by omega
      have HBX : ∀ q, Hid (Bx w B (wr.drewN q)) := fun q => Below.trans hbx (drewN_low _ q)
      have d0 := c0 _ hbx
      have d1 := c1 _ hbx
      have d2 := c2 _ hbx
      clear hno hlow c0 c1 c2 hbx
      by_cases hx : x1 = y1
      · have s1 : (y1 == x1) = true := by rw [beq_iff_eq]; exact hx.symm
        by_cases hy : x2 = y2
        · have s2 := S_eq y2 x2
          rw [decide_eq_true hy.symm] at s2
          by_cases hz : x3 = y3
          · have s3 : (y3 == x3) = true := by rw [beq_iff_eq]; exact hz.symm
            have heq : (⟨x1, x2, x3⟩ : MR) = ⟨y1, y2, y3⟩ := by rw [hx, hy, hz]
            have HI2 : Hid ((⟨y1, y2, y3⟩ : MR) ∈ l) := by
              have := unhide HIN
              rw [heq] at this
              exact this
            clear hx hy hz HN HIN heq
            go_wp2_with fail
            go_quiet (fail)
            go_wp2_with fail
            go_ret
            exact ⟨_, rfl, fun _ => by omega, fun h => absurd (unhide HI2) h, (unhide (HBX _)).low⟩
          · have s3 : (y3 == x3) = false := by rw [beq_eq_false_iff_ne]; exact fun e => hz e.symm
            have hne3 : (⟨x1, x2, x3⟩ : MR) ≠ ⟨y1, y2, y3⟩ := by simp [hz]
            have HN2 := hide (unhide HN hne3)
            clear hne3 HN HIN
            go_wp2_with fail
            go_quiet (fail)
            go_wp2_with fail
            go_roundw
            case rel => exact ⟨k + 1, by omega, by go_num, unhide HN2, unhide (HBX _)⟩
            case measure => simp [intOf]; omega
        · have s2 := S_eq y2 x2
          rw [decide_eq_false (fun e => hy e.symm)] at s2
          have hne3 : (⟨x1, x2, x3⟩ : MR) ≠ ⟨y1, y2, y3⟩ := by simp [hy]
          have HN2 := hide (unhide HN hne3)
          clear hne3 HN HIN
          go_wp2_with fail
          go_quiet (fail)
          go_wp2_with fail
          go_roundw
          case rel => exact ⟨k + 1, by omega, by go_num, unhide HN2, unhide (HBX _)⟩
          case measure => simp [intOf]; omega
      · have s1 : (y1 == x1) = false := by rw [beq_eq_false_iff_ne]; exact fun e => hx e.symm
        have hne3 : (⟨x1, x2, x3⟩ : MR) ≠ ⟨y1, y2, y3⟩ := by simp [hx]
        have HN2 := hide (unhide HN hne3)
        clear hne3 HN HIN
        go_wp2_with fail
        go_quiet (fail)
        go_wp2_with fail
        go_roundw
        case rel => exact ⟨k + 1, by omega, by go_num, unhide HN2, unhide (HBX _)⟩
        case measure => simp [intOf]; omega
    · have HNM := hide (not_mem_all hlt hno)
      have HL := hide hlow
      have hkn : k = l.length := by omega
      clear hno hlow hbx
      subst hkn
      go_wp2_with fail
      go_ret
      exact ⟨_, rfl, fun h => absurd h (unhide HNM), fun _ => rfl, unhide HL⟩
theorem mcontains_any {w : World} {v : Value} {l : List MR} (h : Row3 w v l) (r : MR) :
    Calls Tryd.prog 45 #[v, mrV r] w fun e w' => e = .returned (.bool (decide (r ∈ l))) ∧ Below w.heap.size w w' := by
  have HIX := hide (fun (w1 : World) (hb : Below w.heap.size w w1) => mindex_any (h.later hb) r)
  obtain ⟨a, c, rfl, hc, hm⟩ := h.shape
  have HST := hide (under_box (w := w) (.cells #[.int .i64 r.code, .string (S r.text), .int .i64 r.n] 44))
  unfold mrV at *
  by_cases hin : r ∈ l
  · rw [decide_eq_true hin]
    go_enter Tryd.func45, Tryd.ntmps45
    go_wp2_with fail
    refine (unhide HIX _ (unhide HST)).mono ?_
    rintro e w1 ⟨k, rfl, hk, _, hb⟩
    have hk0 := hk hin
    have HL := hide ((unhide HST).trans (hb.mono (by simp)))
    clear hb hk hin h
    go_wp2_with fail
    go_ret
    exact ⟨rfl, unhide HL⟩
  · rw [decide_eq_false hin]
    go_enter Tryd.func45, Tryd.ntmps45
    go_wp2_with fail
    refine (unhide HIX _ (unhide HST)).mono ?_
    rintro e w1 ⟨k, rfl, _, hk, hb⟩
    have hk0 := hk hin
    subst hk0
    have HL := hide ((unhide HST).trans (hb.mono (by simp)))
    clear hb hk hin h
    go_wp2_with fail
    go_ret
    exact ⟨rfl, unhide HL⟩

/- Behind three new boxes: a state's, a call's, an answer's. -/
def B3 (w : World) (A B C : Obj) (w1 : World) : Prop := Below (w.heap.size + 1 + 1 + 1) (((w.alloc A).alloc B).alloc C) w1
section
variable {w w1 w2 : World} {A B C : Obj}
theorem B3.start (w : World) (A B C : Obj) : B3 w A B C (((w.alloc A).alloc B).alloc C) := Below.refl _ _
theorem B3.drew (h : B3 w A B C w1) : B3 w A B C w1.drew := Below.drew h
theorem B3.size (h : B3 w A B C w1) : w.heap.size + 1 + 1 + 1 ≤ w1.heap.size := by
  have hs := Below.size h
  rwa [World.size_alloc, World.size_alloc, World.size_alloc] at hs
theorem B3.below (h : B3 w A B C w1) (hb : Below w1.heap.size w1 w2) : B3 w A B C w2 := Below.trans h (hb.mono h.size)
theorem B3.low (h : B3 w A B C w1) : Below w.heap.size w w1 := ((under_two w A B).alloc (by simp; omega) C).trans (Below.mono h (by omega))
theorem B3.heap (h : B3 w A B C w1) : w1.heap[w.heap.size]? = some A ∧ w1.heap[w.heap.size + 1]? = some B ∧ w1.heap[w.heap.size + 1 + 1]? = some C := by
  refine ⟨?_, ?_, ?_⟩
  · rw [Below.block h _ (by omega), Below.heap_alloc _ _ _ (by simp; omega), Below.heap_alloc _ _ _ (by simp)]; exact heap_alloc_new w _
  · rw [Below.block h _ (by omega), Below.heap_alloc _ _ _ (by simp)]
    have := heap_alloc_new (w.alloc A) B
    rwa [World.size_alloc] at this
  · rw [Below.block h _ (by omega)]
    have := heap_alloc_new ((w.alloc A).alloc B) C
    rwa [World.size_alloc, World.size_alloc] at this
theorem B3.scr {a b c a' b' c' d' x y z : Value} {t t' t'' : TypeId} (hA : A = .cells #[a, b, c] t (0, 0)) (hB : B = .cells #[a', b', c', d'] t' (0, 0)) (hC : C = .cells #[x, y, z] t'' (0, 0)) :
    (∀ w1, B3 w A B C w1 → w1.cell? ⟨w.heap.size, 0, none⟩ = some a) ∧ (∀ w1, B3 w A B C w1 → w1.cell? ⟨w.heap.size, 1, none⟩ = some b) ∧ (∀ w1, B3 w A B C w1 → w1.cell? ⟨w.heap.size, 2, none⟩ = some c) ∧
    (∀ w1, B3 w A B C w1 → w1.cell? ⟨w.heap.size + 1, 0, none⟩ = some a') ∧ (∀ w1, B3 w A B C w1 → w1.cell? ⟨w.heap.size + 1, 1, none⟩ = some b') ∧ (∀ w1, B3 w A B C w1 → w1.cell? ⟨w.heap.size + 1, 2, none⟩ = some c') ∧ (∀ w1, B3 w A B C w1 → w1.cell? ⟨w.heap.size + 1, 3, none⟩ = some d') ∧
    (∀ w1, B3 w A B C w1 → w1.cell? ⟨w.heap.size + 1 + 1, 0, none⟩ = some x) ∧ (∀ w1, B3 w A B C w1 → w1.cell? ⟨w.heap.size + 1 + 1, 1, none⟩ = some y) ∧ (∀ w1, B3 w A B C w1 → w1.cell? ⟨w.heap.size + 1 + 1, 2, none⟩ = some z) := by
  subst hA hB hC
  refine ⟨fun w1 h => ?_, fun w1 h => ?_, fun w1 h => ?_, fun w1 h => ?_, fun w1 h => ?_, fun w1 h => ?_, fun w1 h => ?_, fun w1 h => ?_, fun w1 h => ?_, fun w1 h => ?_⟩ <;> first | (rw [block_cell h.heap.1]; rfl) | (rw [block_cell h.heap.2.1]; rfl) | (rw [block_cell h.heap.2.2]; rfl)
end

set_option maxHeartbeats 6400000 in
theorem alegal_any {w : World} {v : Value} {s : VS} {c : MC} (h : StAt w v s) (hs : s.rows.length ≤ 1000) (hop : okOp c.op) (hw : MD w) (r : MR) :
    Calls Tryd.prog 15 #[v, mcV c, mrV r] w fun e w' => e = .returned (.bool (legal s c r)) ∧ Below w.heap.size w w' := by
  have HAN := hide (fun (w1 : World) (hb : Below w.heap.size w w1) => aanswers_any (c := c) (h.later hb) hs hop (hw.later hb))
  unfold legal
  obtain ⟨R, hR⟩ : ∃ R, decide (r ∈ answers s c) = R := ⟨_, rfl⟩
  have HCO : Hid (∀ (w1 : World) (x : Value) (hx : Row3 w1 x (answers s c)), Calls Tryd.prog 45 #[x, mrV r] w1 fun e w' => e = .returned (.bool R) ∧ Below w1.heap.size w1 w') := fun w1 x hx => by rw [← hR]; exact mcontains_any hx r
  rw [hR]
  clear hR
  generalize answers s c = T at *
  obtain ⟨k0, rfl, hr⟩ := h
  obtain ⟨a, cc, rfl, hc, hm⟩ := hr.shape
  obtain ⟨kd, n, rows⟩ := s
  obtain ⟨op, ca, cb, cn⟩ := c
  obtain ⟨y1, y2, y3⟩ := r
  unfold mcV mrV at *
  dsimp only at *
  obtain ⟨A, hA⟩ : ∃ A : Obj, A = .cells #[.int .i64 kd, .int .i64 n, .slice a rows.length cc] 24 (0, 0) := ⟨_, rfl⟩
  obtain ⟨B, hB⟩ : ∃ B : Obj, B = .cells #[.int .i64 op, .string (S ca), .string (S cb), .int .i64 cn] 27 (0, 0) := ⟨_, rfl⟩
  obtain ⟨C, hC⟩ : ∃ C : Obj, C = .cells #[.int .i64 y1, .string (S y2), .int .i64 y3] 44 (0, 0) := ⟨_, rfl⟩
  obtain ⟨c0, c1, c2, k0, k1, k2, k3, r0, r1, r2⟩ := B3.scr (w := w) hA hB hC
  have hst := B3.start w A B C
  have hstd := hst.drew
  clear hr hw hs hop
  go_enter Tryd.func15, Tryd.ntmps15
  go_wp2_with fail
  rw [← hA, ← hB, ← hC]
  clear hA hB hC
  go_region_held3 (fun w' => B3 w A B C w') (with_reducible (first | exact hstd | exact hst | (refine B3.below ?_ (by assumption) <;> assumption)))
    (first | (go_at_call 13; refine (unhide HAN _ (B3.low (by assumption))).mono ?_; rintro e wa ⟨va, rfl, hrow, hba⟩; obtain ⟨sa, sc, rfl, _, _⟩ := hrow.shape) | (go_at_call 45; refine (unhide HCO _ _ (by first | exact hrow | exact hrow.later (by assumption))).mono ?_; rintro e wb ⟨rfl, hbb⟩) | fail)
  all_goals
    have hx0 : B3 w A B C wb := by assumption
    have HL := hide hx0.low
    clear hbb hst hstd HAN HCO hx0
    go_wp2_with fail
    go_ret
    exact ⟨rfl, unhide HL⟩
set_option maxHeartbeats 6400000 in
theorem rlegal_any {w : World} {v : Value} {s : VS} {c : MC} (h : StAt w v s) (hs : s.rows.length ≤ 1000) (hop : okOp c.op) (r : MR) :
    Calls Tryd.prog 21 #[v, mcV c, mrV r] w fun e w' => e = .returned (.bool (legal s c r)) ∧ Below w.heap.size w w' := by
  have HAN := hide (fun (w1 : World) (hb : Below w.heap.size w w1) => ranswers_any (c := c) (h.later hb) hs hop)
  unfold legal
  generalize answers s c = l at *
  obtain ⟨k0, rfl, hr⟩ := h
  obtain ⟨a, cc, rfl, hc, hm⟩ := hr.shape
  obtain ⟨kd, n, rows⟩ := s
  obtain ⟨op, ca, cb, cn⟩ := c
  obtain ⟨R, hR⟩ : ∃ R, decide (r ∈ l) = R := ⟨_, rfl⟩
  have HR := hide hR
  rw [hR]
  obtain ⟨y1, y2, y3⟩ := r
  unfold mcV mrV at *
  dsimp only at *
  obtain ⟨A, hA⟩ : ∃ A : Obj, A = .cells #[.int .i64 kd, .int .i64 n, .slice a rows.length cc] 30 (0, 0) := ⟨_, rfl⟩
  obtain ⟨B, hB⟩ : ∃ B : Obj, B = .cells #[.int .i64 op, .string (S ca), .string (S cb), .int .i64 cn] 33 (0, 0) := ⟨_, rfl⟩
  obtain ⟨C, hC⟩ : ∃ C : Obj, C = .cells #[.int .i64 y1, .string (S y2), .int .i64 y3] 45 (0, 0) := ⟨_, rfl⟩
  obtain ⟨c0, c1, c2, k0, k1, k2, k3, r0, r1, r2⟩ := B3.scr (w := w) hA hB hC
  have HST := hide (B3.start w A B C)
  clear hr hs hop hR
  go_enter Tryd.func21, Tryd.ntmps21
  go_wp2_with fail
  rw [← hA, ← hB, ← hC]
  have hst := unhide HST
  clear hA hB hC
  refine (unhide HAN _ hst.low).mono ?_
  rintro e wa ⟨va, rfl, hrow, hba⟩
  obtain ⟨sa, sc, rfl, hsc, hsm⟩ := hrow.shape
  unfold maxLen at hsm
  have HXA := hide (hst.below hba)
  have HROW := hide hrow
  clear hst hba hrow HAN HST
  go_wp2_with fail
  go_loopw [13] (fun i wr => ∃ k : Nat, k ≤ l.length ∧ i = .int .i64 (k : Int) ∧ (∀ j (h : j < l.length), j < k → l[j]'h ≠ ⟨y1, y2, y3⟩) ∧ B3 w A B C wr ∧ Below wa.heap.size wa wr) (fun i _ => l.length - (intOf i).toNat)
  case atStart => exact ⟨0, Nat.zero_le _, rfl, fun j _ hj => by omega, unhide HXA, Below.refl _ _⟩
  case round =>
    obtain ⟨k, hk, rfl, hno, hbx, hlow⟩ := hrel
    by_cases hlt : k < l.length
    · obtain ⟨b, off, rfl, hbl, e1, e2, e3⟩ := (unhide HROW).at k hlt
      rw [← hlow.cell (p := ⟨b, off + k * 3, none⟩) hbl] at e1
      rw [← hlow.cell (p := ⟨b, off + k * 3 + 1, none⟩) hbl] at e2
      rw [← hlow.cell (p := ⟨b, off + k * 3 + 2, none⟩) hbl] at e3
      have HIN := hide (List.getElem_mem hlt)
      have HN := hide (fun e => not_mem_to hlt hno e)
      generalize l[k]'hlt = q at *
      obtain ⟨x1, x2, x3⟩ := q
      dsimp only at *
      have hi0 : (0 : Int) ≤ (k : Int) := by omega
      have hi1 : (k : Int) < ((l.length : Nat) : Int) := by omega
      have hne : wr.heap.size ≠ b := by have := hlow.size; omega
      have d0 := fun o => r0 _ (hbx.below (under_box o))
      have d1 := fun o => r1 _ (hbx.below (under_box o))
      have d2 := fun o => r2 _ (hbx.below (under_box o))
      have HBX := hide (fun o => hbx.below (under_box o))
      have HLW := hide (fun (o : Obj) => hlow.alloc hlow.size o)
      clear hno hlow hbx c0 c1 c2 k0 k1 k2 k3 r0 r1 r2
      by_cases hx : x1 = y1
      · have s1 : (x1 == y1) = true := by rw [beq_iff_eq]; exact hx
        by_cases hy : x2 = y2
        · have s2 := S_eq x2 y2
          rw [decide_eq_true hy] at s2
          by_cases hz : x3 = y3
          · have s3 : (x3 == y3) = true := by rw [beq_iff_eq]; exact hz
            have heq : (⟨x1, x2, x3⟩ : MR) = ⟨y1, y2, y3⟩ := by rw [hx, hy, hz]
            have HI2 : Hid ((⟨y1, y2, y3⟩ : MR) ∈ l) := by
              have := unhide HIN
              rw [heq] at this
              exact this
            have hRt : R = true := by rw [← unhide HR]; exact decide_eq_true (unhide HI2)
            subst hRt
            clear hx hy hz HN HIN heq
            go_wp2_with fail
            go_ret
            exact ⟨rfl, ((unhide HBX) _).low⟩
          · have s3 : (x3 == y3) = false := by rw [beq_eq_false_iff_ne]; exact hz
            have hne3 : (⟨x1, x2, x3⟩ : MR) ≠ ⟨y1, y2, y3⟩ := by simp [hz]
            have HN2 := hide (unhide HN hne3)
            clear hne3 HN HIN
            go_wp2_with fail
            go_roundw
            case rel => exact ⟨k + 1, by omega, by go_num, unhide HN2, (unhide HBX) _, unhide HLW _⟩
            case measure => simp [intOf]; omega
        · have s2 := S_eq x2 y2
          rw [decide_eq_false hy] at s2
          have hne3 : (⟨x1, x2, x3⟩ : MR) ≠ ⟨y1, y2, y3⟩ := by simp [hy]
          have HN2 := hide (unhide HN hne3)
          clear hne3 HN HIN
          go_wp2_with fail
          go_roundw
          case rel => exact ⟨k + 1, by omega, by go_num, unhide HN2, (unhide HBX) _, unhide HLW _⟩
          case measure => simp [intOf]; omega
      · have s1 : (x1 == y1) = false := by rw [beq_eq_false_iff_ne]; exact hx
        have hne3 : (⟨x1, x2, x3⟩ : MR) ≠ ⟨y1, y2, y3⟩ := by simp [hx]
        have HN2 := hide (unhide HN hne3)
        clear hne3 HN HIN
        go_wp2_with fail
        go_roundw
        case rel => exact ⟨k + 1, by omega, by go_num, unhide HN2, (unhide HBX) _, unhide HLW _⟩
        case measure => simp [intOf]; omega
    · have hRf : R = false := by rw [← unhide HR]; exact decide_eq_false (not_mem_all hlt hno)
      subst hRf
      have HL := hide hbx.low
      have hkn : k = l.length := by omega
      clear hno hlow hbx
      subst hkn
      go_wp2_with fail
      go_ret
      exact ⟨rfl, unhide HL⟩
end Go.Proofs.YtcialbhmmbcgjaaDoor
/- The contracts of Apply, the program's (of a call of the state's type) and the document's. -/
namespace Go.Proofs.YtcialbhmmbcgjaaDoor
open Go.RowKit
set_option linter.unusedVariables false
set_option maxRecDepth 100000

/- Behind four new boxes: a state's, a call's, an answer's, a result's. -/
def B4 (w : World) (A B C D : Obj) (w1 : World) : Prop := Below (w.heap.size + 1 + 1 + 1 + 1) ((((w.alloc A).alloc B).alloc C).alloc D) w1
section
variable {w w1 w2 : World} {A B C D : Obj}
theorem B4.start (w : World) (A B C D : Obj) : B4 w A B C D ((((w.alloc A).alloc B).alloc C).alloc D) := Below.refl _ _
theorem B4.drew (h : B4 w A B C D w1) : B4 w A B C D w1.drew := Below.drew h
theorem B4.size (h : B4 w A B C D w1) : w.heap.size + 1 + 1 + 1 + 1 ≤ w1.heap.size := by
  have hs := Below.size h
  rwa [World.size_alloc, World.size_alloc, World.size_alloc, World.size_alloc] at hs
theorem B4.below (h : B4 w A B C D w1) (hb : Below w1.heap.size w1 w2) : B4 w A B C D w2 := Below.trans h (hb.mono h.size)
theorem B4.low (h : B4 w A B C D w1) : Below w.heap.size w w1 := (((under_two w A B).alloc (by simp; omega) C).alloc (by simp; omega) D).trans (Below.mono h (by omega))
theorem B4.b3 (h : B4 w A B C D w1) : B3 w A B C w1 := ((Below.refl _ _).alloc (by simp) D).trans (Below.mono h (by omega))
theorem B4.last (h : B4 w A B C D w1) : w1.heap[w.heap.size + 1 + 1 + 1]? = some D := by
  rw [Below.block h _ (by omega)]
  have := heap_alloc_new (((w.alloc A).alloc B).alloc C) D
  rwa [World.size_alloc, World.size_alloc, World.size_alloc] at this
theorem B4.scr {a b c a' b' c' d' x y z : Value} {t t' t'' : TypeId} (hA : A = .cells #[a, b, c] t (0, 0)) (hB : B = .cells #[a', b', c', d'] t' (0, 0)) (hC : C = .cells #[x, y, z] t'' (0, 0)) :
    (∀ w1, B4 w A B C D w1 → w1.cell? ⟨w.heap.size, 0, none⟩ = some a) ∧ (∀ w1, B4 w A B C D w1 → w1.cell? ⟨w.heap.size, 1, none⟩ = some b) ∧ (∀ w1, B4 w A B C D w1 → w1.cell? ⟨w.heap.size, 2, none⟩ = some c) ∧
    (∀ w1, B4 w A B C D w1 → w1.cell? ⟨w.heap.size + 1, 0, none⟩ = some a') ∧ (∀ w1, B4 w A B C D w1 → w1.cell? ⟨w.heap.size + 1, 1, none⟩ = some b') ∧ (∀ w1, B4 w A B C D w1 → w1.cell? ⟨w.heap.size + 1, 2, none⟩ = some c') ∧ (∀ w1, B4 w A B C D w1 → w1.cell? ⟨w.heap.size + 1, 3, none⟩ = some d') ∧
    (∀ w1, B4 w A B C D w1 → w1.cell? ⟨w.heap.size + 1 + 1, 0, none⟩ = some x) ∧ (∀ w1, B4 w A B C D w1 → w1.cell? ⟨w.heap.size + 1 + 1, 1, none⟩ = some y) ∧ (∀ w1, B4 w A B C D w1 → w1.cell? ⟨w.heap.size + 1 + 1, 2, none⟩ = some z) := by
  obtain ⟨c0, c1, c2, c3, c4, c5, c6, c7, c8, c9⟩ := B3.scr (w := w) hA hB hC
  exact ⟨fun w1 h => c0 w1 h.b3, fun w1 h => c1 w1 h.b3, fun w1 h => c2 w1 h.b3, fun w1 h => c3 w1 h.b3, fun w1 h => c4 w1 h.b3, fun w1 h => c5 w1 h.b3, fun w1 h => c6 w1 h.b3, fun w1 h => c7 w1 h.b3, fun w1 h => c8 w1 h.b3, fun w1 h => c9 w1 h.b3⟩
/- The result's box is written. -/
theorem B4.give {a b c : Value} {t : TypeId} (h : B4 w A B C (.cells #[a, b, c] t (0, 0)) w1) (x y z : Value) :
    (put3 w1 (w.heap.size + 1 + 1 + 1) x y z).cell? ⟨w.heap.size + 1 + 1 + 1, 0, none⟩ = some x ∧ (put3 w1 (w.heap.size + 1 + 1 + 1) x y z).cell? ⟨w.heap.size + 1 + 1 + 1, 1, none⟩ = some y ∧ (put3 w1 (w.heap.size + 1 + 1 + 1) x y z).cell? ⟨w.heap.size + 1 + 1 + 1, 2, none⟩ = some z ∧ Below w.heap.size w (put3 w1 (w.heap.size + 1 + 1 + 1) x y z) ∧
    (∀ (base k : Nat) (u : Value) (nn : Nat) (xs : List Value) (e : TypeId), w.heap.size + 1 + 1 + 1 < base → w1.ownsRow base e k u nn xs → (put3 w1 (w.heap.size + 1 + 1 + 1) x y z).ownsRow w.heap.size e k u nn xs) ∧
    w1.cell? ⟨w.heap.size + 1 + 1 + 1, 0, none⟩ = some a ∧ w1.cell? ⟨w.heap.size + 1 + 1 + 1, 1, none⟩ = some b ∧ w1.cell? ⟨w.heap.size + 1 + 1 + 1, 2, none⟩ = some c ∧ ∀ j, w1.frozen? ⟨w.heap.size + 1 + 1 + 1, j, none⟩ = false := give3 h.low (by omega) h.last x y z
end
theorem apply_op {put : VS → List UInt8 × List UInt8 → VS} {s : VS} {c : MC} {r : MR} (hk : (mfact c.op).kind = s.kind) (hch : mchanges c.op c.n r.code = true) : applyBy put s c r =
    if c.op = 2 then (if c.a = [] then ⟨s.kind, s.n, []⟩ else put ⟨s.kind, s.n, []⟩ (c.a, []))
    else if c.op = 3 ∨ c.op = 5 then ⟨s.kind, wrap64 (s.n + c.n), s.rows⟩
    else if c.op = 6 then ⟨s.kind, wrap64 (s.n - c.n), s.rows⟩
    else if c.op = 8 ∨ c.op = 11 ∨ c.op = 14 ∨ c.op = 16 then put s (c.a, c.b)
    else if c.op = 9 ∨ c.op = 12 then s.gone c.a
    else s.gone r.text := by
  unfold applyBy
  rw [if_neg (by rw [hk, hch]; simp)]
theorem apply_not {put : VS → List UInt8 × List UInt8 → VS} {s : VS} {c : MC} {r : MR} (hch : mchanges c.op c.n r.code = false) : applyBy put s c r = s := by
  unfold applyBy
  rw [if_pos (Or.inr hch)]
theorem neg_wrap (x m : Int) : wrap64 (x + IntKind.i64.wrap (-m)) = wrap64 (x - m) := by
  rw [IntKind.wrap_i64]
  unfold wrap64
  omega
theorem no_change {op n code : Int} (h : okOp op) (hch : mchanges op n code = true) : op = 2 ∨ op = 3 ∨ op = 5 ∨ op = 6 ∨ op = 8 ∨ op = 9 ∨ op = 11 ∨ op = 12 ∨ op = 14 ∨ op = 15 ∨ op = 16 ∨ op = 17 := by
  rcases op_cases h with rfl | rfl | rfl | rfl | rfl | rfl | rfl | rfl | rfl | rfl | rfl | rfl | rfl | rfl | rfl | rfl | rfl <;> first | omega | (simp [mchanges] at hch)

set_option maxHeartbeats 51200000 in
theorem aapply_eq {base : Nat} {w : World} {v : Value} {s : VS} {c : MC} (h : StOwn base 70 w v s) (hs : s.rows.length ≤ 1000) (hop : okOp c.op) (hw : MD w) (r : MR) (hk : (mfact c.op).kind = s.kind) :
    Calls Tryd.prog 19 #[v, mcV c, mrV r] w fun e w' => ∃ v', e = .returned v' ∧ StOwn w.heap.size 70 w' v' (apply1 s c r) ∧ Below w.heap.size w w' := by
  have HKI := hide (fun (w1 : World) (hb : Below w.heap.size w w1) => mkind_any (hw.later hb) c.op)
  have HCH := hide (fun (w1 : World) => mchanges_any (w := w1) c r)
  have HCL := hide (fun (w1 : World) (hb : Below w.heap.size w w1) => vclone_any (h.later hb) hs)
  have HWR := hide (fun (w1 : World) (hb : Below w.heap.size w w1) (t : List UInt8) => awritten_any (h.later hb) t)
  have HPL := hide (fun (w1 : World) (hb : Below w.heap.size w w1) (m : Int) => aplus_any (h.later hb) hs m)
  have HWI := hide (fun (w1 : World) (hb : Below w.heap.size w w1) (x : List UInt8 × List UInt8) => with_any (h.at.later hb) hs x)
  have HGO := hide (fun (w1 : World) (hb : Below w.heap.size w w1) (t : List UInt8) => awithout_any (h.later hb) hs t)
  have HOPE := hide (fun (hch : mchanges c.op c.n r.code = true) => apply_op (put := VS.with) hk hch)
  have HNOT := hide (fun (hch : mchanges c.op c.n r.code = false) => apply_not (put := VS.with) (s := s) hch)
  unfold apply1
  rw [hk] at HKI
  obtain ⟨op, ca, cb, cn⟩ := c
  obtain ⟨y1, y2, y3⟩ := r
  unfold mcV mrV at *
  dsimp only at *
  have e0 : (s.kind != s.kind) = false := by simp
  obtain ⟨X, hX⟩ : ∃ X, mchanges op cn y1 = X := ⟨_, rfl⟩
  have HX := hide hX
  rw [hX] at HCH HOPE HNOT
  clear hX
  cases X
  · rw [unhide HNOT rfl]
    clear HNOT HOPE HWR HPL HWI HGO hk HX
    obtain ⟨k0, rfl, hr⟩ := h
    obtain ⟨a, cc, rfl, _⟩ := ownsRow_slice hr
    obtain ⟨kd, n, rows⟩ := s
    dsimp only at *
    obtain ⟨A, hA⟩ : ∃ A : Obj, A = .cells #[.int .i64 kd, .int .i64 n, .slice a rows.length cc] 24 (0, 0) := ⟨_, rfl⟩
    obtain ⟨B, hB⟩ : ∃ B : Obj, B = .cells #[.int .i64 op, .string (S ca), .string (S cb), .int .i64 cn] 27 (0, 0) := ⟨_, rfl⟩
    obtain ⟨C, hC⟩ : ∃ C : Obj, C = .cells #[.int .i64 y1, .string (S y2), .int .i64 y3] 44 (0, 0) := ⟨_, rfl⟩
    obtain ⟨c0, c1, c2, k0, k1, k2, k3, r0, r1, r2⟩ := B4.scr (w := w) (D := .cells #[.int .i64 0, .int .i64 0, .slice none 0 0] 24 (0, 0)) hA hB hC
    have hst := B4.start w A B C (.cells #[.int .i64 0, .int .i64 0, .slice none 0 0] 24 (0, 0))
    have hstd := hst.drew
    clear hr hw hs hop
    go_enter Tryd.func19, Tryd.ntmps19
    go_wp2_with fail
    rw [← hA, ← hB, ← hC]
    clear hA hB hC
    go_region_held3 (fun w' => B4 w A B C (.cells #[.int .i64 0, .int .i64 0, .slice none 0 0] 24 (0, 0)) w') (with_reducible (first | exact hstd | exact hst | (refine B4.below ?_ (by assumption) <;> assumption)))
      (first | (go_at_call 33; refine (unhide HKI _ (B4.low (by assumption))).mono ?_; rintro e wm ⟨rfl, hbm⟩) | (go_at_call 46; refine (unhide HCH _).mono ?_; rintro e wn ⟨rfl, hbn⟩) | fail)
    have hx0 : B4 w A B C (.cells #[.int .i64 0, .int .i64 0, .slice none 0 0] 24 (0, 0)) wn := by assumption
    clear hbm hbn hst hstd HKI HCH
    go_wp2_with fail
    refine (unhide HCL _ hx0.low).mono ?_
    rintro e w2 ⟨v2, rfl, ⟨k2, rfl, ho⟩, hb⟩
    obtain ⟨ka, kc, rfl, _⟩ := ownsRow_slice ho
    have hx2 := hx0.below hb
    obtain ⟨z0, z1, z2, zl, zo, y0, y1, y2, f1⟩ := hx2.give (.int .i64 kd) (.int .i64 n) (.slice ka rows.length kc)
    have ZO := hide (zo _ _ _ _ _ _ (by have := hx0.size; omega) ho)
    unfold put3 at z0 z1 z2 zl ZO
    have ZL := hide zl
    clear hx2 hb ho zo zl hx0
    go_wp2_with fail
    exact bodyPost_ret (v := .agg #[.int .i64 kd, .int .i64 n, .slice ka rows.length kc]) (by simp [results, Tryd.results19, go_sem, z0, z1, z2]) rfl ⟨_, rfl, ⟨_, rfl, unhide ZO⟩, unhide ZL⟩
  · rw [unhide HOPE rfl]
    clear HNOT HOPE HCL
    rcases no_change hop (unhide HX) with rfl | rfl | rfl | rfl | rfl | rfl | rfl | rfl | rfl | rfl | rfl | rfl
    · have HC2 := hide (fun (w1 : World) (hb : Below w.heap.size w w1) => unhide HWR w1 hb ca)
      rw [if_pos rfl]
      generalize (if ca = [] then (⟨s.kind, s.n, []⟩ : VS) else VS.with ⟨s.kind, s.n, []⟩ (ca, [])) = y at *
      clear HWR HPL HWI HGO hk HX
      obtain ⟨k0, rfl, hr⟩ := h
      obtain ⟨a, cc, rfl, _⟩ := ownsRow_slice hr
      obtain ⟨kd, n, rows⟩ := s
      dsimp only at *
      obtain ⟨A, hA⟩ : ∃ A : Obj, A = .cells #[.int .i64 kd, .int .i64 n, .slice a rows.length cc] 24 (0, 0) := ⟨_, rfl⟩
      obtain ⟨B, hB⟩ : ∃ B : Obj, B = .cells #[.int .i64 2, .string (S ca), .string (S cb), .int .i64 cn] 27 (0, 0) := ⟨_, rfl⟩
      obtain ⟨C, hC⟩ : ∃ C : Obj, C = .cells #[.int .i64 y1, .string (S y2), .int .i64 y3] 44 (0, 0) := ⟨_, rfl⟩
      obtain ⟨c0, c1, c2, k0, k1, k2, k3, r0, r1, r2⟩ := B4.scr (w := w) (D := .cells #[.int .i64 0, .int .i64 0, .slice none 0 0] 24 (0, 0)) hA hB hC
      have hst := B4.start w A B C (.cells #[.int .i64 0, .int .i64 0, .slice none 0 0] 24 (0, 0))
      have hstd := hst.drew
      clear hr hw hs hop
      go_enter Tryd.func19, Tryd.ntmps19
      go_wp2_with fail
      rw [← hA, ← hB, ← hC]
      clear hA hB hC
      go_region_held3 (fun w' => B4 w A B C (.cells #[.int .i64 0, .int .i64 0, .slice none 0 0] 24 (0, 0)) w') (with_reducible (first | exact hstd | exact hst | (refine B4.below ?_ (by assumption) <;> assumption)))
        (first | (go_at_call 33; refine (unhide HKI _ (B4.low (by assumption))).mono ?_; rintro e wm ⟨rfl, hbm⟩) | (go_at_call 46; refine (unhide HCH _).mono ?_; rintro e wn ⟨rfl, hbn⟩) | fail)
      have hx0 : B4 w A B C (.cells #[.int .i64 0, .int .i64 0, .slice none 0 0] 24 (0, 0)) wn := by assumption
      clear hbm hbn hst hstd HKI HCH
      go_wp2_with fail
      refine (unhide HC2 _ hx0.low).mono ?_
      rintro e w2 ⟨v2, rfl, ⟨k2, rfl, ho⟩, hb⟩
      obtain ⟨ka, kc, rfl, _⟩ := ownsRow_slice ho
      have hx2 := hx0.below hb
      obtain ⟨z0, z1, z2, zl, zo, y0, y1, y2, f1⟩ := hx2.give (.int .i64 y.kind) (.int .i64 y.n) (.slice ka y.rows.length kc)
      have ZO := hide (zo _ _ _ _ _ _ (by have := hx0.size; omega) ho)
      unfold put3 at z0 z1 z2 zl ZO
      have ZL := hide zl
      clear hx2 hb ho zo zl hx0
      go_wp2_with fail
      exact bodyPost_ret (v := .agg #[.int .i64 y.kind, .int .i64 y.n, .slice ka y.rows.length kc]) (by simp [results, Tryd.results19, go_sem, z0, z1, z2]) rfl ⟨_, rfl, ⟨_, rfl, unhide ZO⟩, unhide ZL⟩
    · have HC2 := hide (fun (w1 : World) (hb : Below w.heap.size w w1) => unhide HPL w1 hb cn)
      rw [if_neg (by decide), if_pos (by decide)]
      generalize (⟨s.kind, wrap64 (s.n + cn), s.rows⟩ : VS) = y at *
      clear HWR HPL HWI HGO hk HX
      obtain ⟨k0, rfl, hr⟩ := h
      obtain ⟨a, cc, rfl, _⟩ := ownsRow_slice hr
      obtain ⟨kd, n, rows⟩ := s
      dsimp only at *
      obtain ⟨A, hA⟩ : ∃ A : Obj, A = .cells #[.int .i64 kd, .int .i64 n, .slice a rows.length cc] 24 (0, 0) := ⟨_, rfl⟩
      obtain ⟨B, hB⟩ : ∃ B : Obj, B = .cells #[.int .i64 3, .string (S ca), .string (S cb), .int .i64 cn] 27 (0, 0) := ⟨_, rfl⟩
      obtain ⟨C, hC⟩ : ∃ C : Obj, C = .cells #[.int .i64 y1, .string (S y2), .int .i64 y3] 44 (0, 0) := ⟨_, rfl⟩
      obtain ⟨c0, c1, c2, k0, k1, k2, k3, r0, r1, r2⟩ := B4.scr (w := w) (D := .cells #[.int .i64 0, .int .i64 0, .slice none 0 0] 24 (0, 0)) hA hB hC
      have hst := B4.start w A B C (.cells #[.int .i64 0, .int .i64 0, .slice none 0 0] 24 (0, 0))
      have hstd := hst.drew
      clear hr hw hs hop
      go_enter Tryd.func19, Tryd.ntmps19
      go_wp2_with fail
      rw [← hA, ← hB, ← hC]
      clear hA hB hC
      go_region_held3 (fun w' => B4 w A B C (.cells #[.int .i64 0, .int .i64 0, .slice none 0 0] 24 (0, 0)) w') (with_reducible (first | exact hstd | exact hst | (refine B4.below ?_ (by assumption) <;> assumption)))
        (first | (go_at_call 33; refine (unhide HKI _ (B4.low (by assumption))).mono ?_; rintro e wm ⟨rfl, hbm⟩) | (go_at_call 46; refine (unhide HCH _).mono ?_; rintro e wn ⟨rfl, hbn⟩) | fail)
      have hx0 : B4 w A B C (.cells #[.int .i64 0, .int .i64 0, .slice none 0 0] 24 (0, 0)) wn := by assumption
      clear hbm hbn hst hstd HKI HCH
      go_wp2_with fail
      refine (unhide HC2 _ hx0.low).mono ?_
      rintro e w2 ⟨v2, rfl, ⟨k2, rfl, ho⟩, hb⟩
      obtain ⟨ka, kc, rfl, _⟩ := ownsRow_slice ho
      have hx2 := hx0.below hb
      obtain ⟨z0, z1, z2, zl, zo, y0, y1, y2, f1⟩ := hx2.give (.int .i64 y.kind) (.int .i64 y.n) (.slice ka y.rows.length kc)
      have ZO := hide (zo _ _ _ _ _ _ (by have := hx0.size; omega) ho)
      unfold put3 at z0 z1 z2 zl ZO
      have ZL := hide zl
      clear hx2 hb ho zo zl hx0
      go_wp2_with fail
      exact bodyPost_ret (v := .agg #[.int .i64 y.kind, .int .i64 y.n, .slice ka y.rows.length kc]) (by simp [results, Tryd.results19, go_sem, z0, z1, z2]) rfl ⟨_, rfl, ⟨_, rfl, unhide ZO⟩, unhide ZL⟩
    · have HC2 := hide (fun (w1 : World) (hb : Below w.heap.size w w1) => unhide HPL w1 hb cn)
      rw [if_neg (by decide), if_pos (by decide)]
      generalize (⟨s.kind, wrap64 (s.n + cn), s.rows⟩ : VS) = y at *
      clear HWR HPL HWI HGO hk HX
      obtain ⟨k0, rfl, hr⟩ := h
      obtain ⟨a, cc, rfl, _⟩ := ownsRow_slice hr
      obtain ⟨kd, n, rows⟩ := s
      dsimp only at *
      obtain ⟨A, hA⟩ : ∃ A : Obj, A = .cells #[.int .i64 kd, .int .i64 n, .slice a rows.length cc] 24 (0, 0) := ⟨_, rfl⟩
      obtain ⟨B, hB⟩ : ∃ B : Obj, B = .cells #[.int .i64 5, .string (S ca), .string (S cb), .int .i64 cn] 27 (0, 0) := ⟨_, rfl⟩
      obtain ⟨C, hC⟩ : ∃ C : Obj, C = .cells #[.int .i64 y1, .string (S y2), .int .i64 y3] 44 (0, 0) := ⟨_, rfl⟩
      obtain ⟨c0, c1, c2, k0, k1, k2, k3, r0, r1, r2⟩ := B4.scr (w := w) (D := .cells #[.int .i64 0, .int .i64 0, .slice none 0 0] 24 (0, 0)) hA hB hC
      have hst := B4.start w A B C (.cells #[.int .i64 0, .int .i64 0, .slice none 0 0] 24 (0, 0))
      have hstd := hst.drew
      clear hr hw hs hop
      go_enter Tryd.func19, Tryd.ntmps19
      go_wp2_with fail
      rw [← hA, ← hB, ← hC]
      clear hA hB hC
      go_region_held3 (fun w' => B4 w A B C (.cells #[.int .i64 0, .int .i64 0, .slice none 0 0] 24 (0, 0)) w') (with_reducible (first | exact hstd | exact hst | (refine B4.below ?_ (by assumption) <;> assumption)))
        (first | (go_at_call 33; refine (unhide HKI _ (B4.low (by assumption))).mono ?_; rintro e wm ⟨rfl, hbm⟩) | (go_at_call 46; refine (unhide HCH _).mono ?_; rintro e wn ⟨rfl, hbn⟩) | fail)
      have hx0 : B4 w A B C (.cells #[.int .i64 0, .int .i64 0, .slice none 0 0] 24 (0, 0)) wn := by assumption
      clear hbm hbn hst hstd HKI HCH
      go_wp2_with fail
      refine (unhide HC2 _ hx0.low).mono ?_
      rintro e w2 ⟨v2, rfl, ⟨k2, rfl, ho⟩, hb⟩
      obtain ⟨ka, kc, rfl, _⟩ := ownsRow_slice ho
      have hx2 := hx0.below hb
      obtain ⟨z0, z1, z2, zl, zo, y0, y1, y2, f1⟩ := hx2.give (.int .i64 y.kind) (.int .i64 y.n) (.slice ka y.rows.length kc)
      have ZO := hide (zo _ _ _ _ _ _ (by have := hx0.size; omega) ho)
      unfold put3 at z0 z1 z2 zl ZO
      have ZL := hide zl
      clear hx2 hb ho zo zl hx0
      go_wp2_with fail
      exact bodyPost_ret (v := .agg #[.int .i64 y.kind, .int .i64 y.n, .slice ka y.rows.length kc]) (by simp [results, Tryd.results19, go_sem, z0, z1, z2]) rfl ⟨_, rfl, ⟨_, rfl, unhide ZO⟩, unhide ZL⟩
    · obtain ⟨m, hm⟩ : ∃ m, IntKind.i64.wrap (-cn) = m := ⟨_, rfl⟩
      have HC2 := hide (fun (w1 : World) (hb : Below w.heap.size w w1) => unhide HPL w1 hb m)
      rw [if_neg (by decide), if_neg (by decide), if_pos rfl, ← neg_wrap, hm]
      generalize (⟨s.kind, wrap64 (s.n + m), s.rows⟩ : VS) = y at *
      clear HWR HPL HWI HGO hk HX
      obtain ⟨k0, rfl, hr⟩ := h
      obtain ⟨a, cc, rfl, _⟩ := ownsRow_slice hr
      obtain ⟨kd, n, rows⟩ := s
      dsimp only at *
      obtain ⟨A, hA⟩ : ∃ A : Obj, A = .cells #[.int .i64 kd, .int .i64 n, .slice a rows.length cc] 24 (0, 0) := ⟨_, rfl⟩
      obtain ⟨B, hB⟩ : ∃ B : Obj, B = .cells #[.int .i64 6, .string (S ca), .string (S cb), .int .i64 cn] 27 (0, 0) := ⟨_, rfl⟩
      obtain ⟨C, hC⟩ : ∃ C : Obj, C = .cells #[.int .i64 y1, .string (S y2), .int .i64 y3] 44 (0, 0) := ⟨_, rfl⟩
      obtain ⟨c0, c1, c2, k0, k1, k2, k3, r0, r1, r2⟩ := B4.scr (w := w) (D := .cells #[.int .i64 0, .int .i64 0, .slice none 0 0] 24 (0, 0)) hA hB hC
      have hst := B4.start w A B C (.cells #[.int .i64 0, .int .i64 0, .slice none 0 0] 24 (0, 0))
      have hstd := hst.drew
      clear hr hw hs hop
      go_enter Tryd.func19, Tryd.ntmps19
      go_wp2_with fail
      rw [← hA, ← hB, ← hC]
      clear hA hB hC
      go_region_held3 (fun w' => B4 w A B C (.cells #[.int .i64 0, .int .i64 0, .slice none 0 0] 24 (0, 0)) w') (with_reducible (first | exact hstd | exact hst | (refine B4.below ?_ (by assumption) <;> assumption)))
        (first | (go_at_call 33; refine (unhide HKI _ (B4.low (by assumption))).mono ?_; rintro e wm ⟨rfl, hbm⟩) | (go_at_call 46; refine (unhide HCH _).mono ?_; rintro e wn ⟨rfl, hbn⟩) | fail)
      have hx0 : B4 w A B C (.cells #[.int .i64 0, .int .i64 0, .slice none 0 0] 24 (0, 0)) wn := by assumption
      clear hbm hbn hst hstd HKI HCH
      go_wp2_with fail
      refine (unhide HC2 _ hx0.low).mono ?_
      rintro e w2 ⟨v2, rfl, ⟨k2, rfl, ho⟩, hb⟩
      obtain ⟨ka, kc, rfl, _⟩ := ownsRow_slice ho
      have hx2 := hx0.below hb
      obtain ⟨z0, z1, z2, zl, zo, y0, y1, y2, f1⟩ := hx2.give (.int .i64 y.kind) (.int .i64 y.n) (.slice ka y.rows.length kc)
      have ZO := hide (zo _ _ _ _ _ _ (by have := hx0.size; omega) ho)
      unfold put3 at z0 z1 z2 zl ZO
      have ZL := hide zl
      clear hx2 hb ho zo zl hx0
      go_wp2_with fail
      exact bodyPost_ret (v := .agg #[.int .i64 y.kind, .int .i64 y.n, .slice ka y.rows.length kc]) (by simp [results, Tryd.results19, go_sem, z0, z1, z2]) rfl ⟨_, rfl, ⟨_, rfl, unhide ZO⟩, unhide ZL⟩
    · have HC2 := hide (fun (w1 : World) (hb : Below w.heap.size w w1) => unhide HWI w1 hb (ca, cb))
      rw [if_neg (by decide), if_neg (by decide), if_neg (by decide), if_pos (by decide)]
      generalize s.with (ca, cb) = y at *
      clear HWR HPL HWI HGO hk HX
      obtain ⟨k0, rfl, hr⟩ := h
      obtain ⟨a, cc, rfl, _⟩ := ownsRow_slice hr
      obtain ⟨kd, n, rows⟩ := s
      dsimp only at *
      obtain ⟨A, hA⟩ : ∃ A : Obj, A = .cells #[.int .i64 kd, .int .i64 n, .slice a rows.length cc] 24 (0, 0) := ⟨_, rfl⟩
      obtain ⟨B, hB⟩ : ∃ B : Obj, B = .cells #[.int .i64 8, .string (S ca), .string (S cb), .int .i64 cn] 27 (0, 0) := ⟨_, rfl⟩
      obtain ⟨C, hC⟩ : ∃ C : Obj, C = .cells #[.int .i64 y1, .string (S y2), .int .i64 y3] 44 (0, 0) := ⟨_, rfl⟩
      obtain ⟨c0, c1, c2, k0, k1, k2, k3, r0, r1, r2⟩ := B4.scr (w := w) (D := .cells #[.int .i64 0, .int .i64 0, .slice none 0 0] 24 (0, 0)) hA hB hC
      have hst := B4.start w A B C (.cells #[.int .i64 0, .int .i64 0, .slice none 0 0] 24 (0, 0))
      have hstd := hst.drew
      clear hr hw hs hop
      go_enter Tryd.func19, Tryd.ntmps19
      go_wp2_with fail
      rw [← hA, ← hB, ← hC]
      clear hA hB hC
      go_region_held3 (fun w' => B4 w A B C (.cells #[.int .i64 0, .int .i64 0, .slice none 0 0] 24 (0, 0)) w') (with_reducible (first | exact hstd | exact hst | (refine B4.below ?_ (by assumption) <;> assumption)))
        (first | (go_at_call 33; refine (unhide HKI _ (B4.low (by assumption))).mono ?_; rintro e wm ⟨rfl, hbm⟩) | (go_at_call 46; refine (unhide HCH _).mono ?_; rintro e wn ⟨rfl, hbn⟩) | fail)
      have hx0 : B4 w A B C (.cells #[.int .i64 0, .int .i64 0, .slice none 0 0] 24 (0, 0)) wn := by assumption
      clear hbm hbn hst hstd HKI HCH
      go_wp2_with fail
      refine (unhide HC2 _ hx0.low).mono ?_
      rintro e w2 ⟨v2, rfl, ⟨k2, rfl, ho⟩, hb⟩
      obtain ⟨ka, kc, rfl, _⟩ := ownsRow_slice ho
      have hx2 := hx0.below hb
      obtain ⟨z0, z1, z2, zl, zo, y0, y1, y2, f1⟩ := hx2.give (.int .i64 y.kind) (.int .i64 y.n) (.slice ka y.rows.length kc)
      have ZO := hide (zo _ _ _ _ _ _ (by have := hx0.size; omega) ho)
      unfold put3 at z0 z1 z2 zl ZO
      have ZL := hide zl
      clear hx2 hb ho zo zl hx0
      go_wp2_with fail
      exact bodyPost_ret (v := .agg #[.int .i64 y.kind, .int .i64 y.n, .slice ka y.rows.length kc]) (by simp [results, Tryd.results19, go_sem, z0, z1, z2]) rfl ⟨_, rfl, ⟨_, rfl, unhide ZO⟩, unhide ZL⟩
    · have HC2 := hide (fun (w1 : World) (hb : Below w.heap.size w w1) => unhide HGO w1 hb ca)
      rw [if_neg (by decide), if_neg (by decide), if_neg (by decide), if_neg (by decide), if_pos (by decide)]
      generalize s.gone ca = y at *
      clear HWR HPL HWI HGO hk HX
      obtain ⟨k0, rfl, hr⟩ := h
      obtain ⟨a, cc, rfl, _⟩ := ownsRow_slice hr
      obtain ⟨kd, n, rows⟩ := s
      dsimp only at *
      obtain ⟨A, hA⟩ : ∃ A : Obj, A = .cells #[.int .i64 kd, .int .i64 n, .slice a rows.length cc] 24 (0, 0) := ⟨_, rfl⟩
      obtain ⟨B, hB⟩ : ∃ B : Obj, B = .cells #[.int .i64 9, .string (S ca), .string (S cb), .int .i64 cn] 27 (0, 0) := ⟨_, rfl⟩
      obtain ⟨C, hC⟩ : ∃ C : Obj, C = .cells #[.int .i64 y1, .string (S y2), .int .i64 y3] 44 (0, 0) := ⟨_, rfl⟩
      obtain ⟨c0, c1, c2, k0, k1, k2, k3, r0, r1, r2⟩ := B4.scr (w := w) (D := .cells #[.int .i64 0, .int .i64 0, .slice none 0 0] 24 (0, 0)) hA hB hC
      have hst := B4.start w A B C (.cells #[.int .i64 0, .int .i64 0, .slice none 0 0] 24 (0, 0))
      have hstd := hst.drew
      clear hr hw hs hop
      go_enter Tryd.func19, Tryd.ntmps19
      go_wp2_with fail
      rw [← hA, ← hB, ← hC]
      clear hA hB hC
      go_region_held3 (fun w' => B4 w A B C (.cells #[.int .i64 0, .int .i64 0, .slice none 0 0] 24 (0, 0)) w') (with_reducible (first | exact hstd | exact hst | (refine B4.below ?_ (by assumption) <;> assumption)))
        (first | (go_at_call 33; refine (unhide HKI _ (B4.low (by assumption))).mono ?_; rintro e wm ⟨rfl, hbm⟩) | (go_at_call 46; refine (unhide HCH _).mono ?_; rintro e wn ⟨rfl, hbn⟩) | fail)
      have hx0 : B4 w A B C (.cells #[.int .i64 0, .int .i64 0, .slice none 0 0] 24 (0, 0)) wn := by assumption
      clear hbm hbn hst hstd HKI HCH
      go_wp2_with fail
      refine (unhide HC2 _ hx0.low).mono ?_
      rintro e w2 ⟨v2, rfl, ⟨k2, rfl, ho⟩, hb⟩
      obtain ⟨ka, kc, rfl, _⟩ := ownsRow_slice ho
      have hx2 := hx0.below hb
      obtain ⟨z0, z1, z2, zl, zo, y0, y1, y2, f1⟩ := hx2.give (.int .i64 y.kind) (.int .i64 y.n) (.slice ka y.rows.length kc)
      have ZO := hide (zo _ _ _ _ _ _ (by have := hx0.size; omega) ho)
      unfold put3 at z0 z1 z2 zl ZO
      have ZL := hide zl
      clear hx2 hb ho zo zl hx0
      go_wp2_with fail
      exact bodyPost_ret (v := .agg #[.int .i64 y.kind, .int .i64 y.n, .slice ka y.rows.length kc]) (by simp [results, Tryd.results19, go_sem, z0, z1, z2]) rfl ⟨_, rfl, ⟨_, rfl, unhide ZO⟩, unhide ZL⟩
    · have HC2 := hide (fun (w1 : World) (hb : Below w.heap.size w w1) => unhide HWI w1 hb (ca, cb))
      rw [if_neg (by decide), if_neg (by decide), if_neg (by decide), if_pos (by decide)]
      generalize s.with (ca, cb) = y at *
      clear HWR HPL HWI HGO hk HX
      obtain ⟨k0, rfl, hr⟩ := h
      obtain ⟨a, cc, rfl, _⟩ := ownsRow_slice hr
      obtain ⟨kd, n, rows⟩ := s
      dsimp only at *
      obtain ⟨A, hA⟩ : ∃ A : Obj, A = .cells #[.int .i64 kd, .int .i64 n, .slice a rows.length cc] 24 (0, 0) := ⟨_, rfl⟩
      obtain ⟨B, hB⟩ : ∃ B : Obj, B = .cells #[.int .i64 11, .string (S ca), .string (S cb), .int .i64 cn] 27 (0, 0) := ⟨_, rfl⟩
      obtain ⟨C, hC⟩ : ∃ C : Obj, C = .cells #[.int .i64 y1, .string (S y2), .int .i64 y3] 44 (0, 0) := ⟨_, rfl⟩
      obtain ⟨c0, c1, c2, k0, k1, k2, k3, r0, r1, r2⟩ := B4.scr (w := w) (D := .cells #[.int .i64 0, .int .i64 0, .slice none 0 0] 24 (0, 0)) hA hB hC
      have hst := B4.start w A B C (.cells #[.int .i64 0, .int .i64 0, .slice none 0 0] 24 (0, 0))
      have hstd := hst.drew
      clear hr hw hs hop
      go_enter Tryd.func19, Tryd.ntmps19
      go_wp2_with fail
      rw [← hA, ← hB, ← hC]
      clear hA hB hC
      go_region_held3 (fun w' => B4 w A B C (.cells #[.int .i64 0, .int .i64 0, .slice none 0 0] 24 (0, 0)) w') (with_reducible (first | exact hstd | exact hst | (refine B4.below ?_ (by assumption) <;> assumption)))
        (first | (go_at_call 33; refine (unhide HKI _ (B4.low (by assumption))).mono ?_; rintro e wm ⟨rfl, hbm⟩) | (go_at_call 46; refine (unhide HCH _).mono ?_; rintro e wn ⟨rfl, hbn⟩) | fail)
      have hx0 : B4 w A B C (.cells #[.int .i64 0, .int .i64 0, .slice none 0 0] 24 (0, 0)) wn := by assumption
      clear hbm hbn hst hstd HKI HCH
      go_wp2_with fail
      refine (unhide HC2 _ hx0.low).mono ?_
      rintro e w2 ⟨v2, rfl, ⟨k2, rfl, ho⟩, hb⟩
      obtain ⟨ka, kc, rfl, _⟩ := ownsRow_slice ho
      have hx2 := hx0.below hb
      obtain ⟨z0, z1, z2, zl, zo, y0, y1, y2, f1⟩ := hx2.give (.int .i64 y.kind) (.int .i64 y.n) (.slice ka y.rows.length kc)
      have ZO := hide (zo _ _ _ _ _ _ (by have := hx0.size; omega) ho)
      unfold put3 at z0 z1 z2 zl ZO
      have ZL := hide zl
      clear hx2 hb ho zo zl hx0
      go_wp2_with fail
      exact bodyPost_ret (v := .agg #[.int .i64 y.kind, .int .i64 y.n, .slice ka y.rows.length kc]) (by simp [results, Tryd.results19, go_sem, z0, z1, z2]) rfl ⟨_, rfl, ⟨_, rfl, unhide ZO⟩, unhide ZL⟩
    · have HC2 := hide (fun (w1 : World) (hb : Below w.heap.size w w1) => unhide HGO w1 hb ca)
      rw [if_neg (by decide), if_neg (by decide), if_neg (by decide), if_neg (by decide), if_pos (by decide)]
      generalize s.gone ca = y at *
      clear HWR HPL HWI HGO hk HX
      obtain ⟨k0, rfl, hr⟩ := h
      obtain ⟨a, cc, rfl, _⟩ := ownsRow_slice hr
      obtain ⟨kd, n, rows⟩ := s
      dsimp only at *
      obtain ⟨A, hA⟩ : ∃ A : Obj, A = .cells #[.int .i64 kd, .int .i64 n, .slice a rows.length cc] 24 (0, 0) := ⟨_, rfl⟩
      obtain ⟨B, hB⟩ : ∃ B : Obj, B = .cells #[.int .i64 12, .string (S ca), .string (S cb), .int .i64 cn] 27 (0, 0) := ⟨_, rfl⟩
      obtain ⟨C, hC⟩ : ∃ C : Obj, C = .cells #[.int .i64 y1, .string (S y2), .int .i64 y3] 44 (0, 0) := ⟨_, rfl⟩
      obtain ⟨c0, c1, c2, k0, k1, k2, k3, r0, r1, r2⟩ := B4.scr (w := w) (D := .cells #[.int .i64 0, .int .i64 0, .slice none 0 0] 24 (0, 0)) hA hB hC
      have hst := B4.start w A B C (.cells #[.int .i64 0, .int .i64 0, .slice none 0 0] 24 (0, 0))
      have hstd := hst.drew
      clear hr hw hs hop
      go_enter Tryd.func19, Tryd.ntmps19
      go_wp2_with fail
      rw [← hA, ← hB, ← hC]
      clear hA hB hC
      go_region_held3 (fun w' => B4 w A B C (.cells #[.int .i64 0, .int .i64 0, .slice none 0 0] 24 (0, 0)) w') (with_reducible (first | exact hstd | exact hst | (refine B4.below ?_ (by assumption) <;> assumption)))
        (first | (go_at_call 33; refine (unhide HKI _ (B4.low (by assumption))).mono ?_; rintro e wm ⟨rfl, hbm⟩) | (go_at_call 46; refine (unhide HCH _).mono ?_; rintro e wn ⟨rfl, hbn⟩) | fail)
      have hx0 : B4 w A B C (.cells #[.int .i64 0, .int .i64 0, .slice none 0 0] 24 (0, 0)) wn := by assumption
      clear hbm hbn hst hstd HKI HCH
      go_wp2_with fail
      refine (unhide HC2 _ hx0.low).mono ?_
      rintro e w2 ⟨v2, rfl, ⟨k2, rfl, ho⟩, hb⟩
      obtain ⟨ka, kc, rfl, _⟩ := ownsRow_slice ho
      have hx2 := hx0.below hb
      obtain ⟨z0, z1, z2, zl, zo, y0, y1, y2, f1⟩ := hx2.give (.int .i64 y.kind) (.int .i64 y.n) (.slice ka y.rows.length kc)
      have ZO := hide (zo _ _ _ _ _ _ (by have := hx0.size; omega) ho)
      unfold put3 at z0 z1 z2 zl ZO
      have ZL := hide zl
      clear hx2 hb ho zo zl hx0
      go_wp2_with fail
      exact bodyPost_ret (v := .agg #[.int .i64 y.kind, .int .i64 y.n, .slice ka y.rows.length kc]) (by simp [results, Tryd.results19, go_sem, z0, z1, z2]) rfl ⟨_, rfl, ⟨_, rfl, unhide ZO⟩, unhide ZL⟩
    · have HC2 := hide (fun (w1 : World) (hb : Below w.heap.size w w1) => unhide HWI w1 hb (ca, cb))
      rw [if_neg (by decide), if_neg (by decide), if_neg (by decide), if_pos (by decide)]
      generalize s.with (ca, cb) = y at *
      clear HWR HPL HWI HGO hk HX
      obtain ⟨k0, rfl, hr⟩ := h
      obtain ⟨a, cc, rfl, _⟩ := ownsRow_slice hr
      obtain ⟨kd, n, rows⟩ := s
      dsimp only at *
      obtain ⟨A, hA⟩ : ∃ A : Obj, A = .cells #[.int .i64 kd, .int .i64 n, .slice a rows.length cc] 24 (0, 0) := ⟨_, rfl⟩
      obtain ⟨B, hB⟩ : ∃ B : Obj, B = .cells #[.int .i64 14, .string (S ca), .string (S cb), .int .i64 cn] 27 (0, 0) := ⟨_, rfl⟩
      obtain ⟨C, hC⟩ : ∃ C : Obj, C = .cells #[.int .i64 y1, .string (S y2), .int .i64 y3] 44 (0, 0) := ⟨_, rfl⟩
      obtain ⟨c0, c1, c2, k0, k1, k2, k3, r0, r1, r2⟩ := B4.scr (w := w) (D := .cells #[.int .i64 0, .int .i64 0, .slice none 0 0] 24 (0, 0)) hA hB hC
      have hst := B4.start w A B C (.cells #[.int .i64 0, .int .i64 0, .slice none 0 0] 24 (0, 0))
      have hstd := hst.drew
      clear hr hw hs hop
      go_enter Tryd.func19, Tryd.ntmps19
      go_wp2_with fail
      rw [← hA, ← hB, ← hC]
      clear hA hB hC
      go_region_held3 (fun w' => B4 w A B C (.cells #[.int .i64 0, .int .i64 0, .slice none 0 0] 24 (0, 0)) w') (with_reducible (first | exact hstd | exact hst | (refine B4.below ?_ (by assumption) <;> assumption)))
        (first | (go_at_call 33; refine (unhide HKI _ (B4.low (by assumption))).mono ?_; rintro e wm ⟨rfl, hbm⟩) | (go_at_call 46; refine (unhide HCH _).mono ?_; rintro e wn ⟨rfl, hbn⟩) | fail)
      have hx0 : B4 w A B C (.cells #[.int .i64 0, .int .i64 0, .slice none 0 0] 24 (0, 0)) wn := by assumption
      clear hbm hbn hst hstd HKI HCH
      go_wp2_with fail
      refine (unhide HC2 _ hx0.low).mono ?_
      rintro e w2 ⟨v2, rfl, ⟨k2, rfl, ho⟩, hb⟩
      obtain ⟨ka, kc, rfl, _⟩ := ownsRow_slice ho
      have hx2 := hx0.below hb
      obtain ⟨z0, z1, z2, zl, zo, y0, y1, y2, f1⟩ := hx2.give (.int .i64 y.kind) (.int .i64 y.n) (.slice ka y.rows.length kc)
      have ZO := hide (zo _ _ _ _ _ _ (by have := hx0.size; omega) ho)
      unfold put3 at z0 z1 z2 zl ZO
      have ZL := hide zl
      clear hx2 hb ho zo zl hx0
      go_wp2_with fail
      exact bodyPost_ret (v := .agg #[.int .i64 y.kind, .int .i64 y.n, .slice ka y.rows.length kc]) (by simp [results, Tryd.results19, go_sem, z0, z1, z2]) rfl ⟨_, rfl, ⟨_, rfl, unhide ZO⟩, unhide ZL⟩
    · have HC2 := hide (fun (w1 : World) (hb : Below w.heap.size w w1) => unhide HGO w1 hb y2)
      rw [if_neg (by decide), if_neg (by decide), if_neg (by decide), if_neg (by decide), if_neg (by decide)]
      generalize s.gone y2 = y at *
      clear HWR HPL HWI HGO hk HX
      obtain ⟨k0, rfl, hr⟩ := h
      obtain ⟨a, cc, rfl, _⟩ := ownsRow_slice hr
      obtain ⟨kd, n, rows⟩ := s
      dsimp only at *
      obtain ⟨A, hA⟩ : ∃ A : Obj, A = .cells #[.int .i64 kd, .int .i64 n, .slice a rows.length cc] 24 (0, 0) := ⟨_, rfl⟩
      obtain ⟨B, hB⟩ : ∃ B : Obj, B = .cells #[.int .i64 15, .string (S ca), .string (S cb), .int .i64 cn] 27 (0, 0) := ⟨_, rfl⟩
      obtain ⟨C, hC⟩ : ∃ C : Obj, C = .cells #[.int .i64 y1, .string (S y2), .int .i64 y3] 44 (0, 0) := ⟨_, rfl⟩
      obtain ⟨c0, c1, c2, k0, k1, k2, k3, r0, r1, r2⟩ := B4.scr (w := w) (D := .cells #[.int .i64 0, .int .i64 0, .slice none 0 0] 24 (0, 0)) hA hB hC
      have hst := B4.start w A B C (.cells #[.int .i64 0, .int .i64 0, .slice none 0 0] 24 (0, 0))
      have hstd := hst.drew
      clear hr hw hs hop
      go_enter Tryd.func19, Tryd.ntmps19
      go_wp2_with fail
      rw [← hA, ← hB, ← hC]
      clear hA hB hC
      go_region_held3 (fun w' => B4 w A B C (.cells #[.int .i64 0, .int .i64 0, .slice none 0 0] 24 (0, 0)) w') (with_reducible (first | exact hstd | exact hst | (refine B4.below ?_ (by assumption) <;> assumption)))
        (first | (go_at_call 33; refine (unhide HKI _ (B4.low (by assumption))).mono ?_; rintro e wm ⟨rfl, hbm⟩) | (go_at_call 46; refine (unhide HCH _).mono ?_; rintro e wn ⟨rfl, hbn⟩) | fail)
      have hx0 : B4 w A B C (.cells #[.int .i64 0, .int .i64 0, .slice none 0 0] 24 (0, 0)) wn := by assumption
      clear hbm hbn hst hstd HKI HCH
      go_wp2_with fail
      refine (unhide HC2 _ hx0.low).mono ?_
      rintro e w2 ⟨v2, rfl, ⟨k2, rfl, ho⟩, hb⟩
      obtain ⟨ka, kc, rfl, _⟩ := ownsRow_slice ho
      have hx2 := hx0.below hb
      obtain ⟨z0, z1, z2, zl, zo, y0, y1, y2, f1⟩ := hx2.give (.int .i64 y.kind) (.int .i64 y.n) (.slice ka y.rows.length kc)
      have ZO := hide (zo _ _ _ _ _ _ (by have := hx0.size; omega) ho)
      unfold put3 at z0 z1 z2 zl ZO
      have ZL := hide zl
      clear hx2 hb ho zo zl hx0
      go_wp2_with fail
      exact bodyPost_ret (v := .agg #[.int .i64 y.kind, .int .i64 y.n, .slice ka y.rows.length kc]) (by simp [results, Tryd.results19, go_sem, z0, z1, z2]) rfl ⟨_, rfl, ⟨_, rfl, unhide ZO⟩, unhide ZL⟩
    · have HC2 := hide (fun (w1 : World) (hb : Below w.heap.size w w1) => unhide HWI w1 hb (ca, cb))
      rw [if_neg (by decide), if_neg (by decide), if_neg (by decide), if_pos (by decide)]
      generalize s.with (ca, cb) = y at *
      clear HWR HPL HWI HGO hk HX
      obtain ⟨k0, rfl, hr⟩ := h
      obtain ⟨a, cc, rfl, _⟩ := ownsRow_slice hr
      obtain ⟨kd, n, rows⟩ := s
      dsimp only at *
      obtain ⟨A, hA⟩ : ∃ A : Obj, A = .cells #[.int .i64 kd, .int .i64 n, .slice a rows.length cc] 24 (0, 0) := ⟨_, rfl⟩
      obtain ⟨B, hB⟩ : ∃ B : Obj, B = .cells #[.int .i64 16, .string (S ca), .string (S cb), .int .i64 cn] 27 (0, 0) := ⟨_, rfl⟩
      obtain ⟨C, hC⟩ : ∃ C : Obj, C = .cells #[.int .i64 y1, .string (S y2), .int .i64 y3] 44 (0, 0) := ⟨_, rfl⟩
      obtain ⟨c0, c1, c2, k0, k1, k2, k3, r0, r1, r2⟩ := B4.scr (w := w) (D := .cells #[.int .i64 0, .int .i64 0, .slice none 0 0] 24 (0, 0)) hA hB hC
      have hst := B4.start w A B C (.cells #[.int .i64 0, .int .i64 0, .slice none 0 0] 24 (0, 0))
      have hstd := hst.drew
      clear hr hw hs hop
      go_enter Tryd.func19, Tryd.ntmps19
      go_wp2_with fail
      rw [← hA, ← hB, ← hC]
      clear hA hB hC
      go_region_held3 (fun w' => B4 w A B C (.cells #[.int .i64 0, .int .i64 0, .slice none 0 0] 24 (0, 0)) w') (with_reducible (first | exact hstd | exact hst | (refine B4.below ?_ (by assumption) <;> assumption)))
        (first | (go_at_call 33; refine (unhide HKI _ (B4.low (by assumption))).mono ?_; rintro e wm ⟨rfl, hbm⟩) | (go_at_call 46; refine (unhide HCH _).mono ?_; rintro e wn ⟨rfl, hbn⟩) | fail)
      have hx0 : B4 w A B C (.cells #[.int .i64 0, .int .i64 0, .slice none 0 0] 24 (0, 0)) wn := by assumption
      clear hbm hbn hst hstd HKI HCH
      go_wp2_with fail
      refine (unhide HC2 _ hx0.low).mono ?_
      rintro e w2 ⟨v2, rfl, ⟨k2, rfl, ho⟩, hb⟩
      obtain ⟨ka, kc, rfl, _⟩ := ownsRow_slice ho
      have hx2 := hx0.below hb
      obtain ⟨z0, z1, z2, zl, zo, y0, y1, y2, f1⟩ := hx2.give (.int .i64 y.kind) (.int .i64 y.n) (.slice ka y.rows.length kc)
      have ZO := hide (zo _ _ _ _ _ _ (by have := hx0.size; omega) ho)
      unfold put3 at z0 z1 z2 zl ZO
      have ZL := hide zl
      clear hx2 hb ho zo zl hx0
      go_wp2_with fail
      exact bodyPost_ret (v := .agg #[.int .i64 y.kind, .int .i64 y.n, .slice ka y.rows.length kc]) (by simp [results, Tryd.results19, go_sem, z0, z1, z2]) rfl ⟨_, rfl, ⟨_, rfl, unhide ZO⟩, unhide ZL⟩
    · have HC2 := hide (fun (w1 : World) (hb : Below w.heap.size w w1) => unhide HGO w1 hb y2)
      rw [if_neg (by decide), if_neg (by decide), if_neg (by decide), if_neg (by decide), if_neg (by decide)]
      generalize s.gone y2 = y at *
      clear HWR HPL HWI HGO hk HX
      obtain ⟨k0, rfl, hr⟩ := h
      obtain ⟨a, cc, rfl, _⟩ := ownsRow_slice hr
      obtain ⟨kd, n, rows⟩ := s
      dsimp only at *
      obtain ⟨A, hA⟩ : ∃ A : Obj, A = .cells #[.int .i64 kd, .int .i64 n, .slice a rows.length cc] 24 (0, 0) := ⟨_, rfl⟩
      obtain ⟨B, hB⟩ : ∃ B : Obj, B = .cells #[.int .i64 17, .string (S ca), .string (S cb), .int .i64 cn] 27 (0, 0) := ⟨_, rfl⟩
      obtain ⟨C, hC⟩ : ∃ C : Obj, C = .cells #[.int .i64 y1, .string (S y2), .int .i64 y3] 44 (0, 0) := ⟨_, rfl⟩
      obtain ⟨c0, c1, c2, k0, k1, k2, k3, r0, r1, r2⟩ := B4.scr (w := w) (D := .cells #[.int .i64 0, .int .i64 0, .slice none 0 0] 24 (0, 0)) hA hB hC
      have hst := B4.start w A B C (.cells #[.int .i64 0, .int .i64 0, .slice none 0 0] 24 (0, 0))
      have hstd := hst.drew
      clear hr hw hs hop
      go_enter Tryd.func19, Tryd.ntmps19
      go_wp2_with fail
      rw [← hA, ← hB, ← hC]
      clear hA hB hC
      go_region_held3 (fun w' => B4 w A B C (.cells #[.int .i64 0, .int .i64 0, .slice none 0 0] 24 (0, 0)) w') (with_reducible (first | exact hstd | exact hst | (refine B4.below ?_ (by assumption) <;> assumption)))
        (first | (go_at_call 33; refine (unhide HKI _ (B4.low (by assumption))).mono ?_; rintro e wm ⟨rfl, hbm⟩) | (go_at_call 46; refine (unhide HCH _).mono ?_; rintro e wn ⟨rfl, hbn⟩) | fail)
      have hx0 : B4 w A B C (.cells #[.int .i64 0, .int .i64 0, .slice none 0 0] 24 (0, 0)) wn := by assumption
      clear hbm hbn hst hstd HKI HCH
      go_wp2_with fail
      refine (unhide HC2 _ hx0.low).mono ?_
      rintro e w2 ⟨v2, rfl, ⟨k2, rfl, ho⟩, hb⟩
      obtain ⟨ka, kc, rfl, _⟩ := ownsRow_slice ho
      have hx2 := hx0.below hb
      obtain ⟨z0, z1, z2, zl, zo, y0, y1, y2, f1⟩ := hx2.give (.int .i64 y.kind) (.int .i64 y.n) (.slice ka y.rows.length kc)
      have ZO := hide (zo _ _ _ _ _ _ (by have := hx0.size; omega) ho)
      unfold put3 at z0 z1 z2 zl ZO
      have ZL := hide zl
      clear hx2 hb ho zo zl hx0
      go_wp2_with fail
      exact bodyPost_ret (v := .agg #[.int .i64 y.kind, .int .i64 y.n, .slice ka y.rows.length kc]) (by simp [results, Tryd.results19, go_sem, z0, z1, z2]) rfl ⟨_, rfl, ⟨_, rfl, unhide ZO⟩, unhide ZL⟩
set_option maxHeartbeats 12800000 in
theorem aapply_ne {base : Nat} {w : World} {v : Value} {s : VS} {c : MC} (h : StOwn base 70 w v s) (hs : s.rows.length ≤ 1000) (hw : MD w) (r : MR) (hk : (mfact c.op).kind ≠ s.kind) :
    Calls Tryd.prog 19 #[v, mcV c, mrV r] w fun e w' => ∃ v', e = .returned v' ∧ StOwn w.heap.size 70 w' v' s ∧ Below w.heap.size w w' := by
  have HKI := hide (fun (w1 : World) (hb : Below w.heap.size w w1) => mkind_any (hw.later hb) c.op)
  have HCL := hide (fun (w1 : World) (hb : Below w.heap.size w w1) => vclone_any (h.later hb) hs)
  obtain ⟨op, ca, cb, cn⟩ := c
  obtain ⟨y1, y2, y3⟩ := r
  unfold mcV mrV at *
  dsimp only at *
  have e0 : ((mfact op).kind != s.kind) = true := by rw [bne_iff_ne]; exact hk
  generalize (mfact op).kind = K at *
  obtain ⟨k0, rfl, hr⟩ := h
  obtain ⟨a, cc, rfl, _⟩ := ownsRow_slice hr
  obtain ⟨kd, n, rows⟩ := s
  dsimp only at *
  obtain ⟨A, hA⟩ : ∃ A : Obj, A = .cells #[.int .i64 kd, .int .i64 n, .slice a rows.length cc] 24 (0, 0) := ⟨_, rfl⟩
  obtain ⟨B, hB⟩ : ∃ B : Obj, B = .cells #[.int .i64 op, .string (S ca), .string (S cb), .int .i64 cn] 27 (0, 0) := ⟨_, rfl⟩
  obtain ⟨C, hC⟩ : ∃ C : Obj, C = .cells #[.int .i64 y1, .string (S y2), .int .i64 y3] 44 (0, 0) := ⟨_, rfl⟩
  obtain ⟨c0, c1, c2, k0, k1, k2, k3, r0, r1, r2⟩ := B4.scr (w := w) (D := .cells #[.int .i64 0, .int .i64 0, .slice none 0 0] 24 (0, 0)) hA hB hC
  have hst := B4.start w A B C (.cells #[.int .i64 0, .int .i64 0, .slice none 0 0] 24 (0, 0))
  have hstd := hst.drew
  clear hr hw hk
  go_enter Tryd.func19, Tryd.ntmps19
  go_wp2_with fail
  rw [← hA, ← hB, ← hC]
  clear hA hB hC
  refine wp_region_held_drew (S := fun w' => B4 w A B C (.cells #[.int .i64 0, .int .i64 0, .slice none 0 0] 24 (0, 0)) w') (by kernel_rfl) ?_ (fun hHeld => ?_)
  · exact hstd
  refine wpAnyH_take (i := 0) (oi := { dst := some 7, op := _, type := _, pos := _, after := _, guard := _ }) (v := ?_) rfl (by kernel_rfl) (by kernel_rfl) (by kernel_rfl) (fun _ _ _ h => h) (Or.inl ⟨by kernel_rfl, ?_⟩) (by assumption) ?_
  rotate_left
  · intro w hSw; (try dsimp only at hSw); go_simp; try (with_reducible rfl)
  try simp only [Act.put, List.setIfInBounds_toArray, List.set_cons_zero, List.set_cons_succ]
  refine wpAnyH_take (i := 1) (oi := { dst := some 8, op := _, type := _, pos := _, after := _, guard := _ }) (v := ?_) rfl (by kernel_rfl) (by kernel_rfl) (by kernel_rfl) (fun _ _ _ h => h) (Or.inl ⟨by kernel_rfl, ?_⟩) (by assumption) ?_
  rotate_left
  · intro w hSw; (try dsimp only at hSw); go_simp; try (with_reducible rfl)
  try simp only [Act.put, List.setIfInBounds_toArray, List.set_cons_zero, List.set_cons_succ]
  refine wpAnyH_take (i := 3) (oi := { dst := some 10, op := _, type := _, pos := _, after := _, guard := _ }) (v := ?_) rfl (by kernel_rfl) (by kernel_rfl) (by kernel_rfl) (fun _ _ _ h => h) (Or.inl ⟨by kernel_rfl, ?_⟩) (by assumption) ?_
  rotate_left
  · intro w hSw; (try dsimp only at hSw); go_simp; try (with_reducible rfl)
  try simp only [Act.put, List.setIfInBounds_toArray, List.set_cons_zero, List.set_cons_succ]
  refine wpAnyH_take (i := 4) (oi := { dst := some 11, op := _, type := _, pos := _, after := _, guard := _ }) (v := ?_) rfl (by kernel_rfl) (by kernel_rfl) (by kernel_rfl) (fun _ _ _ h => h) (Or.inl ⟨by kernel_rfl, ?_⟩) (by assumption) ?_
  rotate_left
  · intro w hSw; (try dsimp only at hSw); go_simp; try (with_reducible rfl)
  try simp only [Act.put, List.setIfInBounds_toArray, List.set_cons_zero, List.set_cons_succ]
  refine wpAnyH_ready (rs := [2]) (by kernel_rfl) (by simp) ?_
  refine AllReadyH.cons rfl (fun K hK => ?_) AllReadyH.nil
  go_simp
  (go_at_call 33; refine (unhide HKI _ (B4.low (by assumption))).mono ?_; rintro e wn ⟨rfl, hbn⟩)
  refine hK.out _ _ ?_ (fun hHeld => ?_)
  · exact B4.below (by assumption) hbn
  clear hK K
  try simp only [Act.put, List.setIfInBounds_toArray, List.set_cons_zero, List.set_cons_succ]
  refine wpAnyH_take (i := 5) (oi := { dst := some 12, op := _, type := _, pos := _, after := _, guard := _ }) (v := ?_) rfl (by kernel_rfl) (by kernel_rfl) (by kernel_rfl) (fun _ _ _ h => h) (Or.inl ⟨by kernel_rfl, ?_⟩) (by assumption) ?_
  rotate_left
  · intro w hSw; (try dsimp only at hSw); go_simp; try (with_reducible rfl)
  try simp only [Act.put, List.setIfInBounds_toArray, List.set_cons_zero, List.set_cons_succ]
  refine wpAnyH_take (i := 6) (oi := { dst := some 13, op := _, type := _, pos := _, after := _, guard := _ }) (v := ?_) rfl (by kernel_rfl) (by kernel_rfl) (by kernel_rfl) (fun _ _ _ h => h) (Or.inl ⟨by kernel_rfl, ?_⟩) (by assumption) ?_
  rotate_left
  · intro w hSw; (try dsimp only at hSw); go_simp; try (with_reducible rfl)
  try simp only [Act.put, List.setIfInBounds_toArray, List.set_cons_zero, List.set_cons_succ]
  refine wpAnyH_take (i := 7) (oi := { dst := some 14, op := _, type := _, pos := _, after := _, guard := _ }) (v := undef) rfl (by kernel_rfl) (by kernel_rfl) (by kernel_rfl) (fun _ _ _ h => h) (Or.inr ⟨by kernel_rfl, rfl⟩) (by assumption) ?_
  try simp only [Act.put, List.setIfInBounds_toArray, List.set_cons_zero, List.set_cons_succ]
  refine wpAnyH_take (i := 8) (oi := { dst := some 15, op := _, type := _, pos := _, after := _, guard := _ }) (v := undef) rfl (by kernel_rfl) (by kernel_rfl) (by kernel_rfl) (fun _ _ _ h => h) (Or.inr ⟨by kernel_rfl, rfl⟩) (by assumption) ?_
  try simp only [Act.put, List.setIfInBounds_toArray, List.set_cons_zero, List.set_cons_succ]
  refine wpAnyH_take (i := 9) (oi := { dst := some 16, op := _, type := _, pos := _, after := _, guard := _ }) (v := undef) rfl (by kernel_rfl) (by kernel_rfl) (by kernel_rfl) (fun _ _ _ h => h) (Or.inr ⟨by kernel_rfl, rfl⟩) (by assumption) ?_
  try simp only [Act.put, List.setIfInBounds_toArray, List.set_cons_zero, List.set_cons_succ]
  refine wpAnyH_take (i := 10) (oi := { dst := some 17, op := _, type := _, pos := _, after := _, guard := _ }) (v := undef) rfl (by kernel_rfl) (by kernel_rfl) (by kernel_rfl) (fun _ _ _ h => h) (Or.inr ⟨by kernel_rfl, rfl⟩) (by assumption) ?_
  try simp only [Act.put, List.setIfInBounds_toArray, List.set_cons_zero, List.set_cons_succ]
  refine wpAnyH_take (i := 11) (oi := { dst := some 18, op := _, type := _, pos := _, after := _, guard := _ }) (v := ?_) rfl (by kernel_rfl) (by kernel_rfl) (by kernel_rfl) (fun _ _ _ h => h) (Or.inl ⟨by kernel_rfl, ?_⟩) (by assumption) ?_
  rotate_left
  · intro w hSw; (try dsimp only at hSw); go_simp; try (with_reducible rfl)
  try simp only [Act.put, List.setIfInBounds_toArray, List.set_cons_zero, List.set_cons_succ]
  refine wpAnyH_done (by kernel_rfl) ?_ _
  have hx0 : B4 w A B C (.cells #[.int .i64 0, .int .i64 0, .slice none 0 0] 24 (0, 0)) wn := by assumption
  clear hbn hst hstd HKI
  have s0 := c0 _ hx0
  have s1 := c1 _ hx0
  have s2 := c2 _ hx0
  go_wp2_with fail
  refine (unhide HCL _ hx0.low).mono ?_
  rintro e w2 ⟨v2, rfl, ⟨k2, rfl, ho⟩, hb⟩
  obtain ⟨ka, kc, rfl, _⟩ := ownsRow_slice ho
  have hx2 := hx0.below hb
  obtain ⟨z0, z1, z2, zl, zo, y0, y1, y2, f1⟩ := hx2.give (.int .i64 kd) (.int .i64 n) (.slice ka rows.length kc)
  have ZO := hide (zo _ _ _ _ _ _ (by have := hx0.size; omega) ho)
  unfold put3 at z0 z1 z2 zl ZO
  have ZL := hide zl
  clear hx2 hb ho zo zl hx0
  go_wp2_with fail
  exact bodyPost_ret (v := .agg #[.int .i64 kd, .int .i64 n, .slice ka rows.length kc]) (by simp [results, Tryd.results19, go_sem, z0, z1, z2]) rfl ⟨_, rfl, ⟨_, rfl, unhide ZO⟩, unhide ZL⟩
theorem aapply_any {base : Nat} {w : World} {v : Value} {s : VS} {c : MC} (h : StOwn base 70 w v s) (hs : s.rows.length ≤ 1000) (hop : okOp c.op) (hw : MD w) (r : MR) :
    Calls Tryd.prog 19 #[v, mcV c, mrV r] w fun e w' => ∃ v', e = .returned v' ∧ StOwn w.heap.size 70 w' v' (apply1 s c r) ∧ Below w.heap.size w w' := by
  by_cases hk : (mfact c.op).kind = s.kind
  · exact aapply_eq h hs hop hw r hk
  · rw [show apply1 s c r = s by unfold apply1 applyBy; rw [if_pos (Or.inl hk)]]
    exact aapply_ne h hs hw r hk
end Go.Proofs.YtcialbhmmbcgjaaDoor
/- Behind a step that is legal, and for which there is room, a state may be. -/
namespace Go.Proofs.YtcialbhmmbcgjaaDoor
open Go.RowKit
set_option linter.unusedVariables false
set_option maxRecDepth 100000

theorem putG_mem {kd : Int} {r x : List UInt8 × List UInt8} {l : List (List UInt8 × List UInt8)} (h : x ∈ putG kd r l) : x = r ∨ x ∈ l := by
  unfold putG at h
  split at h
  · rcases List.mem_append.mp h with h | h
    · exact Or.inr h
    · exact Or.inl (by simpa using h)
  · exact putF_mem h
theorem VS.good.rwith {s : VS} (h : s.good) {r : List UInt8 × List UInt8} (hl : r.1.length ≤ 24 ∧ r.2.length ≤ 24) (hb : s.kind ≠ 5 → r.2 = []) (h1 : s.kind ≠ 1) (hn : s.kind = 4 ∨ s.kind = 5 → ∀ x ∈ s.rows, x.1 ≠ r.1) : (s.rwith r).good := by
  refine ⟨fun x hx => ?_, fun hk x hx => ?_, fun hk => absurd hk h1, fun hk => ?_, fun hk => ?_⟩
  · rcases putG_mem hx with rfl | hx
    · exact hl
    · exact h.short x hx
  · rcases putG_mem hx with rfl | hx
    · exact hb hk
    · exact h.bare hk x hx
  · have hk' : s.kind = 4 ∨ s.kind = 5 := hk
    show Keys (putG s.kind r s.rows)
    unfold putG
    rw [if_neg (by omega)]
    exact (h.keys hk').put r (hn hk')
  · have hk' : s.kind = 7 := hk
    show Stand (putG s.kind r s.rows)
    unfold putG
    rw [if_neg (by omega)]
    exact (h.semi hk').put r
theorem VS.good.gone {s : VS} (h : s.good) (key : List UInt8) : (s.gone key).good := by
  have hm {x : List UInt8 × List UInt8} (hx : x ∈ (s.gone key).rows) : x ∈ s.rows := (List.eraseIdx_sublist s.rows _).subset hx
  exact ⟨fun x hx => h.short x (hm hx), fun hk x hx => h.bare hk x (hm hx), fun hk x hx => h.one hk x (hm hx), fun hk => (h.keys hk).erase _, fun hk => (h.semi hk).erase _⟩
theorem may_zero {s : VS} (h : s.may) (h2 : s.kind ≠ 2) (h3 : s.kind ≠ 3) : s.n = 0 := by
  have := (VS.may_rows h).2.1
  unfold VS.numOk at this
  rw [if_neg h2, if_neg h3] at this
  simpa using this
theorem check_num {s : VS} (hg : s.good) (hk : s.kind = 4 ∨ s.kind = 5 ∨ s.kind = 6 ∨ s.kind = 7) (hn : s.n = 0) (hl : s.rows.length ≤ 8) : s.check = 0 := by
  refine hg.check (by omega) ?_ ?_
  · unfold VS.numOk
    rw [if_neg (by omega), if_neg (by omega), hn]
    rfl
  · unfold VS.most
    rw [if_neg (by omega)]
    exact hl
theorem has_not {s : VS} {key : List UInt8} (h : s.has key = false) : ∀ x ∈ s.rows, x.1 ≠ key := by
  unfold VS.has at h
  have h1 : ¬ hits key s.rows < s.rows.length := by simpa using h
  exact hits_not key s.rows (by have := hits_le key s.rows; omega)
theorem check_bare (kd n : Int) (h : kd = 2 ∨ (kd = 3 ∧ 0 ≤ n)) : VS.check ⟨kd, n, []⟩ = 0 := by
  unfold VS.check VS.numOk VS.most
  dsimp only
  rcases h with rfl | ⟨rfl, h⟩
  · rfl
  · simp [h, first]
theorem may_ab {V : MC} (h : V.may) : V.a.length ≤ 24 ∧ V.b.length ≤ 24 := MC.may_len h
theorem may_money {V : MC} (h : V.may) (ho : V.op = 5 ∨ V.op = 6) : 1 ≤ V.n ∧ V.n ≤ 1048576 := by
  have h0 := h.1
  unfold MC.check at h0
  rw [if_neg (by simpa using MC.may_op h)] at h0
  split at h0
  · exact absurd h0 (by decide)
  split at h0
  · exact absurd h0 (by decide)
  split at h0
  · exact absurd h0 (by decide)
  · rename_i a
    rcases ho with ho | ho <;> omega
theorem answers_kind {x : VS} {V : MC} {r : MR} (hr : r ∈ answers x V) : (mfact V.op).kind = x.kind := by
  by_cases hk : (mfact V.op).kind = x.kind
  · exact hk
  · unfold answers at hr
    rw [if_pos hk] at hr
    cases hr
theorem room_check {x : VS} {V : MC} {r : MR} (h : x.may) (hmask : x.kind = 3 → 0 ≤ x.n ∧ x.n < 1125899906842624) (hV : V.may) (hVb : V.op ≠ 11 → V.b = []) (hr : r ∈ answers x V) (hg : mgrowth V.op V.n r.code = 1 → x.rows.length < 8) : (apply2 x V r).check = 0 := by
  have hk := answers_kind hr
  have hop := MC.may_op hV
  have hgood := VS.may.good h
  have hlen : x.rows.length ≤ 8 := Nat.le_trans (VS.may_rows h).1 (VS.most_le x)
  cases hch : mchanges V.op V.n r.code
  · unfold apply2
    rw [apply_not hch]
    exact h.1
  have hgr : (V.op = 8 ∨ V.op = 11 ∨ V.op = 14 ∨ V.op = 16) → x.rows.length < 8 := fun ho => hg (by unfold mgrowth; rw [if_pos hch, if_pos ho])
  unfold apply2
  rw [apply_op hk hch]
  obtain ⟨la, lb⟩ := may_ab hV
  unfold answers at hr
  rw [if_neg (by simpa using hk)] at hr
  obtain ⟨op, a, b, n⟩ := V
  dsimp only at *
  have put_ok (hkk : x.kind = 4 ∨ x.kind = 5 ∨ x.kind = 6 ∨ x.kind = 7) (hb5 : x.kind ≠ 5 → b = []) (hlt : x.rows.length < 8) (hn : x.kind = 4 ∨ x.kind = 5 → ∀ y ∈ x.rows, y.1 ≠ a) : (x.rwith (a, b)).check = 0 := by
    refine check_num (hgood.rwith ⟨la, lb⟩ hb5 (by omega) hn) hkk (may_zero (s := x) h (by omega) (by omega)) ?_
    rw [rwith_len]
    omega
  have gone_ok (hkk : x.kind = 4 ∨ x.kind = 5 ∨ x.kind = 6 ∨ x.kind = 7) (key : List UInt8) : (x.gone key).check = 0 :=
    check_num (hgood.gone key) hkk (may_zero (s := x) h (by omega) (by omega)) (Nat.le_trans (gone_len x key) hlen)
  rcases no_change hop hch with rfl | rfl | rfl | rfl | rfl | rfl | rfl | rfl | rfl | rfl | rfl | rfl
  · have hk1 : x.kind = 1 := by rw [← hk]; decide
    have hn0 := may_zero h (by omega) (by omega)
    rw [if_pos rfl, hk1, hn0]
    split
    · rfl
    · rename_i ha
      have hgd : VS.good ⟨1, 0, [(a, [])]⟩ := by
        refine ⟨fun y hy => ?_, fun _ y hy => ?_, fun _ y hy => ?_, fun _ => List.pairwise_singleton _ _, fun _ => List.pairwise_singleton _ _⟩ <;> (have hy' := List.mem_singleton.mp hy; subst hy')
        · exact ⟨la, by simp⟩
        · rfl
        · exact ha
      rw [show VS.rwith ⟨1, 0, []⟩ (a, []) = ⟨1, 0, [(a, [])]⟩ from rfl]
      exact hgd.check ⟨by show (1 : Int) ≤ 1; decide, by show (1 : Int) ≤ 7; decide⟩ rfl (Nat.le_refl _)
  · have hk1 : x.kind = 2 := by rw [← hk]; decide
    rw [if_neg (by decide), if_pos (by decide), (VS.may.fit h).bare (Or.inl hk1), hk1]
    exact check_bare _ _ (Or.inl rfl)
  · have hk1 : x.kind = 3 := by rw [← hk]; decide
    have hm := may_money hV (Or.inl rfl)
    have hx := hmask hk1
    dsimp only at hm
    rw [if_neg (by decide), if_pos (by decide), (VS.may.fit h).bare (Or.inr hk1), hk1]
    exact check_bare _ _ (Or.inr ⟨rfl, by unfold wrap64; omega⟩)
  · have hk1 : x.kind = 3 := by rw [← hk]; decide
    have hm := may_money hV (Or.inr rfl)
    have hx := hmask hk1
    dsimp only at hm
    have hle : n ≤ x.n := by
      rw [if_neg (by decide), if_neg (by decide), if_pos (by decide)] at hr
      simp only [List.mem_singleton] at hr
      by_cases hle : n ≤ x.n
      · exact hle
      · rw [decide_eq_false hle] at hr
        subst hr
        simp [mchanges, okR] at hch
    rw [if_neg (by decide), if_neg (by decide), if_pos rfl, (VS.may.fit h).bare (Or.inr hk1), hk1]
    exact check_bare _ _ (Or.inr ⟨rfl, by unfold wrap64; omega⟩)
  · have hk1 : x.kind = 4 := by rw [← hk]; decide
    have hnh : x.has a = false := by
      rw [if_neg (by decide), if_neg (by decide), if_neg (by decide), if_pos (by decide)] at hr
      simp only [List.mem_singleton] at hr
      cases hh : x.has a
      · rfl
      · rw [hh] at hr
        subst hr
        simp [mchanges, okR] at hch
    rw [if_neg (by decide), if_neg (by decide), if_neg (by decide), if_pos (by decide)]
    exact put_ok (by omega) (fun _ => hVb (by decide)) (hgr (by decide)) fun _ => has_not hnh
  · have hk1 : x.kind = 4 := by rw [← hk]; decide
    rw [if_neg (by decide), if_neg (by decide), if_neg (by decide), if_neg (by decide), if_pos (by decide)]
    exact gone_ok (by omega) _
  · have hk1 : x.kind = 5 := by rw [← hk]; decide
    have hnh : x.has a = false := by
      rw [if_neg (by decide), if_neg (by decide), if_neg (by decide), if_pos (by decide)] at hr
      simp only [List.mem_singleton] at hr
      cases hh : x.has a
      · rfl
      · rw [hh] at hr
        subst hr
        simp [mchanges, okR] at hch
    rw [if_neg (by decide), if_neg (by decide), if_neg (by decide), if_pos (by decide)]
    exact put_ok (by omega) (fun e => absurd hk1 e) (hgr (by decide)) fun _ => has_not hnh
  · have hk1 : x.kind = 5 := by rw [← hk]; decide
    rw [if_neg (by decide), if_neg (by decide), if_neg (by decide), if_neg (by decide), if_pos (by decide)]
    exact gone_ok (by omega) _
  · have hk1 : x.kind = 6 := by rw [← hk]; decide
    rw [if_neg (by decide), if_neg (by decide), if_neg (by decide), if_pos (by decide)]
    exact put_ok (by omega) (fun _ => hVb (by decide)) (hgr (by decide)) fun e => by omega
  · have hk1 : x.kind = 6 := by rw [← hk]; decide
    rw [if_neg (by decide), if_neg (by decide), if_neg (by decide), if_neg (by decide), if_neg (by decide)]
    exact gone_ok (by omega) _
  · have hk1 : x.kind = 7 := by rw [← hk]; decide
    rw [if_neg (by decide), if_neg (by decide), if_neg (by decide), if_pos (by decide)]
    exact put_ok (by omega) (fun _ => hVb (by decide)) (hgr (by decide)) fun e => by omega
  · have hk1 : x.kind = 7 := by rw [← hk]; decide
    rw [if_neg (by decide), if_neg (by decide), if_neg (by decide), if_neg (by decide), if_neg (by decide)]
    exact gone_ok (by omega) _
end Go.Proofs.YtcialbhmmbcgjaaDoor
