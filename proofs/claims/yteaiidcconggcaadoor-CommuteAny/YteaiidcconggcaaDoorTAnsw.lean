/- The contract of adt's Answers. -/
import Derived.Test.YteaiidcconggcaaDoorBundleT6
import Derived.Test.YteaiidcconggcaaDoorMFacts
namespace Go.Proofs.YteaiidcconggcaaDoor
open Go.RowKit
set_option linter.unusedVariables false
set_option maxRecDepth 100000

theorem B2.drew {w w1 : World} {A B : Obj} (h : B2 w A B w1) : B2 w A B w1.drew := Below.drew h
theorem B2.below {w w1 w2 : World} {A B : Obj} (h : B2 w A B w1) (hb : Below w1.heap.size w1 w2) : B2 w A B w2 := by
  have hs := Below.size h
  rw [World.size_alloc, World.size_alloc] at hs
  exact Below.trans h (hb.mono hs)
theorem B2.heap {w w1 : World} {A B : Obj} (h : B2 w A B w1) : w1.heap[w.heap.size]? = some A ∧ w1.heap[w.heap.size + 1]? = some B := by
  have hs := Below.size h
  rw [World.size_alloc, World.size_alloc] at hs
  refine ⟨?_, ?_⟩
  · rw [Below.block h _ (by omega), Below.heap_alloc _ _ _ (by simp)]; exact heap_alloc_new w _
  · rw [Below.block h _ (by omega)]
    have := heap_alloc_new (w.alloc A) B
    rwa [World.size_alloc] at this
theorem B2.sc {w : World} {A B : Obj} {a b c a' b' c' d' : Value} {t t' : TypeId} (hA : A = .cells #[a, b, c] t (0, 0)) (hB : B = .cells #[a', b', c', d'] t' (0, 0)) :
    (∀ w1, B2 w A B w1 → w1.cell? ⟨w.heap.size, 0, none⟩ = some a) ∧ (∀ w1, B2 w A B w1 → w1.cell? ⟨w.heap.size, 1, none⟩ = some b) ∧ (∀ w1, B2 w A B w1 → w1.cell? ⟨w.heap.size, 2, none⟩ = some c) ∧
    (∀ w1, B2 w A B w1 → w1.cell? ⟨w.heap.size + 1, 0, none⟩ = some a') ∧ (∀ w1, B2 w A B w1 → w1.cell? ⟨w.heap.size + 1, 1, none⟩ = some b') ∧ (∀ w1, B2 w A B w1 → w1.cell? ⟨w.heap.size + 1, 2, none⟩ = some c') ∧ (∀ w1, B2 w A B w1 → w1.cell? ⟨w.heap.size + 1, 3, none⟩ = some d') := by
  subst hA hB
  refine ⟨fun w1 h => ?_, fun w1 h => ?_, fun w1 h => ?_, fun w1 h => ?_, fun w1 h => ?_, fun w1 h => ?_, fun w1 h => ?_⟩ <;> first | (rw [block_cell h.heap.1]; rfl) | (rw [block_cell h.heap.2]; rfl)

set_option maxHeartbeats 6400000 in
theorem abound_any {w : World} {v : Value} {s : VS} (h : StAt w v s) (key : List UInt8) : Calls Tryd.prog 73 #[v, .string (S key)] w fun e w' => e = .returned (.tuple #[.string (S (if s.has key = true then s.val (hits key s.rows) else [])), .bool (s.has key)]) ∧ Below w.heap.size w w' := by
  have HF := hide (fun (w1 : World) (hb : Below w.heap.size w w1) => vfind_any (h.later hb) key)
  obtain ⟨k0, rfl, hr⟩ := h
  obtain ⟨a, c, rfl, hc, hm⟩ := hr.shape
  unfold maxLen at hm
  have HST := hide (Bx.start w (.cells #[.int .i64 s.kind, .int .i64 s.n, .slice a s.rows.length c] 47))
  unfold VS.has VS.val at *
  by_cases hl : hits key s.rows < s.rows.length
  · rw [decide_eq_true hl, if_pos rfl] at *
    obtain ⟨b, off, rfl, hbl, e1, e2⟩ := hr.at _ hl
    have hg : s.rows.getD (hits key s.rows) ([], []) = s.rows[hits key s.rows]'hl := by simp [List.getD, hl]
    rw [hg]
    generalize s.rows[hits key s.rows]'hl = r at *
    generalize hits key s.rows = P at *
    obtain ⟨x, y⟩ := r
    obtain ⟨kd, n, rows⟩ := s
    dsimp only at *
    have hi0 : (0 : Int) ≤ (P : Int) := by omega
    have hi1 : (P : Int) < ((rows.length : Nat) : Int) := by omega
    clear hr hg hl
    go_enter Tryd.func73, Tryd.ntmps73
    go_wp2_with fail
    refine (unhide HF _ (under_box _)).mono ?_
    rintro e w1 ⟨rfl, hb⟩
    have hx := Bx.below (unhide HST) hb
    have s2 := (Bx.cells3 (w0 := w) rfl).2.2 _ hx
    have hlow := hx.low
    rw [← hlow.cell (p := ⟨b, off + P * 2 + 1, none⟩) hbl] at e2
    have HL := hide hlow
    clear hb hx hlow HF HST e1
    go_wp2_with fail
    exact bodyPost_ret (v := .tuple #[.string (S y), .bool true]) (by simp [results, Tryd.results73, go_sem]) rfl ⟨rfl, unhide HL⟩
  · rw [decide_eq_false hl] at *
    rw [if_neg (by simp)] at *
    generalize hits key s.rows = P at *
    obtain ⟨kd, n, rows⟩ := s
    dsimp only at *
    clear hr hl
    go_enter Tryd.func73, Tryd.ntmps73
    go_wp2_with fail
    refine (unhide HF _ (under_box _)).mono ?_
    rintro e w1 ⟨rfl, hb⟩
    have HL := hide (Bx.below (unhide HST) hb).low
    clear hb HF HST
    go_wp2_with fail
    exact bodyPost_ret (v := .tuple #[.string ⟨#[]⟩, .bool false]) (by simp [results, Tryd.results73, go_sem]) rfl ⟨rfl, unhide HL⟩

theorem front_found {w : World} (s : VS) : Calls Tryd.prog 72 #[.string (S (s.key 0)), .bool (decide (s.rows.length ≠ 0))] w fun e w' => e = .returned (.agg #[.int .i64 (frontR s).code, .string (S (frontR s).text), .int .i64 (frontR s).n]) ∧ Below w.heap.size w w' := by
  have h := afound_any (w := w) (s.key 0) (decide (s.rows.length ≠ 0))
  have e : (if decide (s.rows.length ≠ 0) = true then (⟨1, s.key 0, 0⟩ : MR) else okR false) = frontR s := by
    unfold frontR
    by_cases hl : s.rows.length = 0
    · rw [if_pos hl, if_neg (by simp [hl])]
    · rw [if_neg hl, if_pos (by simp [hl])]
  rw [e] at h
  exact h
theorem bound_found {w : World} (s : VS) (key : List UInt8) : Calls Tryd.prog 72 #[.string (S (if s.has key = true then s.val (hits key s.rows) else [])), .bool (s.has key)] w fun e w' => e = .returned (.agg #[.int .i64 (lookR s key).code, .string (S (lookR s key).text), .int .i64 (lookR s key).n]) ∧ Below w.heap.size w w' := by
  have h := afound_any (w := w) (if s.has key = true then s.val (hits key s.rows) else []) (s.has key)
  have e : (if s.has key = true then (⟨1, if s.has key = true then s.val (hits key s.rows) else [], 0⟩ : MR) else okR false) = lookR s key := by
    unfold lookR
    split <;> rfl
  rw [e] at h
  exact h
set_option maxHeartbeats 25600000 in
theorem aanswers_any {w : World} {v : Value} {s : VS} {c : MC} (h : StAt w v s) (hs : s.rows.length ≤ 1000) (hop : okOp c.op) (hw : MD w) :
    Calls Tryd.prog 60 #[v, mcV c] w fun e w' => ∃ v', e = .returned v' ∧ Row3 w' v' (answers s c) ∧ Below w.heap.size w w' := by
  have HKI := hide (fun (w1 : World) (hb : Below w.heap.size w w1) => mkind_any (hw.later hb) c.op)
  have HTK := hide (fun (w1 : World) (hb : Below w.heap.size w w1) => atakes_any (h.later hb) hs)
  have HYE : Hid (∀ (w1 : World) (t : List UInt8), Calls Tryd.prog 71 #[.string (S t)] w1 fun e w' => e = .returned (.agg #[.int .i64 1, .string (S t), .int .i64 0]) ∧ Below w1.heap.size w1 w') := fun w1 t => ayes_any t
  have HON : Hid (∀ (w1 : World) (k : Int) (t : List UInt8) (m : Int), Calls Tryd.prog 70 #[.agg #[.int .i64 k, .string (S t), .int .i64 m]] w1 fun e w' => ∃ v', e = .returned v' ∧ Row3 w' v' [⟨k, t, m⟩] ∧ Below w1.heap.size w1 w') := fun w1 k t m => aonly_any ⟨k, t, m⟩
  rw [takeO_true] at HTK
  obtain ⟨K, hK⟩ : ∃ K, (mfact c.op).kind = K := ⟨_, rfl⟩
  obtain ⟨op, ca, cb, cn⟩ := c
  dsimp only at *
  rw [hK] at HKI
  unfold mcV
  dsimp only
  by_cases hk : K = s.kind
  · have e0 : (K != s.kind) = false := by rw [hk]; simp
    have hkk : ¬ (mfact op).kind ≠ s.kind := by rw [hK]; simpa using hk
    rcases op_cases hop with rfl | rfl | rfl | rfl | rfl | rfl | rfl | rfl | rfl | rfl | rfl | rfl | rfl | rfl | rfl | rfl | rfl
    · have hA : answers s ⟨1, ca, cb, cn⟩ = [⟨1, s.key 0, 0⟩] := by unfold answers; rw [if_neg hkk]; rfl
      rw [hA]
      clear hA HTK
      have HFR := hide (fun (w1 : World) (hb : Below w.heap.size w w1) => afront_any (h.later hb))
      generalize s.key 0 = x at *
      generalize (decide (s.rows.length ≠ 0)) = R at *
      obtain ⟨k0, rfl, hr⟩ := h
      obtain ⟨a, c, rfl, hc, hm⟩ := hr.shape
      obtain ⟨kd, n, rows⟩ := s
      dsimp only at *
      obtain ⟨A, hA⟩ : ∃ A : Obj, A = .cells #[.int .i64 kd, .int .i64 n, .slice a rows.length c] 47 (0, 0) := ⟨_, rfl⟩
      obtain ⟨B, hB⟩ : ∃ B : Obj, B = .cells #[.int .i64 1, .string (S ca), .string (S cb), .int .i64 cn] 24 (0, 0) := ⟨_, rfl⟩
      obtain ⟨c0, c1, c2, k0, k1, k2, k3⟩ := B2.sc (w := w) hA hB
      have hst := B2.start w A B
      have hstd := hst.drew
      clear hr hkk hK hk hw hs hop
      go_enter Tryd.func60, Tryd.ntmps60
      go_wp2_with fail
      rw [← hA, ← hB]
      clear hA hB
      go_region_held3 (fun w' => B2 w A B w') (with_reducible (first | exact hstd | exact hst | (refine B2.below ?_ (by assumption) <;> assumption)))
        (first | (go_at_call 28; refine (unhide HKI _ (B2.low (by assumption))).mono ?_; rintro e wm ⟨rfl, hbm⟩) | fail)
      have hx0 : B2 w A B wm := by assumption
      clear hbm hst hstd HKI
      go_wp2_with fail
      refine (unhide HFR _ (hx0.low)).mono ?_
      rintro e w1 ⟨rfl, hb1⟩
      have hx1 := hx0.below hb1
      clear hb1
      go_wp2_with fail
      refine (unhide HYE _ x).mono ?_
      rintro e w2 ⟨rfl, hb2⟩
      have hx2 := hx1.below hb2
      clear hb2
      go_wp2_with fail
      refine (unhide HON _ 1 x 0).mono ?_
      rintro e w3 ⟨v3, rfl, hrow, hb3⟩
      have hx3 := hx2.below hb3
      clear hb3
      go_wp2_with fail
      go_ret
      exact ⟨_, rfl, hrow, hx3.low⟩
    · have hA : answers s ⟨2, ca, cb, cn⟩ = [okR true] := by unfold answers; rw [if_neg hkk]; rfl
      rw [hA]
      clear hA HTK
      obtain ⟨k0, rfl, hr⟩ := h
      obtain ⟨a, c, rfl, hc, hm⟩ := hr.shape
      obtain ⟨kd, n, rows⟩ := s
      dsimp only at *
      obtain ⟨A, hA⟩ : ∃ A : Obj, A = .cells #[.int .i64 kd, .int .i64 n, .slice a rows.length c] 47 (0, 0) := ⟨_, rfl⟩
      obtain ⟨B, hB⟩ : ∃ B : Obj, B = .cells #[.int .i64 2, .string (S ca), .string (S cb), .int .i64 cn] 24 (0, 0) := ⟨_, rfl⟩
      obtain ⟨c0, c1, c2, k0, k1, k2, k3⟩ := B2.sc (w := w) hA hB
      have hst := B2.start w A B
      have hstd := hst.drew
      clear hr hkk hK hk hw hs hop
      go_enter Tryd.func60, Tryd.ntmps60
      go_wp2_with fail
      rw [← hA, ← hB]
      clear hA hB
      go_region_held3 (fun w' => B2 w A B w') (with_reducible (first | exact hstd | exact hst | (refine B2.below ?_ (by assumption) <;> assumption)))
        (first | (go_at_call 28; refine (unhide HKI _ (B2.low (by assumption))).mono ?_; rintro e wm ⟨rfl, hbm⟩) | fail)
      have hx0 : B2 w A B wm := by assumption
      clear hbm hst hstd HKI
      go_wp2_with fail
      refine (unhide HYE _ []).mono ?_
      rintro e w1 ⟨rfl, hb1⟩
      have hx1 := hx0.below hb1
      clear hb1
      go_wp2_with fail
      refine (unhide HON _ 1 [] 0).mono ?_
      rintro e w2 ⟨v2, rfl, hrow, hb2⟩
      have hx2 := hx1.below hb2
      clear hb2
      go_wp2_with fail
      go_ret
      exact ⟨_, rfl, hrow, hx2.low⟩
    · have hA : answers s ⟨3, ca, cb, cn⟩ = [okR true] := by unfold answers; rw [if_neg hkk]; rfl
      rw [hA]
      clear hA HTK
      obtain ⟨k0, rfl, hr⟩ := h
      obtain ⟨a, c, rfl, hc, hm⟩ := hr.shape
      obtain ⟨kd, n, rows⟩ := s
      dsimp only at *
      obtain ⟨A, hA⟩ : ∃ A : Obj, A = .cells #[.int .i64 kd, .int .i64 n, .slice a rows.length c] 47 (0, 0) := ⟨_, rfl⟩
      obtain ⟨B, hB⟩ : ∃ B : Obj, B = .cells #[.int .i64 3, .string (S ca), .string (S cb), .int .i64 cn] 24 (0, 0) := ⟨_, rfl⟩
      obtain ⟨c0, c1, c2, k0, k1, k2, k3⟩ := B2.sc (w := w) hA hB
      have hst := B2.start w A B
      have hstd := hst.drew
      clear hr hkk hK hk hw hs hop
      go_enter Tryd.func60, Tryd.ntmps60
      go_wp2_with fail
      rw [← hA, ← hB]
      clear hA hB
      go_region_held3 (fun w' => B2 w A B w') (with_reducible (first | exact hstd | exact hst | (refine B2.below ?_ (by assumption) <;> assumption)))
        (first | (go_at_call 28; refine (unhide HKI _ (B2.low (by assumption))).mono ?_; rintro e wm ⟨rfl, hbm⟩) | fail)
      have hx0 : B2 w A B wm := by assumption
      clear hbm hst hstd HKI
      go_wp2_with fail
      refine (unhide HYE _ []).mono ?_
      rintro e w1 ⟨rfl, hb1⟩
      have hx1 := hx0.below hb1
      clear hb1
      go_wp2_with fail
      refine (unhide HON _ 1 [] 0).mono ?_
      rintro e w2 ⟨v2, rfl, hrow, hb2⟩
      have hx2 := hx1.below hb2
      clear hb2
      go_wp2_with fail
      go_ret
      exact ⟨_, rfl, hrow, hx2.low⟩
    · have hA : answers s ⟨4, ca, cb, cn⟩ = [⟨1, [], s.n⟩] := by unfold answers; rw [if_neg hkk]; rfl
      rw [hA]
      clear hA HTK
      obtain ⟨k0, rfl, hr⟩ := h
      obtain ⟨a, c, rfl, hc, hm⟩ := hr.shape
      obtain ⟨kd, n, rows⟩ := s
      dsimp only at *
      obtain ⟨A, hA⟩ : ∃ A : Obj, A = .cells #[.int .i64 kd, .int .i64 n, .slice a rows.length c] 47 (0, 0) := ⟨_, rfl⟩
      obtain ⟨B, hB⟩ : ∃ B : Obj, B = .cells #[.int .i64 4, .string (S ca), .string (S cb), .int .i64 cn] 24 (0, 0) := ⟨_, rfl⟩
      obtain ⟨c0, c1, c2, k0, k1, k2, k3⟩ := B2.sc (w := w) hA hB
      have hst := B2.start w A B
      have hstd := hst.drew
      clear hr hkk hK hk hw hs hop
      go_enter Tryd.func60, Tryd.ntmps60
      go_wp2_with fail
      rw [← hA, ← hB]
      clear hA hB
      go_region_held3 (fun w' => B2 w A B w') (with_reducible (first | exact hstd | exact hst | (refine B2.below ?_ (by assumption) <;> assumption)))
        (first | (go_at_call 28; refine (unhide HKI _ (B2.low (by assumption))).mono ?_; rintro e wm ⟨rfl, hbm⟩) | fail)
      have hx0 : B2 w A B wm := by assumption
      clear hbm hst hstd HKI
      go_wp2_with fail
      refine (unhide HON _ 1 [] _).mono ?_
      rintro e w1 ⟨v1, rfl, hrow, hb1⟩
      have hx1 := hx0.below hb1
      clear hb1
      go_wp2_with fail
      go_ret
      exact ⟨_, rfl, hrow, hx1.low⟩
    · have hA : answers s ⟨5, ca, cb, cn⟩ = [okR true] := by unfold answers; rw [if_neg hkk]; rfl
      rw [hA]
      clear hA HTK
      obtain ⟨k0, rfl, hr⟩ := h
      obtain ⟨a, c, rfl, hc, hm⟩ := hr.shape
      obtain ⟨kd, n, rows⟩ := s
      dsimp only at *
      obtain ⟨A, hA⟩ : ∃ A : Obj, A = .cells #[.int .i64 kd, .int .i64 n, .slice a rows.length c] 47 (0, 0) := ⟨_, rfl⟩
      obtain ⟨B, hB⟩ : ∃ B : Obj, B = .cells #[.int .i64 5, .string (S ca), .string (S cb), .int .i64 cn] 24 (0, 0) := ⟨_, rfl⟩
      obtain ⟨c0, c1, c2, k0, k1, k2, k3⟩ := B2.sc (w := w) hA hB
      have hst := B2.start w A B
      have hstd := hst.drew
      clear hr hkk hK hk hw hs hop
      go_enter Tryd.func60, Tryd.ntmps60
      go_wp2_with fail
      rw [← hA, ← hB]
      clear hA hB
      go_region_held3 (fun w' => B2 w A B w') (with_reducible (first | exact hstd | exact hst | (refine B2.below ?_ (by assumption) <;> assumption)))
        (first | (go_at_call 28; refine (unhide HKI _ (B2.low (by assumption))).mono ?_; rintro e wm ⟨rfl, hbm⟩) | fail)
      have hx0 : B2 w A B wm := by assumption
      clear hbm hst hstd HKI
      go_wp2_with fail
      refine (unhide HYE _ []).mono ?_
      rintro e w1 ⟨rfl, hb1⟩
      have hx1 := hx0.below hb1
      clear hb1
      go_wp2_with fail
      refine (unhide HON _ 1 [] 0).mono ?_
      rintro e w2 ⟨v2, rfl, hrow, hb2⟩
      have hx2 := hx1.below hb2
      clear hb2
      go_wp2_with fail
      go_ret
      exact ⟨_, rfl, hrow, hx2.low⟩
    · have hA : answers s ⟨6, ca, cb, cn⟩ = [okR (decide (cn ≤ s.n))] := by unfold answers; rw [if_neg hkk]; rfl
      rw [hA]
      clear hA HTK
      have HWH := hide (fun (w1 : World) => awhether_any (w := w1) (decide (cn ≤ s.n)))
      simp only [mrV] at HWH
      generalize okR (decide (cn ≤ s.n)) = r at *
      obtain ⟨R, hR⟩ : ∃ R, decide (cn ≤ s.n) = R := ⟨_, rfl⟩
      rw [hR] at HWH
      obtain ⟨k0, rfl, hr⟩ := h
      obtain ⟨a, c, rfl, hc, hm⟩ := hr.shape
      obtain ⟨kd, n, rows⟩ := s
      dsimp only at *
      obtain ⟨A, hA⟩ : ∃ A : Obj, A = .cells #[.int .i64 kd, .int .i64 n, .slice a rows.length c] 47 (0, 0) := ⟨_, rfl⟩
      obtain ⟨B, hB⟩ : ∃ B : Obj, B = .cells #[.int .i64 6, .string (S ca), .string (S cb), .int .i64 cn] 24 (0, 0) := ⟨_, rfl⟩
      obtain ⟨c0, c1, c2, k0, k1, k2, k3⟩ := B2.sc (w := w) hA hB
      have hst := B2.start w A B
      have hstd := hst.drew
      clear hr hkk hK hk hw hs hop
      go_enter Tryd.func60, Tryd.ntmps60
      go_wp2_with fail
      rw [← hA, ← hB]
      clear hA hB
      go_region_held3 (fun w' => B2 w A B w') (with_reducible (first | exact hstd | exact hst | (refine B2.below ?_ (by assumption) <;> assumption)))
        (first | (go_at_call 28; refine (unhide HKI _ (B2.low (by assumption))).mono ?_; rintro e wm ⟨rfl, hbm⟩) | fail)
      have hx0 : B2 w A B wm := by assumption
      clear hbm hst hstd HKI
      go_wp2_with fail
      refine (unhide HWH _).mono ?_
      rintro e w1 ⟨rfl, hb1⟩
      have hx1 := hx0.below hb1
      clear hb1
      go_wp2_with fail
      refine (unhide HON _ r.code r.text r.n).mono ?_
      rintro e w2 ⟨v2, rfl, hrow, hb2⟩
      have hx2 := hx1.below hb2
      clear hb2
      go_wp2_with fail
      go_ret
      exact ⟨_, rfl, hrow, hx2.low⟩
    · have hA : answers s ⟨7, ca, cb, cn⟩ = [⟨1, [], s.n⟩] := by unfold answers; rw [if_neg hkk]; rfl
      rw [hA]
      clear hA HTK
      obtain ⟨k0, rfl, hr⟩ := h
      obtain ⟨a, c, rfl, hc, hm⟩ := hr.shape
      obtain ⟨kd, n, rows⟩ := s
      dsimp only at *
      obtain ⟨A, hA⟩ : ∃ A : Obj, A = .cells #[.int .i64 kd, .int .i64 n, .slice a rows.length c] 47 (0, 0) := ⟨_, rfl⟩
      obtain ⟨B, hB⟩ : ∃ B : Obj, B = .cells #[.int .i64 7, .string (S ca), .string (S cb), .int .i64 cn] 24 (0, 0) := ⟨_, rfl⟩
      obtain ⟨c0, c1, c2, k0, k1, k2, k3⟩ := B2.sc (w := w) hA hB
      have hst := B2.start w A B
      have hstd := hst.drew
      clear hr hkk hK hk hw hs hop
      go_enter Tryd.func60, Tryd.ntmps60
      go_wp2_with fail
      rw [← hA, ← hB]
      clear hA hB
      go_region_held3 (fun w' => B2 w A B w') (with_reducible (first | exact hstd | exact hst | (refine B2.below ?_ (by assumption) <;> assumption)))
        (first | (go_at_call 28; refine (unhide HKI _ (B2.low (by assumption))).mono ?_; rintro e wm ⟨rfl, hbm⟩) | fail)
      have hx0 : B2 w A B wm := by assumption
      clear hbm hst hstd HKI
      go_wp2_with fail
      refine (unhide HON _ 1 [] _).mono ?_
      rintro e w1 ⟨v1, rfl, hrow, hb1⟩
      have hx1 := hx0.below hb1
      clear hb1
      go_wp2_with fail
      go_ret
      exact ⟨_, rfl, hrow, hx1.low⟩
    · have hA : answers s ⟨8, ca, cb, cn⟩ = [okR (!s.has ca)] := by unfold answers; rw [if_neg hkk]; rfl
      rw [hA]
      clear hA HTK
      have HTH := hide (fun (w1 : World) (hb : Below w.heap.size w w1) => aisThere_any (h.later hb) ca)
      have HWH := hide (fun (w1 : World) => awhether_any (w := w1) (!s.has ca))
      simp only [mrV] at HWH
      generalize okR (!s.has ca) = r at *
      generalize s.has ca = R at *
      obtain ⟨k0, rfl, hr⟩ := h
      obtain ⟨a, c, rfl, hc, hm⟩ := hr.shape
      obtain ⟨kd, n, rows⟩ := s
      dsimp only at *
      obtain ⟨A, hA⟩ : ∃ A : Obj, A = .cells #[.int .i64 kd, .int .i64 n, .slice a rows.length c] 47 (0, 0) := ⟨_, rfl⟩
      obtain ⟨B, hB⟩ : ∃ B : Obj, B = .cells #[.int .i64 8, .string (S ca), .string (S cb), .int .i64 cn] 24 (0, 0) := ⟨_, rfl⟩
      obtain ⟨c0, c1, c2, k0, k1, k2, k3⟩ := B2.sc (w := w) hA hB
      have hst := B2.start w A B
      have hstd := hst.drew
      clear hr hkk hK hk hw hs hop
      go_enter Tryd.func60, Tryd.ntmps60
      go_wp2_with fail
      rw [← hA, ← hB]
      clear hA hB
      go_region_held3 (fun w' => B2 w A B w') (with_reducible (first | exact hstd | exact hst | (refine B2.below ?_ (by assumption) <;> assumption)))
        (first | (go_at_call 28; refine (unhide HKI _ (B2.low (by assumption))).mono ?_; rintro e wm ⟨rfl, hbm⟩) | fail)
      have hx0 : B2 w A B wm := by assumption
      clear hbm hst hstd HKI
      go_wp2_with fail
      refine (unhide HTH _ (hx0.low)).mono ?_
      rintro e w1 ⟨rfl, hb1⟩
      have hx1 := hx0.below hb1
      clear hb1
      go_wp2_with fail
      refine (unhide HWH _).mono ?_
      rintro e w2 ⟨rfl, hb2⟩
      have hx2 := hx1.below hb2
      clear hb2
      go_wp2_with fail
      refine (unhide HON _ r.code r.text r.n).mono ?_
      rintro e w3 ⟨v3, rfl, hrow, hb3⟩
      have hx3 := hx2.below hb3
      clear hb3
      go_wp2_with fail
      go_ret
      exact ⟨_, rfl, hrow, hx3.low⟩
    · have hA : answers s ⟨9, ca, cb, cn⟩ = [okR (s.has ca)] := by unfold answers; rw [if_neg hkk]; rfl
      rw [hA]
      clear hA HTK
      have HTH := hide (fun (w1 : World) (hb : Below w.heap.size w w1) => aisThere_any (h.later hb) ca)
      have HWH := hide (fun (w1 : World) => awhether_any (w := w1) (s.has ca))
      simp only [mrV] at HWH
      generalize okR (s.has ca) = r at *
      generalize s.has ca = R at *
      obtain ⟨k0, rfl, hr⟩ := h
      obtain ⟨a, c, rfl, hc, hm⟩ := hr.shape
      obtain ⟨kd, n, rows⟩ := s
      dsimp only at *
      obtain ⟨A, hA⟩ : ∃ A : Obj, A = .cells #[.int .i64 kd, .int .i64 n, .slice a rows.length c] 47 (0, 0) := ⟨_, rfl⟩
      obtain ⟨B, hB⟩ : ∃ B : Obj, B = .cells #[.int .i64 9, .string (S ca), .string (S cb), .int .i64 cn] 24 (0, 0) := ⟨_, rfl⟩
      obtain ⟨c0, c1, c2, k0, k1, k2, k3⟩ := B2.sc (w := w) hA hB
      have hst := B2.start w A B
      have hstd := hst.drew
      clear hr hkk hK hk hw hs hop
      go_enter Tryd.func60, Tryd.ntmps60
      go_wp2_with fail
      rw [← hA, ← hB]
      clear hA hB
      go_region_held3 (fun w' => B2 w A B w') (with_reducible (first | exact hstd | exact hst | (refine B2.below ?_ (by assumption) <;> assumption)))
        (first | (go_at_call 28; refine (unhide HKI _ (B2.low (by assumption))).mono ?_; rintro e wm ⟨rfl, hbm⟩) | fail)
      have hx0 : B2 w A B wm := by assumption
      clear hbm hst hstd HKI
      go_wp2_with fail
      refine (unhide HTH _ (hx0.low)).mono ?_
      rintro e w1 ⟨rfl, hb1⟩
      have hx1 := hx0.below hb1
      clear hb1
      go_wp2_with fail
      refine (unhide HWH _).mono ?_
      rintro e w2 ⟨rfl, hb2⟩
      have hx2 := hx1.below hb2
      clear hb2
      go_wp2_with fail
      refine (unhide HON _ r.code r.text r.n).mono ?_
      rintro e w3 ⟨v3, rfl, hrow, hb3⟩
      have hx3 := hx2.below hb3
      clear hb3
      go_wp2_with fail
      go_ret
      exact ⟨_, rfl, hrow, hx3.low⟩
    · have hA : answers s ⟨10, ca, cb, cn⟩ = [okR (s.has ca)] := by unfold answers; rw [if_neg hkk]; rfl
      rw [hA]
      clear hA HTK
      have HTH := hide (fun (w1 : World) (hb : Below w.heap.size w w1) => aisThere_any (h.later hb) ca)
      have HWH := hide (fun (w1 : World) => awhether_any (w := w1) (s.has ca))
      simp only [mrV] at HWH
      generalize okR (s.has ca) = r at *
      generalize s.has ca = R at *
      obtain ⟨k0, rfl, hr⟩ := h
      obtain ⟨a, c, rfl, hc, hm⟩ := hr.shape
      obtain ⟨kd, n, rows⟩ := s
      dsimp only at *
      obtain ⟨A, hA⟩ : ∃ A : Obj, A = .cells #[.int .i64 kd, .int .i64 n, .slice a rows.length c] 47 (0, 0) := ⟨_, rfl⟩
      obtain ⟨B, hB⟩ : ∃ B : Obj, B = .cells #[.int .i64 10, .string (S ca), .string (S cb), .int .i64 cn] 24 (0, 0) := ⟨_, rfl⟩
      obtain ⟨c0, c1, c2, k0, k1, k2, k3⟩ := B2.sc (w := w) hA hB
      have hst := B2.start w A B
      have hstd := hst.drew
      clear hr hkk hK hk hw hs hop
      go_enter Tryd.func60, Tryd.ntmps60
      go_wp2_with fail
      rw [← hA, ← hB]
      clear hA hB
      go_region_held3 (fun w' => B2 w A B w') (with_reducible (first | exact hstd | exact hst | (refine B2.below ?_ (by assumption) <;> assumption)))
        (first | (go_at_call 28; refine (unhide HKI _ (B2.low (by assumption))).mono ?_; rintro e wm ⟨rfl, hbm⟩) | fail)
      have hx0 : B2 w A B wm := by assumption
      clear hbm hst hstd HKI
      go_wp2_with fail
      refine (unhide HTH _ (hx0.low)).mono ?_
      rintro e w1 ⟨rfl, hb1⟩
      have hx1 := hx0.below hb1
      clear hb1
      go_wp2_with fail
      refine (unhide HWH _).mono ?_
      rintro e w2 ⟨rfl, hb2⟩
      have hx2 := hx1.below hb2
      clear hb2
      go_wp2_with fail
      refine (unhide HON _ r.code r.text r.n).mono ?_
      rintro e w3 ⟨v3, rfl, hrow, hb3⟩
      have hx3 := hx2.below hb3
      clear hb3
      go_wp2_with fail
      go_ret
      exact ⟨_, rfl, hrow, hx3.low⟩
    · have hA : answers s ⟨11, ca, cb, cn⟩ = [okR (!s.has ca)] := by unfold answers; rw [if_neg hkk]; rfl
      rw [hA]
      clear hA HTK
      have HTH := hide (fun (w1 : World) (hb : Below w.heap.size w w1) => aisThere_any (h.later hb) ca)
      have HWH := hide (fun (w1 : World) => awhether_any (w := w1) (!s.has ca))
      simp only [mrV] at HWH
      generalize okR (!s.has ca) = r at *
      generalize s.has ca = R at *
      obtain ⟨k0, rfl, hr⟩ := h
      obtain ⟨a, c, rfl, hc, hm⟩ := hr.shape
      obtain ⟨kd, n, rows⟩ := s
      dsimp only at *
      obtain ⟨A, hA⟩ : ∃ A : Obj, A = .cells #[.int .i64 kd, .int .i64 n, .slice a rows.length c] 47 (0, 0) := ⟨_, rfl⟩
      obtain ⟨B, hB⟩ : ∃ B : Obj, B = .cells #[.int .i64 11, .string (S ca), .string (S cb), .int .i64 cn] 24 (0, 0) := ⟨_, rfl⟩
      obtain ⟨c0, c1, c2, k0, k1, k2, k3⟩ := B2.sc (w := w) hA hB
      have hst := B2.start w A B
      have hstd := hst.drew
      clear hr hkk hK hk hw hs hop
      go_enter Tryd.func60, Tryd.ntmps60
      go_wp2_with fail
      rw [← hA, ← hB]
      clear hA hB
      go_region_held3 (fun w' => B2 w A B w') (with_reducible (first | exact hstd | exact hst | (refine B2.below ?_ (by assumption) <;> assumption)))
        (first | (go_at_call 28; refine (unhide HKI _ (B2.low (by assumption))).mono ?_; rintro e wm ⟨rfl, hbm⟩) | fail)
      have hx0 : B2 w A B wm := by assumption
      clear hbm hst hstd HKI
      go_wp2_with fail
      refine (unhide HTH _ (hx0.low)).mono ?_
      rintro e w1 ⟨rfl, hb1⟩
      have hx1 := hx0.below hb1
      clear hb1
      go_wp2_with fail
      refine (unhide HWH _).mono ?_
      rintro e w2 ⟨rfl, hb2⟩
      have hx2 := hx1.below hb2
      clear hb2
      go_wp2_with fail
      refine (unhide HON _ r.code r.text r.n).mono ?_
      rintro e w3 ⟨v3, rfl, hrow, hb3⟩
      have hx3 := hx2.below hb3
      clear hb3
      go_wp2_with fail
      go_ret
      exact ⟨_, rfl, hrow, hx3.low⟩
    · have hA : answers s ⟨12, ca, cb, cn⟩ = [okR (s.has ca)] := by unfold answers; rw [if_neg hkk]; rfl
      rw [hA]
      clear hA HTK
      have HTH := hide (fun (w1 : World) (hb : Below w.heap.size w w1) => aisThere_any (h.later hb) ca)
      have HWH := hide (fun (w1 : World) => awhether_any (w := w1) (s.has ca))
      simp only [mrV] at HWH
      generalize okR (s.has ca) = r at *
      generalize s.has ca = R at *
      obtain ⟨k0, rfl, hr⟩ := h
      obtain ⟨a, c, rfl, hc, hm⟩ := hr.shape
      obtain ⟨kd, n, rows⟩ := s
      dsimp only at *
      obtain ⟨A, hA⟩ : ∃ A : Obj, A = .cells #[.int .i64 kd, .int .i64 n, .slice a rows.length c] 47 (0, 0) := ⟨_, rfl⟩
      obtain ⟨B, hB⟩ : ∃ B : Obj, B = .cells #[.int .i64 12, .string (S ca), .string (S cb), .int .i64 cn] 24 (0, 0) := ⟨_, rfl⟩
      obtain ⟨c0, c1, c2, k0, k1, k2, k3⟩ := B2.sc (w := w) hA hB
      have hst := B2.start w A B
      have hstd := hst.drew
      clear hr hkk hK hk hw hs hop
      go_enter Tryd.func60, Tryd.ntmps60
      go_wp2_with fail
      rw [← hA, ← hB]
      clear hA hB
      go_region_held3 (fun w' => B2 w A B w') (with_reducible (first | exact hstd | exact hst | (refine B2.below ?_ (by assumption) <;> assumption)))
        (first | (go_at_call 28; refine (unhide HKI _ (B2.low (by assumption))).mono ?_; rintro e wm ⟨rfl, hbm⟩) | fail)
      have hx0 : B2 w A B wm := by assumption
      clear hbm hst hstd HKI
      go_wp2_with fail
      refine (unhide HTH _ (hx0.low)).mono ?_
      rintro e w1 ⟨rfl, hb1⟩
      have hx1 := hx0.below hb1
      clear hb1
      go_wp2_with fail
      refine (unhide HWH _).mono ?_
      rintro e w2 ⟨rfl, hb2⟩
      have hx2 := hx1.below hb2
      clear hb2
      go_wp2_with fail
      refine (unhide HON _ r.code r.text r.n).mono ?_
      rintro e w3 ⟨v3, rfl, hrow, hb3⟩
      have hx3 := hx2.below hb3
      clear hb3
      go_wp2_with fail
      go_ret
      exact ⟨_, rfl, hrow, hx3.low⟩
    · have hA : answers s ⟨13, ca, cb, cn⟩ = [lookR s ca] := by unfold answers; rw [if_neg hkk]; rfl
      rw [hA]
      clear hA HTK
      have HFR := hide (fun (w1 : World) (hb : Below w.heap.size w w1) => abound_any (h.later hb) ca)
      have HFO := hide (fun (w1 : World) => bound_found (w := w1) s ca)
      generalize lookR s ca = r at *
      generalize (if s.has ca = true then s.val (hits ca s.rows) else []) = x at *
      generalize s.has ca = R at *
      obtain ⟨k0, rfl, hr⟩ := h
      obtain ⟨a, c, rfl, hc, hm⟩ := hr.shape
      obtain ⟨kd, n, rows⟩ := s
      dsimp only at *
      obtain ⟨A, hA⟩ : ∃ A : Obj, A = .cells #[.int .i64 kd, .int .i64 n, .slice a rows.length c] 47 (0, 0) := ⟨_, rfl⟩
      obtain ⟨B, hB⟩ : ∃ B : Obj, B = .cells #[.int .i64 13, .string (S ca), .string (S cb), .int .i64 cn] 24 (0, 0) := ⟨_, rfl⟩
      obtain ⟨c0, c1, c2, k0, k1, k2, k3⟩ := B2.sc (w := w) hA hB
      have hst := B2.start w A B
      have hstd := hst.drew
      clear hr hkk hK hk hw hs hop
      go_enter Tryd.func60, Tryd.ntmps60
      go_wp2_with fail
      rw [← hA, ← hB]
      clear hA hB
      go_region_held3 (fun w' => B2 w A B w') (with_reducible (first | exact hstd | exact hst | (refine B2.below ?_ (by assumption) <;> assumption)))
        (first | (go_at_call 28; refine (unhide HKI _ (B2.low (by assumption))).mono ?_; rintro e wm ⟨rfl, hbm⟩) | fail)
      have hx0 : B2 w A B wm := by assumption
      clear hbm hst hstd HKI
      go_wp2_with fail
      refine (unhide HFR _ (hx0.low)).mono ?_
      rintro e w1 ⟨rfl, hb1⟩
      have hx1 := hx0.below hb1
      clear hb1
      go_wp2_with fail
      refine (unhide HFO _).mono ?_
      rintro e w2 ⟨rfl, hb2⟩
      have hx2 := hx1.below hb2
      clear hb2
      go_wp2_with fail
      refine (unhide HON _ r.code r.text r.n).mono ?_
      rintro e w3 ⟨v3, rfl, hrow, hb3⟩
      have hx3 := hx2.below hb3
      clear hb3
      go_wp2_with fail
      go_ret
      exact ⟨_, rfl, hrow, hx3.low⟩
    · have hA : answers s ⟨14, ca, cb, cn⟩ = [okR true] := by unfold answers; rw [if_neg hkk]; rfl
      rw [hA]
      clear hA HTK
      obtain ⟨k0, rfl, hr⟩ := h
      obtain ⟨a, c, rfl, hc, hm⟩ := hr.shape
      obtain ⟨kd, n, rows⟩ := s
      dsimp only at *
      obtain ⟨A, hA⟩ : ∃ A : Obj, A = .cells #[.int .i64 kd, .int .i64 n, .slice a rows.length c] 47 (0, 0) := ⟨_, rfl⟩
      obtain ⟨B, hB⟩ : ∃ B : Obj, B = .cells #[.int .i64 14, .string (S ca), .string (S cb), .int .i64 cn] 24 (0, 0) := ⟨_, rfl⟩
      obtain ⟨c0, c1, c2, k0, k1, k2, k3⟩ := B2.sc (w := w) hA hB
      have hst := B2.start w A B
      have hstd := hst.drew
      clear hr hkk hK hk hw hs hop
      go_enter Tryd.func60, Tryd.ntmps60
      go_wp2_with fail
      rw [← hA, ← hB]
      clear hA hB
      go_region_held3 (fun w' => B2 w A B w') (with_reducible (first | exact hstd | exact hst | (refine B2.below ?_ (by assumption) <;> assumption)))
        (first | (go_at_call 28; refine (unhide HKI _ (B2.low (by assumption))).mono ?_; rintro e wm ⟨rfl, hbm⟩) | fail)
      have hx0 : B2 w A B wm := by assumption
      clear hbm hst hstd HKI
      go_wp2_with fail
      refine (unhide HYE _ []).mono ?_
      rintro e w1 ⟨rfl, hb1⟩
      have hx1 := hx0.below hb1
      clear hb1
      go_wp2_with fail
      refine (unhide HON _ 1 [] 0).mono ?_
      rintro e w2 ⟨v2, rfl, hrow, hb2⟩
      have hx2 := hx1.below hb2
      clear hb2
      go_wp2_with fail
      go_ret
      exact ⟨_, rfl, hrow, hx2.low⟩
    · have hA : answers s ⟨15, ca, cb, cn⟩ = [frontR s] := by unfold answers; rw [if_neg hkk]; rfl
      rw [hA]
      clear hA HTK
      have HFR := hide (fun (w1 : World) (hb : Below w.heap.size w w1) => afront_any (h.later hb))
      have HFO := hide (fun (w1 : World) => front_found (w := w1) s)
      generalize frontR s = r at *
      generalize s.key 0 = x at *
      generalize (decide (s.rows.length ≠ 0)) = R at *
      obtain ⟨k0, rfl, hr⟩ := h
      obtain ⟨a, c, rfl, hc, hm⟩ := hr.shape
      obtain ⟨kd, n, rows⟩ := s
      dsimp only at *
      obtain ⟨A, hA⟩ : ∃ A : Obj, A = .cells #[.int .i64 kd, .int .i64 n, .slice a rows.length c] 47 (0, 0) := ⟨_, rfl⟩
      obtain ⟨B, hB⟩ : ∃ B : Obj, B = .cells #[.int .i64 15, .string (S ca), .string (S cb), .int .i64 cn] 24 (0, 0) := ⟨_, rfl⟩
      obtain ⟨c0, c1, c2, k0, k1, k2, k3⟩ := B2.sc (w := w) hA hB
      have hst := B2.start w A B
      have hstd := hst.drew
      clear hr hkk hK hk hw hs hop
      go_enter Tryd.func60, Tryd.ntmps60
      go_wp2_with fail
      rw [← hA, ← hB]
      clear hA hB
      go_region_held3 (fun w' => B2 w A B w') (with_reducible (first | exact hstd | exact hst | (refine B2.below ?_ (by assumption) <;> assumption)))
        (first | (go_at_call 28; refine (unhide HKI _ (B2.low (by assumption))).mono ?_; rintro e wm ⟨rfl, hbm⟩) | fail)
      have hx0 : B2 w A B wm := by assumption
      clear hbm hst hstd HKI
      go_wp2_with fail
      refine (unhide HFR _ (hx0.low)).mono ?_
      rintro e w1 ⟨rfl, hb1⟩
      have hx1 := hx0.below hb1
      clear hb1
      go_wp2_with fail
      refine (unhide HFO _).mono ?_
      rintro e w2 ⟨rfl, hb2⟩
      have hx2 := hx1.below hb2
      clear hb2
      go_wp2_with fail
      refine (unhide HON _ r.code r.text r.n).mono ?_
      rintro e w3 ⟨v3, rfl, hrow, hb3⟩
      have hx3 := hx2.below hb3
      clear hb3
      go_wp2_with fail
      go_ret
      exact ⟨_, rfl, hrow, hx3.low⟩
    · have hA : answers s ⟨16, ca, cb, cn⟩ = [okR true] := by unfold answers; rw [if_neg hkk]; rfl
      rw [hA]
      clear hA HTK
      obtain ⟨k0, rfl, hr⟩ := h
      obtain ⟨a, c, rfl, hc, hm⟩ := hr.shape
      obtain ⟨kd, n, rows⟩ := s
      dsimp only at *
      obtain ⟨A, hA⟩ : ∃ A : Obj, A = .cells #[.int .i64 kd, .int .i64 n, .slice a rows.length c] 47 (0, 0) := ⟨_, rfl⟩
      obtain ⟨B, hB⟩ : ∃ B : Obj, B = .cells #[.int .i64 16, .string (S ca), .string (S cb), .int .i64 cn] 24 (0, 0) := ⟨_, rfl⟩
      obtain ⟨c0, c1, c2, k0, k1, k2, k3⟩ := B2.sc (w := w) hA hB
      have hst := B2.start w A B
      have hstd := hst.drew
      clear hr hkk hK hk hw hs hop
      go_enter Tryd.func60, Tryd.ntmps60
      go_wp2_with fail
      rw [← hA, ← hB]
      clear hA hB
      go_region_held3 (fun w' => B2 w A B w') (with_reducible (first | exact hstd | exact hst | (refine B2.below ?_ (by assumption) <;> assumption)))
        (first | (go_at_call 28; refine (unhide HKI _ (B2.low (by assumption))).mono ?_; rintro e wm ⟨rfl, hbm⟩) | fail)
      have hx0 : B2 w A B wm := by assumption
      clear hbm hst hstd HKI
      go_wp2_with fail
      refine (unhide HYE _ []).mono ?_
      rintro e w1 ⟨rfl, hb1⟩
      have hx1 := hx0.below hb1
      clear hb1
      go_wp2_with fail
      refine (unhide HON _ 1 [] 0).mono ?_
      rintro e w2 ⟨v2, rfl, hrow, hb2⟩
      have hx2 := hx1.below hb2
      clear hb2
      go_wp2_with fail
      go_ret
      exact ⟨_, rfl, hrow, hx2.low⟩
    · have hA : answers s ⟨17, ca, cb, cn⟩ = takes s := by unfold answers; rw [if_neg hkk]; rfl
      rw [hA]
      clear hA
      generalize takes s = T at *
      obtain ⟨k0, rfl, hr⟩ := h
      obtain ⟨a, c, rfl, hc, hm⟩ := hr.shape
      obtain ⟨kd, n, rows⟩ := s
      dsimp only at *
      obtain ⟨A, hA⟩ : ∃ A : Obj, A = .cells #[.int .i64 kd, .int .i64 n, .slice a rows.length c] 47 (0, 0) := ⟨_, rfl⟩
      obtain ⟨B, hB⟩ : ∃ B : Obj, B = .cells #[.int .i64 17, .string (S ca), .string (S cb), .int .i64 cn] 24 (0, 0) := ⟨_, rfl⟩
      obtain ⟨c0, c1, c2, k0, k1, k2, k3⟩ := B2.sc (w := w) hA hB
      have hst := B2.start w A B
      have hstd := hst.drew
      clear hr hkk hK hk hw hs hop
      go_enter Tryd.func60, Tryd.ntmps60
      go_wp2_with fail
      rw [← hA, ← hB]
      clear hA hB
      go_region_held3 (fun w' => B2 w A B w') (with_reducible (first | exact hstd | exact hst | (refine B2.below ?_ (by assumption) <;> assumption)))
        (first | (go_at_call 28; refine (unhide HKI _ (B2.low (by assumption))).mono ?_; rintro e wm ⟨rfl, hbm⟩) | fail)
      have hx0 : B2 w A B wm := by assumption
      clear hbm hst hstd HKI
      go_wp2_with fail
      refine (unhide HTK _ (hx0.low)).mono ?_
      rintro e w1 ⟨v1, rfl, hrow, hb1⟩
      have hx1 := hx0.below hb1
      clear hb1
      go_wp2_with fail
      go_ret
      exact ⟨_, rfl, hrow, hx1.low⟩
  · have e0 : (K != s.kind) = true := by rw [bne_iff_ne]; exact hk
    have hkk : (mfact op).kind ≠ s.kind := by rw [hK]; exact hk
    rw [show answers s ⟨op, ca, cb, cn⟩ = [] by unfold answers; rw [if_pos hkk]]
    obtain ⟨k0, rfl, hr⟩ := h
    obtain ⟨a, c, rfl, hc, hm⟩ := hr.shape
    obtain ⟨kd, n, rows⟩ := s
    dsimp only at *
    obtain ⟨A, hA⟩ : ∃ A : Obj, A = .cells #[.int .i64 kd, .int .i64 n, .slice a rows.length c] 47 (0, 0) := ⟨_, rfl⟩
    obtain ⟨B, hB⟩ : ∃ B : Obj, B = .cells #[.int .i64 op, .string (S ca), .string (S cb), .int .i64 cn] 24 (0, 0) := ⟨_, rfl⟩
    obtain ⟨c0, c1, c2, k0, k1, k2, k3⟩ := B2.sc (w := w) hA hB
    have hst := B2.start w A B
    have hstd := hst.drew
    clear hr hkk hK hk hw hs hop HTK HYE HON
    go_enter Tryd.func60, Tryd.ntmps60
    go_wp2_with fail
    rw [← hA, ← hB]
    clear hA hB
    go_region_held3 (fun w' => B2 w A B w') (with_reducible (first | exact hstd | exact hst | (refine B2.below ?_ (by assumption) <;> assumption)))
      (first | (go_at_call 28; refine (unhide HKI _ (B2.low (by assumption))).mono ?_; rintro e wm ⟨rfl, hbm⟩) | fail)
    have hx0 : B2 w A B wm := by assumption
    clear hbm hst hstd HKI
    go_wp2_with fail
    go_ret
    exact ⟨_, rfl, Row3.nil _, hx0.low⟩
end Go.Proofs.YteaiidcconggcaaDoor
