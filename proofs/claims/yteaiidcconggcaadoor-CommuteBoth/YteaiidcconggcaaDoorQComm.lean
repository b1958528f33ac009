/- The contract of the document's Commute. -/
import Derived.Test.YteaiidcconggcaaDoorBundleQ5
import Derived.Test.YteaiidcconggcaaDoorBundleT10
import Derived.Test.YteaiidcconggcaaDoorBundleT7
import Derived.Test.YteaiidcconggcaaDoorTOf2
import Derived.Test.YteaiidcconggcaaDoorVLike
import Derived.Test.YteaiidcconggcaaDoorBundleA11
namespace Go.Proofs.YteaiidcconggcaaDoor
open Go.RowKit
set_option linter.unusedVariables false
set_option maxRecDepth 100000

/- What an Apply answers: its rows are new, or older than N. -/
def ApPost (N : Nat) (wz : World) (X : VS) (e : Ending) (w' : World) : Prop := ∃ ka kc, e = .returned (.agg #[.int .i64 X.kind, .int .i64 X.n, .slice ka X.rows.length kc]) ∧ w'.ownsRow 0 77 2 (.slice ka X.rows.length kc) X.rows.length (R9 X.rows) ∧ (∀ k, (Value.slice ka X.rows.length kc).ownBlock = some k → wz.heap.size ≤ k ∨ k < N) ∧ Below wz.heap.size wz w'
theorem ApPost.up {N M : Nat} {wz w' : World} {X : VS} {e : Ending} (hNM : N ≤ M) (h : ApPost N wz X e w') : ApPost M wz X e w' := by
  obtain ⟨ka, kc, h1, h2, h3, h4⟩ := h
  exact ⟨ka, kc, h1, h2, fun k hk => (h3 k hk).imp id fun h => Nat.lt_of_lt_of_le h hNM, h4⟩
theorem apply_post {N : Nat} {w : World} {s : VS} {sa : Option Addr} {sc : Nat} {c : MC} (h : w.ownsRow 0 77 2 (.slice sa s.rows.length sc) s.rows.length (R9 s.rows)) (hN : ∀ k, (Value.slice sa s.rows.length sc).ownBlock = some k → k < N) (hs : s.rows.length ≤ 1000) (hop : okOp c.op) (hcb : c.op ≠ 11 → c.b = []) (hf : s.fit) (r : MR) :
    Calls Tryd.prog 37 #[.agg #[.int .i64 s.kind, .int .i64 s.n, .slice sa s.rows.length sc], mcV c, mrV r] w (ApPost N w (apply2 s c r)) :=
  (rapply_new h hs hop hcb hf r).mono fun e w' ⟨ka, kc, h1, h2, h3, h4⟩ => ⟨ka, kc, h1, h2, fun k hk => (h3 k hk).imp id (hN k), h4⟩
theorem block_lt' {w : World} {k : Nat} {o : Obj} (h : w.heap[k]? = some o) : k < w.heap.size := by
  rcases Nat.lt_or_ge k w.heap.size with h1 | h1
  · exact h1
  · rw [Array.getElem?_eq_none h1] at h; cases h
theorem five_heap (w : World) (A B C D E : Obj) : (((((w.alloc A).alloc B).alloc C).alloc D).alloc E).heap[w.heap.size]? = some A ∧ (((((w.alloc A).alloc B).alloc C).alloc D).alloc E).heap[w.heap.size + 1]? = some B ∧ (((((w.alloc A).alloc B).alloc C).alloc D).alloc E).heap[w.heap.size + 1 + 1]? = some C ∧ (((((w.alloc A).alloc B).alloc C).alloc D).alloc E).heap[w.heap.size + 1 + 1 + 1]? = some D ∧ (((((w.alloc A).alloc B).alloc C).alloc D).alloc E).heap[w.heap.size + 1 + 1 + 1 + 1]? = some E ∧ Below w.heap.size w (((((w.alloc A).alloc B).alloc C).alloc D).alloc E) := by
  have key : ∀ (w0 : World) (o : Obj) (k : Nat) (p : Obj), w0.heap[k]? = some p → (w0.alloc o).heap[k]? = some p := fun w0 o k p h => ((under_box (w := w0) o).block k (block_lt' h)).trans h
  have h1 := heap_alloc_new w A
  have h2 := heap_alloc_new (w.alloc A) B
  have h3 := heap_alloc_new ((w.alloc A).alloc B) C
  have h4 := heap_alloc_new (((w.alloc A).alloc B).alloc C) D
  have h5 := heap_alloc_new ((((w.alloc A).alloc B).alloc C).alloc D) E
  simp only [World.size_alloc] at h2 h3 h4 h5
  have b2 := under_two w A B
  have b3 := b2.alloc b2.size C
  have b4 := b3.alloc b3.size D
  exact ⟨key _ _ _ _ (key _ _ _ _ (key _ _ _ _ (key _ _ _ _ h1))), key _ _ _ _ (key _ _ _ _ (key _ _ _ _ h2)), key _ _ _ _ (key _ _ _ _ h3), key _ _ _ _ h4, h5, b4.alloc b4.size E⟩
set_option maxHeartbeats 51200000 in
theorem rcomm_any {w : World} {s : VS} {sa : Option Addr} {sc : Nat} {x y : Stp} (h : w.ownsRow 0 77 2 (.slice sa s.rows.length sc) s.rows.length (R9 s.rows)) (hs : s.rows.length ≤ 900) (hx : okOp x.1.op) (hy : okOp y.1.op) (hxb : x.1.op ≠ 11 → x.1.b = []) (hyb : y.1.op ≠ 11 → y.1.b = []) (hf : s.fit) :
    Calls Tryd.prog 17 #[.agg #[.int .i64 s.kind, .int .i64 s.n, .slice sa s.rows.length sc], mcV x.1, mrV x.2, mcV y.1, mrV y.2] w fun e w' => e = .returned (.bool (comM s x y)) ∧ Below w.heap.size w w' := by
  obtain ⟨X, hX⟩ : ∃ X, apply2 s x.1 x.2 = X := ⟨_, rfl⟩
  obtain ⟨Y, hY⟩ : ∃ Y, apply2 s y.1 y.2 = Y := ⟨_, rfl⟩
  have hXl : X.rows.length ≤ 1000 := by rw [← hX]; have := apply_len s x.1 x.2; omega
  have hYl : Y.rows.length ≤ 1000 := by rw [← hY]; have := apply_len s y.1 y.2; omega
  have hXf : X.fit := by rw [← hX]; exact hf.apply hx _
  have hYf : Y.fit := by rw [← hY]; exact hf.apply hy _
  have HL1 := hide (fun (wz : World) (h : wz.ownsRow 0 77 2 (.slice sa s.rows.length sc) s.rows.length (R9 s.rows)) => rlegal_any (c := x.1) (s := s) ⟨_, rfl, Row2.of_own h⟩ (by omega) hx x.2)
  have HL2 := hide (fun (wz : World) (h : wz.ownsRow 0 77 2 (.slice sa s.rows.length sc) s.rows.length (R9 s.rows)) => rlegal_any (c := y.1) (s := s) ⟨_, rfl, Row2.of_own h⟩ (by omega) hy y.2)
  have HL3 := hide (fun (wz : World) (xa : Option Addr) (xc : Nat) (h : wz.ownsRow 0 77 2 (.slice xa X.rows.length xc) X.rows.length (R9 X.rows)) => rlegal_any (c := y.1) (s := X) ⟨_, rfl, Row2.of_own h⟩ hXl hy y.2)
  have HL4 := hide (fun (wz : World) (ya : Option Addr) (yc : Nat) (h : wz.ownsRow 0 77 2 (.slice ya Y.rows.length yc) Y.rows.length (R9 Y.rows)) => rlegal_any (c := x.1) (s := Y) ⟨_, rfl, Row2.of_own h⟩ hYl hx x.2)
  have HA1 := hide (fun (N : Nat) (wz : World) (h : wz.ownsRow 0 77 2 (.slice sa s.rows.length sc) s.rows.length (R9 s.rows)) (hN : ∀ k, (Value.slice sa s.rows.length sc).ownBlock = some k → k < N) => apply_post (c := x.1) h hN (by omega) hx hxb hf x.2)
  have HA2 := hide (fun (N : Nat) (wz : World) (h : wz.ownsRow 0 77 2 (.slice sa s.rows.length sc) s.rows.length (R9 s.rows)) (hN : ∀ k, (Value.slice sa s.rows.length sc).ownBlock = some k → k < N) => apply_post (c := y.1) h hN (by omega) hy hyb hf y.2)
  have HB1 := hide (fun (N : Nat) (wz : World) (xa : Option Addr) (xc : Nat) (h : wz.ownsRow 0 77 2 (.slice xa X.rows.length xc) X.rows.length (R9 X.rows)) (hN : ∀ k, (Value.slice xa X.rows.length xc).ownBlock = some k → k < N) => apply_post (c := y.1) h hN hXl hy hyb hXf y.2)
  have HB2 := hide (fun (N : Nat) (wz : World) (ya : Option Addr) (yc : Nat) (h : wz.ownsRow 0 77 2 (.slice ya Y.rows.length yc) Y.rows.length (R9 Y.rows)) (hN : ∀ k, (Value.slice ya Y.rows.length yc).ownBlock = some k → k < N) => apply_post (c := x.1) h hN hYl hx hxb hYf x.2)
  unfold comM
  rw [hX, hY] at *
  obtain ⟨Z1, hZ1⟩ : ∃ Z, apply2 X y.1 y.2 = Z := ⟨_, rfl⟩
  obtain ⟨Z2, hZ2⟩ : ∃ Z, apply2 Y x.1 x.2 = Z := ⟨_, rfl⟩
  rw [hZ1] at HB1 ⊢
  rw [hZ2] at HB2 ⊢
  have HLK : Hid (∀ (wz : World) (va vb : Value), StAt wz va Z1 → StAt wz vb Z2 → Calls Tryd.prog 38 #[va, vb] wz fun e w' => e = .returned (.bool (Z1.alike Z2)) ∧ Below wz.heap.size wz w') := fun wz va vb h1 h2 => like_any h1 h2
  generalize Z1.alike Z2 = E at *
  generalize legal s x.1 x.2 = L1 at *
  generalize legal s y.1 y.2 = L2 at *
  generalize legal X y.1 y.2 = L3 at *
  generalize legal Y x.1 x.2 = L4 at *
  clear hX hY hZ1 hZ2 hXl hYl hXf hYf hxb hyb hf hx hy hs
  obtain ⟨⟨op, a, b, n⟩, ⟨k, t, m⟩⟩ := x
  obtain ⟨⟨op', a', b', n'⟩, ⟨k', t', m'⟩⟩ := y
  unfold mcV mrV at *
  dsimp only at *
  obtain ⟨W, hW⟩ : ∃ W, ((((w.alloc (.cells #[.int .i64 s.kind, .int .i64 s.n, .slice sa s.rows.length sc] 38)).alloc (.cells #[.int .i64 op, .string (S a), .string (S b), .int .i64 n] 29)).alloc (.cells #[.int .i64 k, .string (S t), .int .i64 m] 30)).alloc (.cells #[.int .i64 op', .string (S a'), .string (S b'), .int .i64 n'] 29)).alloc (.cells #[.int .i64 k', .string (S t'), .int .i64 m'] 30) = W := ⟨_, rfl⟩
  obtain ⟨HS, HC1, HR1, HC2, HR2, hlw⟩ := five_heap w (.cells #[.int .i64 s.kind, .int .i64 s.n, .slice sa s.rows.length sc] 38 (0, 0)) (.cells #[.int .i64 op, .string (S a), .string (S b), .int .i64 n] 29 (0, 0)) (.cells #[.int .i64 k, .string (S t), .int .i64 m] 30 (0, 0)) (.cells #[.int .i64 op', .string (S a'), .string (S b'), .int .i64 n'] 29 (0, 0)) (.cells #[.int .i64 k', .string (S t'), .int .i64 m'] 30 (0, 0))
  rw [hW] at HS HC1 HR1 HC2 HR2 hlw
  have HLW := hide hlw
  have HL1 := hide (fun (wz : World) (hb : Below W.heap.size W wz) => unhide HL1 wz (ownsRow_below h (hlw.trans (hb.mono hlw.size))))
  have HL2 := hide (fun (wz : World) (hb : Below W.heap.size W wz) => unhide HL2 wz (ownsRow_below h (hlw.trans (hb.mono hlw.size))))
  have HA1 := hide (fun (wz : World) (hb : Below W.heap.size W wz) => unhide HA1 W.heap.size wz (ownsRow_below h (hlw.trans (hb.mono hlw.size))) (fun k hk => Nat.lt_of_lt_of_le (h.lt k hk).2 hlw.size))
  have HA2 := hide (fun (wz : World) (hb : Below W.heap.size W wz) => unhide HA2 W.heap.size wz (ownsRow_below h (hlw.trans (hb.mono hlw.size))) (fun k hk => Nat.lt_of_lt_of_le (h.lt k hk).2 hlw.size))
  clear h hlw
  cases L1
  · rw [if_neg (by simp)]
    clear HL2 HL3 HL4 HA1 HA2 HB1 HB2 HLK
    go_enter Tryd.func17, Tryd.ntmps17
    go_upto_region 1 with fail
    try rw [hW]
    clear hW
    obtain ⟨d0, d1, d2, _⟩ := cell3 HS
    obtain ⟨g0, g1, g2, g3, _⟩ := cell4 HC1
    obtain ⟨j0, j1, j2, _⟩ := cell3 HR1
    go_wp2_with fail
    refine (unhide HL1 _ (Below.refl _ _)).mono ?_
    rintro e w1 ⟨rfl, hb1⟩
    clear d0 d1 d2 g0 g1 g2 g3 j0 j1 j2
    have HE := hide ((unhide HLW).trans (hb1.mono (unhide HLW).size))
    clear hb1
    go_wp2_with fail
    go_ret
    exact ⟨rfl, unhide HE⟩
  cases L2
  · rw [if_neg (by simp)]
    clear HL3 HL4 HA1 HA2 HB1 HB2 HLK
    go_enter Tryd.func17, Tryd.ntmps17
    go_upto_region 1 with fail
    try rw [hW]
    clear hW
    obtain ⟨d0, d1, d2, _⟩ := cell3 HS
    obtain ⟨g0, g1, g2, g3, _⟩ := cell4 HC1
    obtain ⟨j0, j1, j2, _⟩ := cell3 HR1
    go_wp2_with fail
    refine (unhide HL1 _ (Below.refl _ _)).mono ?_
    rintro e w1 ⟨rfl, hb1⟩
    clear d0 d1 d2 g0 g1 g2 g3 j0 j1 j2
    obtain ⟨d0, d1, d2, _⟩ := cell3 ((hb1.block _ (block_lt HS)).trans HS)
    obtain ⟨g0, g1, g2, g3, _⟩ := cell4 ((hb1.block _ (block_lt HC2)).trans HC2)
    obtain ⟨j0, j1, j2, _⟩ := cell3 ((hb1.block _ (block_lt HR2)).trans HR2)
    have HB1W := hide hb1
    clear hb1
    go_wp2_with fail
    refine (unhide HL2 _ (unhide HB1W)).mono ?_
    rintro e wE ⟨rfl, hb2⟩
    have hbE : Below W.heap.size W wE := (unhide HB1W).trans (hb2.mono (unhide HB1W).size)
    clear hb2 d0 d1 d2 g0 g1 g2 g3 j0 j1 j2
    have HE := hide ((unhide HLW).trans (hbE.mono (unhide HLW).size))
    clear hbE
    go_wp2_with fail
    go_ret
    exact ⟨rfl, unhide HE⟩
  rw [if_pos ⟨rfl, rfl⟩]
  go_enter Tryd.func17, Tryd.ntmps17
  go_upto_region 1 with fail
  try rw [hW]
  clear hW
  obtain ⟨d0, d1, d2, _⟩ := cell3 HS
  obtain ⟨g0, g1, g2, g3, _⟩ := cell4 HC1
  obtain ⟨j0, j1, j2, _⟩ := cell3 HR1
  go_wp2_with fail
  refine (unhide HL1 _ (Below.refl _ _)).mono ?_
  rintro e w1 ⟨rfl, hb1⟩
  clear d0 d1 d2 g0 g1 g2 g3 j0 j1 j2
  obtain ⟨d0, d1, d2, _⟩ := cell3 ((hb1.block _ (block_lt HS)).trans HS)
  obtain ⟨g0, g1, g2, g3, _⟩ := cell4 ((hb1.block _ (block_lt HC2)).trans HC2)
  obtain ⟨j0, j1, j2, _⟩ := cell3 ((hb1.block _ (block_lt HR2)).trans HR2)
  have HB1W := hide hb1
  clear hb1
  go_wp2_with fail
  refine (unhide HL2 _ (unhide HB1W)).mono ?_
  rintro e wE ⟨rfl, hb2⟩
  have hbE : Below W.heap.size W wE := (unhide HB1W).trans (hb2.mono (unhide HB1W).size)
  clear hb2 d0 d1 d2 g0 g1 g2 g3 j0 j1 j2
  have HE := hide ((unhide HLW).trans (hbE.mono (unhide HLW).size))
  have hs2 := (hbE.block _ (block_lt HS)).trans HS
  have hc12 := (hbE.block _ (block_lt HC1)).trans HC1
  have hr12 := (hbE.block _ (block_lt HR1)).trans HR1
  have hc22 := (hbE.block _ (block_lt HC2)).trans HC2
  have hr22 := (hbE.block _ (block_lt HR2)).trans HR2
  have HA1 := hide (fun (wz : World) (hb : Below wE.heap.size wE wz) => (unhide HA1 wz (hbE.trans (hb.mono hbE.size))).mono fun e w' hh => hh.up hbE.size)
  have HA2 := hide (fun (wz : World) (hb : Below wE.heap.size wE wz) => (unhide HA2 wz (hbE.trans (hb.mono hbE.size))).mono fun e w' hh => hh.up hbE.size)
  clear hbE HS HC1 HR1 HC2 HR2 HLW HL1 HL2
  have HLW := HE
  have HS := hs2
  have HC1 := hc12
  have HR1 := hr12
  have HC2 := hc22
  have HR2 := hr22
  clear HE hs2 hc12 hr12 hc22 hr22
  go_upto_region 3 with fail
  refine regN [.val 25 (Res.plain (.agg #[.int .i64 s.kind, .int .i64 s.n, .slice sa s.rows.length sc]) []), .val 26 (Res.plain (.agg #[.int .i64 op, .string (S a), .string (S b), .int .i64 n]) []), .val 27 (Res.plain (.agg #[.int .i64 k, .string (S t), .int .i64 m]) []), .val 28 (Res.state (fun z => z = X) 0 77), .val 29 (Res.plain (.agg #[.int .i64 s.kind, .int .i64 s.n, .slice sa s.rows.length sc]) []), .val 30 (Res.plain (.agg #[.int .i64 op', .string (S a'), .string (S b'), .int .i64 n']) []), .val 31 (Res.plain (.agg #[.int .i64 k', .string (S t'), .int .i64 m']) []), .val 32 (Res.state (fun z => z = Y) 0 77), .box 11 3 38, .box 12 3 38, .put 3 8, .put 7 9] (fun i => if i = 3 then [0, 1, 2] else if i = 7 then [4, 5, 6] else []) ?_ ?_ ?_ ?_ ?_ ?_ ?_ (fun i hi => ?_) ?_
  · kernel_rfl
  · rfl
  · kernel_rfl
  · kernel_rfl
  · kernel_rfl
  · kernel_rfl
  · kernel_rfl
  · have hc : i = 0 ∨ i = 1 ∨ i = 2 ∨ i = 3 ∨ i = 4 ∨ i = 5 ∨ i = 6 ∨ i = 7 ∨ i = 8 ∨ i = 9 ∨ i = 10 ∨ i = 11 := by have : i < 12 := hi; omega
    clear hi
    rcases hc with rfl | rfl | rfl | rfl | rfl | rfl | rfl | rfl | rfl | rfl | rfl | rfl
    · with_reducible refine DoesN.plain (s := 25) (v := .agg #[.int .i64 s.kind, .int .i64 s.n, .slice sa s.rows.length sc]) ?_ ?_
      · rfl
      intro f wz K hb hd hK
      obtain ⟨d0, d1, d2, _⟩ := cell3 ((hb.block _ (block_lt HS)).trans HS)
      simp only [setN, upd, Nat.reduceAdd, Nat.reduceEqDiff, reduceIte, List.setIfInBounds_toArray, List.set_cons_zero, List.set_cons_succ] at hK ⊢
      refine wpOp_do rfl (by kernel_rfl) ?_
      unfold Oper.wp execOp
      go_simp
      exact hK _ (Below.refl _ _)
    · with_reducible refine DoesN.plain (s := 26) (v := .agg #[.int .i64 op, .string (S a), .string (S b), .int .i64 n]) ?_ ?_
      · rfl
      intro f wz K hb hd hK
      obtain ⟨d0, d1, d2, d3, _⟩ := cell4 ((hb.block _ (block_lt HC1)).trans HC1)
      simp only [setN, upd, Nat.reduceAdd, Nat.reduceEqDiff, reduceIte, List.setIfInBounds_toArray, List.set_cons_zero, List.set_cons_succ] at hK ⊢
      refine wpOp_do rfl (by kernel_rfl) ?_
      unfold Oper.wp execOp
      go_simp
      exact hK _ (Below.refl _ _)
    · with_reducible refine DoesN.plain (s := 27) (v := .agg #[.int .i64 k, .string (S t), .int .i64 m]) ?_ ?_
      · rfl
      intro f wz K hb hd hK
      obtain ⟨d0, d1, d2, _⟩ := cell3 ((hb.block _ (block_lt HR1)).trans HR1)
      simp only [setN, upd, Nat.reduceAdd, Nat.reduceEqDiff, reduceIte, List.setIfInBounds_toArray, List.set_cons_zero, List.set_cons_succ] at hK ⊢
      refine wpOp_do rfl (by kernel_rfl) ?_
      unfold Oper.wp execOp
      go_simp
      exact hK _ (Below.refl _ _)
    · with_reducible refine DoesN.val (s := 28) (R := (Res.state (fun z => z = X) 0 77)) ?_ ?_
      · rfl
      intro f wz K hb hd hK
      have e0 : f 0 = .agg #[.int .i64 s.kind, .int .i64 s.n, .slice sa s.rows.length sc] := plainAt (s := 25) (cs := []) (hd 0 (by decide)) rfl
      have e1 : f 1 = .agg #[.int .i64 op, .string (S a), .string (S b), .int .i64 n] := plainAt (s := 26) (cs := []) (hd 1 (by decide)) rfl
      have e2 : f 2 = .agg #[.int .i64 k, .string (S t), .int .i64 m] := plainAt (s := 27) (cs := []) (hd 2 (by decide)) rfl
      simp only [setN, upd, Nat.reduceAdd, Nat.reduceEqDiff, reduceIte, List.setIfInBounds_toArray, List.set_cons_zero, List.set_cons_succ] at hK ⊢
      simp only [e0, e1, e2] at hK ⊢
      refine wpOp_do rfl (by kernel_rfl) ?_
      unfold Oper.wp execOp
      go_simp
      refine (unhide HA1 _ hb).mono ?_
      rintro e w' ⟨ka, kc, rfl, ho', hn', hb'⟩
      exact hK _ _ hb' ⟨_, ka, kc, rfl, rfl, ho'⟩ hn'
    · with_reducible refine DoesN.plain (s := 29) (v := .agg #[.int .i64 s.kind, .int .i64 s.n, .slice sa s.rows.length sc]) ?_ ?_
      · rfl
      intro f wz K hb hd hK
      obtain ⟨d0, d1, d2, _⟩ := cell3 ((hb.block _ (block_lt HS)).trans HS)
      simp only [setN, upd, Nat.reduceAdd, Nat.reduceEqDiff, reduceIte, List.setIfInBounds_toArray, List.set_cons_zero, List.set_cons_succ] at hK ⊢
      refine wpOp_do rfl (by kernel_rfl) ?_
      unfold Oper.wp execOp
      go_simp
      exact hK _ (Below.refl _ _)
    · with_reducible refine DoesN.plain (s := 30) (v := .agg #[.int .i64 op', .string (S a'), .string (S b'), .int .i64 n']) ?_ ?_
      · rfl
      intro f wz K hb hd hK
      obtain ⟨d0, d1, d2, d3, _⟩ := cell4 ((hb.block _ (block_lt HC2)).trans HC2)
      simp only [setN, upd, Nat.reduceAdd, Nat.reduceEqDiff, reduceIte, List.setIfInBounds_toArray, List.set_cons_zero, List.set_cons_succ] at hK ⊢
      refine wpOp_do rfl (by kernel_rfl) ?_
      unfold Oper.wp execOp
      go_simp
      exact hK _ (Below.refl _ _)
    · with_reducible refine DoesN.plain (s := 31) (v := .agg #[.int .i64 k', .string (S t'), .int .i64 m']) ?_ ?_
      · rfl
      intro f wz K hb hd hK
      obtain ⟨d0, d1, d2, _⟩ := cell3 ((hb.block _ (block_lt HR2)).trans HR2)
      simp only [setN, upd, Nat.reduceAdd, Nat.reduceEqDiff, reduceIte, List.setIfInBounds_toArray, List.set_cons_zero, List.set_cons_succ] at hK ⊢
      refine wpOp_do rfl (by kernel_rfl) ?_
      unfold Oper.wp execOp
      go_simp
      exact hK _ (Below.refl _ _)
    · with_reducible refine DoesN.val (s := 32) (R := (Res.state (fun z => z = Y) 0 77)) ?_ ?_
      · rfl
      intro f wz K hb hd hK
      have e4 : f 4 = .agg #[.int .i64 s.kind, .int .i64 s.n, .slice sa s.rows.length sc] := plainAt (s := 29) (cs := []) (hd 4 (by decide)) rfl
      have e5 : f 5 = .agg #[.int .i64 op', .string (S a'), .string (S b'), .int .i64 n'] := plainAt (s := 30) (cs := []) (hd 5 (by decide)) rfl
      have e6 : f 6 = .agg #[.int .i64 k', .string (S t'), .int .i64 m'] := plainAt (s := 31) (cs := []) (hd 6 (by decide)) rfl
      simp only [setN, upd, Nat.reduceAdd, Nat.reduceEqDiff, reduceIte, List.setIfInBounds_toArray, List.set_cons_zero, List.set_cons_succ] at hK ⊢
      simp only [e4, e5, e6] at hK ⊢
      refine wpOp_do rfl (by kernel_rfl) ?_
      unfold Oper.wp execOp
      go_simp
      refine (unhide HA2 _ hb).mono ?_
      rintro e w' ⟨ka, kc, rfl, ho', hn', hb'⟩
      exact hK _ _ hb' ⟨_, ka, kc, rfl, rfl, ho'⟩ hn'
    · with_reducible refine DoesN.box (s := 11) (n := 3) (t := 38) ?_ ?_
      · rfl
      intro f wz K
      refine ⟨[.int .i64 0, .int .i64 0, .slice none 0 0], rfl, fun hK => ?_⟩
      unfold ptr at hK
      simp only [setN, upd, Nat.reduceAdd, Nat.reduceEqDiff, reduceIte, List.setIfInBounds_toArray, List.set_cons_zero, List.set_cons_succ] at hK ⊢
      refine wpOp_do rfl (by kernel_rfl) ?_
      unfold Oper.wp execOp
      go_simp
      exact hK
    · with_reducible refine DoesN.box (s := 12) (n := 3) (t := 38) ?_ ?_
      · rfl
      intro f wz K
      refine ⟨[.int .i64 0, .int .i64 0, .slice none 0 0], rfl, fun hK => ?_⟩
      unfold ptr at hK
      simp only [setN, upd, Nat.reduceAdd, Nat.reduceEqDiff, reduceIte, List.setIfInBounds_toArray, List.set_cons_zero, List.set_cons_succ] at hK ⊢
      refine wpOp_do rfl (by kernel_rfl) ?_
      unfold Oper.wp execOp
      go_simp
      exact hK
    · with_reducible refine DoesN.put (c := 3) (b := 8) (s := 28) (R := (Res.state (fun z => z = X) 0 77)) (s' := 11) (n := 3) (t := 38) ?_ ?_ ?_ ?_
      · rfl
      · rfl
      · rfl
      intro f wz K q ys eb hy hq hF hK
      obtain ⟨zq, zqa, zqc, hzq, ev, hoq⟩ := hF
      have hzw := (show _ = _ from hzq).symm
      subst hzw
      have ec := ev
      simp only [ec, Res.state, stCells] at hK
      simp only [setN, Nat.reduceAdd, List.setIfInBounds_toArray, List.set_cons_zero, List.set_cons_succ] at hK ⊢
      simp only [ec, eb] at hK ⊢
      match ys, hy with
      | [y1, y2, y3], _ =>
      obtain ⟨d0, d1, d2, fz⟩ := cell3 hq
      unfold ptr at *
      simp only [putL] at hK
      refine wpOp_do rfl (by kernel_rfl) ?_
      unfold Oper.wp execOp
      go_simp
      exact hK
    · with_reducible refine DoesN.put (c := 7) (b := 9) (s := 32) (R := (Res.state (fun z => z = Y) 0 77)) (s' := 12) (n := 3) (t := 38) ?_ ?_ ?_ ?_
      · rfl
      · rfl
      · rfl
      intro f wz K q ys eb hy hq hF hK
      obtain ⟨zq, zqa, zqc, hzq, ev, hoq⟩ := hF
      have hzw := (show _ = _ from hzq).symm
      subst hzw
      have ec := ev
      simp only [ec, Res.state, stCells] at hK
      simp only [setN, Nat.reduceAdd, List.setIfInBounds_toArray, List.set_cons_zero, List.set_cons_succ] at hK ⊢
      simp only [ec, eb] at hK ⊢
      match ys, hy with
      | [y1, y2, y3], _ =>
      obtain ⟨d0, d1, d2, fz⟩ := cell3 hq
      unfold ptr at *
      simp only [putL] at hK
      refine wpOp_do rfl (by kernel_rfl) ?_
      unfold Oper.wp execOp
      go_simp
      exact hK
  · intro f wE hbE hv hp hne ho
    have h0 : f 0 = .agg #[.int .i64 s.kind, .int .i64 s.n, .slice sa s.rows.length sc] := plainAt (s := 25) (cs := []) (hv 0) rfl
    have h1 : f 1 = .agg #[.int .i64 op, .string (S a), .string (S b), .int .i64 n] := plainAt (s := 26) (cs := []) (hv 1) rfl
    have h2 : f 2 = .agg #[.int .i64 k, .string (S t), .int .i64 m] := plainAt (s := 27) (cs := []) (hv 2) rfl
    have h4 : f 4 = .agg #[.int .i64 s.kind, .int .i64 s.n, .slice sa s.rows.length sc] := plainAt (s := 29) (cs := []) (hv 4) rfl
    have h5 : f 5 = .agg #[.int .i64 op', .string (S a'), .string (S b'), .int .i64 n'] := plainAt (s := 30) (cs := []) (hv 5) rfl
    have h6 : f 6 = .agg #[.int .i64 k', .string (S t'), .int .i64 m'] := plainAt (s := 31) (cs := []) (hv 6) rfl
    simp only [setN, Nat.reduceAdd, List.setIfInBounds_toArray, List.set_cons_zero, List.set_cons_succ]
    simp only [h0, h1, h2, h4, h5, h6]
    clear h0 h1 h2 h4 h5 h6
    obtain ⟨qA, eA, gA, bA⟩ := putAt (c := 3) (b := 8) (s := 28) (R := (Res.state (fun z => z = X) 0 77)) (s' := 11) (n := 3) (t := 38) (hp 10) rfl rfl rfl
    obtain ⟨qB, eB, gB, bB⟩ := putAt (c := 7) (b := 9) (s := 32) (R := (Res.state (fun z => z = Y) 0 77)) (s' := 12) (n := 3) (t := 38) (hp 11) rfl rfl rfl
    obtain ⟨zx, xa, xc, hzx, ex, hox⟩ := factAt (s := 28) (R := (Res.state (fun z => z = X) 0 77)) (hv 3) rfl
    obtain ⟨zy, ya, yc, hzy, ey, hoy⟩ := factAt (s := 32) (R := (Res.state (fun z => z = Y) 0 77)) (hv 7) rfl
    have hzx2 := (show _ = _ from hzx).symm
    subst hzx2
    have hzy2 := (show _ = _ from hzy).symm
    subst hzy2
    simp only [ex, Res.state, stCells] at bA
    simp only [ey, Res.state, stCells] at bB
    simp only [eA, eB, ex, ey, ptr]
    have HE := hide ((unhide HLW).trans (hbE.mono (unhide HLW).size))
    have hc12 := (hbE.block _ (block_lt HC1)).trans HC1
    have hr12 := (hbE.block _ (block_lt HR1)).trans HR1
    have hc22 := (hbE.block _ (block_lt HC2)).trans HC2
    have hr22 := (hbE.block _ (block_lt HR2)).trans HR2
    have HL3 := hide (fun (wz : World) (hb : Below wE.heap.size wE wz) => unhide HL3 wz xa xc (ownsRow_below hox hb))
    have HL4 := hide (fun (wz : World) (hb : Below wE.heap.size wE wz) => unhide HL4 wz ya yc (ownsRow_below hoy hb))
    have HB1 := hide (fun (wz : World) (hb : Below wE.heap.size wE wz) => unhide HB1 wE.heap.size wz xa xc (ownsRow_below hox hb) (fun k hk => (hox.lt k hk).2))
    have HB2 := hide (fun (wz : World) (hb : Below wE.heap.size wE wz) => unhide HB2 wE.heap.size wz ya yc (ownsRow_below hoy hb) (fun k hk => (hoy.lt k hk).2))
    clear hv hp hne ho ex ey eA eB HS HC1 HR1 HC2 HR2 hbE HL1 HL2 HA1 HA2 gA gB hox hoy
    cases L3
    · go_upto_region 4 with fail
      refine regN [.val 33 (Res.plain (.agg #[.int .i64 X.kind, .int .i64 X.n, .slice xa X.rows.length xc]) []), .val 34 (Res.plain (.agg #[.int .i64 op', .string (S a'), .string (S b'), .int .i64 n']) []), .val 35 (Res.plain (.agg #[.int .i64 k', .string (S t'), .int .i64 m']) []), .val 36 (Res.plain (.bool false) []), .val 37 (Res.plain (.bool false) []), .val 38 (Res.plain (undef) []), .val 39 (Res.plain (undef) []), .val 40 (Res.plain (undef) []), .val 41 (Res.plain (undef) []), .val 42 (Res.plain (.bool false) []), .val 43 (Res.plain (.bool false) []), .val 44 (Res.plain (undef) []), .val 45 (Res.plain (undef) []), .val 46 (Res.plain (undef) []), .val 47 (Res.plain (undef) []), .val 48 (Res.plain (undef) []), .val 49 (Res.plain (undef) []), .val 50 (Res.plain (undef) []), .val 51 (Res.plain (undef) []), .val 52 (Res.plain (undef) []), .val 53 (Res.plain (.bool false) []), .val 10 (Res.plain (.bool false) [])] (fun i => if i = 3 then [0, 1, 2] else if i = 4 then [3] else if i = 5 then [4] else if i = 6 then [4] else if i = 7 then [4] else if i = 8 then [4, 5, 6, 7] else if i = 9 then [4, 8] else if i = 10 then [9] else if i = 11 then [10] else if i = 12 then [10] else if i = 13 then [10] else if i = 14 then [10, 11, 12, 13] else if i = 15 then [10] else if i = 16 then [10] else if i = 17 then [10] else if i = 18 then [10, 15, 16, 17] else if i = 19 then [10, 14, 18] else if i = 20 then [10, 19] else if i = 21 then [20] else []) ?_ ?_ ?_ ?_ ?_ ?_ ?_ (fun i hi => ?_) ?_
      · kernel_rfl
      · rfl
      · kernel_rfl
      · kernel_rfl
      · kernel_rfl
      · kernel_rfl
      · kernel_rfl
      · have hc : i = 0 ∨ i = 1 ∨ i = 2 ∨ i = 3 ∨ i = 4 ∨ i = 5 ∨ i = 6 ∨ i = 7 ∨ i = 8 ∨ i = 9 ∨ i = 10 ∨ i = 11 ∨ i = 12 ∨ i = 13 ∨ i = 14 ∨ i = 15 ∨ i = 16 ∨ i = 17 ∨ i = 18 ∨ i = 19 ∨ i = 20 ∨ i = 21 := by have : i < 22 := hi; omega
        clear hi
        rcases hc with rfl | rfl | rfl | rfl | rfl | rfl | rfl | rfl | rfl | rfl | rfl | rfl | rfl | rfl | rfl | rfl | rfl | rfl | rfl | rfl | rfl | rfl
        · with_reducible refine DoesN.plain (s := 33) (v := .agg #[.int .i64 X.kind, .int .i64 X.n, .slice xa X.rows.length xc]) ?_ ?_
          · rfl
          intro f wz K hb hd hK
          obtain ⟨d0, d1, d2, _⟩ := cell3 ((hb.block _ (block_lt bA)).trans bA)
          simp only [setN, upd, Nat.reduceAdd, Nat.reduceEqDiff, reduceIte, List.setIfInBounds_toArray, List.set_cons_zero, List.set_cons_succ] at hK ⊢
          refine wpOp_do rfl (by kernel_rfl) ?_
          unfold Oper.wp execOp
          go_simp
          exact hK _ (Below.refl _ _)
        · with_reducible refine DoesN.plain (s := 34) (v := .agg #[.int .i64 op', .string (S a'), .string (S b'), .int .i64 n']) ?_ ?_
          · rfl
          intro f wz K hb hd hK
          obtain ⟨d0, d1, d2, d3, _⟩ := cell4 ((hb.block _ (block_lt hc22)).trans hc22)
          simp only [setN, upd, Nat.reduceAdd, Nat.reduceEqDiff, reduceIte, List.setIfInBounds_toArray, List.set_cons_zero, List.set_cons_succ] at hK ⊢
          refine wpOp_do rfl (by kernel_rfl) ?_
          unfold Oper.wp execOp
          go_simp
          exact hK _ (Below.refl _ _)
        · with_reducible refine DoesN.plain (s := 35) (v := .agg #[.int .i64 k', .string (S t'), .int .i64 m']) ?_ ?_
          · rfl
          intro f wz K hb hd hK
          obtain ⟨d0, d1, d2, _⟩ := cell3 ((hb.block _ (block_lt hr22)).trans hr22)
          simp only [setN, upd, Nat.reduceAdd, Nat.reduceEqDiff, reduceIte, List.setIfInBounds_toArray, List.set_cons_zero, List.set_cons_succ] at hK ⊢
          refine wpOp_do rfl (by kernel_rfl) ?_
          unfold Oper.wp execOp
          go_simp
          exact hK _ (Below.refl _ _)
        · with_reducible refine DoesN.plain (s := 36) (v := .bool false) ?_ ?_
          · rfl
          intro f wz K hb hd hK
          have e0 : f 0 = .agg #[.int .i64 X.kind, .int .i64 X.n, .slice xa X.rows.length xc] := plainAt (s := 33) (cs := []) (hd 0 (by decide)) rfl
          have e1 : f 1 = .agg #[.int .i64 op', .string (S a'), .string (S b'), .int .i64 n'] := plainAt (s := 34) (cs := []) (hd 1 (by decide)) rfl
          have e2 : f 2 = .agg #[.int .i64 k', .string (S t'), .int .i64 m'] := plainAt (s := 35) (cs := []) (hd 2 (by decide)) rfl
          simp only [setN, upd, Nat.reduceAdd, Nat.reduceEqDiff, reduceIte, List.setIfInBounds_toArray, List.set_cons_zero, List.set_cons_succ] at hK ⊢
          simp only [e0, e1, e2] at hK ⊢
          refine wpOp_do rfl (by kernel_rfl) ?_
          unfold Oper.wp execOp
          go_simp
          refine (unhide HL3 _ hb).mono ?_
          rintro e w' ⟨rfl, hb'⟩
          exact hK _ hb'
        · with_reducible refine DoesN.plain (s := 37) (v := .bool false) ?_ ?_
          · rfl
          intro f wz K hb hd hK
          have e3 : f 3 = .bool false := plainAt (s := 36) (cs := []) (hd 3 (by decide)) rfl
          simp only [setN, upd, Nat.reduceAdd, Nat.reduceEqDiff, reduceIte, List.setIfInBounds_toArray, List.set_cons_zero, List.set_cons_succ] at hK ⊢
          simp only [e3] at hK ⊢
          refine wpOp_do rfl (by kernel_rfl) ?_
          unfold Oper.wp execOp
          go_simp
          exact hK _ (Below.refl _ _)
        · with_reducible refine DoesN.plain (s := 38) (v := undef) ?_ ?_
          · rfl
          intro f wz K hb hd hK
          have e4 : f 4 = .bool false := plainAt (s := 37) (cs := []) (hd 4 (by decide)) rfl
          obtain ⟨d0, d1, d2, _⟩ := cell3 ((hb.block _ (block_lt bB)).trans bB)
          simp only [setN, upd, Nat.reduceAdd, Nat.reduceEqDiff, reduceIte, List.setIfInBounds_toArray, List.set_cons_zero, List.set_cons_succ] at hK ⊢
          simp only [e4] at hK ⊢
          refine wpOp_skip rfl (by kernel_rfl) ?_
          go_simp
          exact hK _ (Below.refl _ _)
        · with_reducible refine DoesN.plain (s := 39) (v := undef) ?_ ?_
          · rfl
          intro f wz K hb hd hK
          have e4 : f 4 = .bool false := plainAt (s := 37) (cs := []) (hd 4 (by decide)) rfl
          obtain ⟨d0, d1, d2, d3, _⟩ := cell4 ((hb.block _ (block_lt hc12)).trans hc12)
          simp only [setN, upd, Nat.reduceAdd, Nat.reduceEqDiff, reduceIte, List.setIfInBounds_toArray, List.set_cons_zero, List.set_cons_succ] at hK ⊢
          simp only [e4] at hK ⊢
          refine wpOp_skip rfl (by kernel_rfl) ?_
          go_simp
          exact hK _ (Below.refl _ _)
        · with_reducible refine DoesN.plain (s := 40) (v := undef) ?_ ?_
          · rfl
          intro f wz K hb hd hK
          have e4 : f 4 = .bool false := plainAt (s := 37) (cs := []) (hd 4 (by decide)) rfl
          obtain ⟨d0, d1, d2, _⟩ := cell3 ((hb.block _ (block_lt hr12)).trans hr12)
          simp only [setN, upd, Nat.reduceAdd, Nat.reduceEqDiff, reduceIte, List.setIfInBounds_toArray, List.set_cons_zero, List.set_cons_succ] at hK ⊢
          simp only [e4] at hK ⊢
          refine wpOp_skip rfl (by kernel_rfl) ?_
          go_simp
          exact hK _ (Below.refl _ _)
        · with_reducible refine DoesN.plain (s := 41) (v := undef) ?_ ?_
          · rfl
          intro f wz K hb hd hK
          have e4 : f 4 = .bool false := plainAt (s := 37) (cs := []) (hd 4 (by decide)) rfl
          have e5 : f 5 = undef := plainAt (s := 38) (cs := []) (hd 5 (by decide)) rfl
          have e6 : f 6 = undef := plainAt (s := 39) (cs := []) (hd 6 (by decide)) rfl
          have e7 : f 7 = undef := plainAt (s := 40) (cs := []) (hd 7 (by decide)) rfl
          simp only [setN, upd, Nat.reduceAdd, Nat.reduceEqDiff, reduceIte, List.setIfInBounds_toArray, List.set_cons_zero, List.set_cons_succ] at hK ⊢
          simp only [e4, e5, e6, e7] at hK ⊢
          refine wpOp_skip rfl (by kernel_rfl) ?_
          go_simp
          exact hK _ (Below.refl _ _)
        · with_reducible refine DoesN.plain (s := 42) (v := .bool false) ?_ ?_
          · rfl
          intro f wz K hb hd hK
          have e4 : f 4 = .bool false := plainAt (s := 37) (cs := []) (hd 4 (by decide)) rfl
          have e8 : f 8 = undef := plainAt (s := 41) (cs := []) (hd 8 (by decide)) rfl
          simp only [setN, upd, Nat.reduceAdd, Nat.reduceEqDiff, reduceIte, List.setIfInBounds_toArray, List.set_cons_zero, List.set_cons_succ] at hK ⊢
          simp only [e4, e8] at hK ⊢
          refine wpOp_do rfl (by kernel_rfl) ?_
          unfold Oper.wp execOp
          go_simp
          exact hK _ (Below.refl _ _)
        · with_reducible refine DoesN.plain (s := 43) (v := .bool false) ?_ ?_
          · rfl
          intro f wz K hb hd hK
          have e9 : f 9 = .bool false := plainAt (s := 42) (cs := []) (hd 9 (by decide)) rfl
          simp only [setN, upd, Nat.reduceAdd, Nat.reduceEqDiff, reduceIte, List.setIfInBounds_toArray, List.set_cons_zero, List.set_cons_succ] at hK ⊢
          simp only [e9] at hK ⊢
          refine wpOp_do rfl (by kernel_rfl) ?_
          unfold Oper.wp execOp
          go_simp
          exact hK _ (Below.refl _ _)
        · with_reducible refine DoesN.plain (s := 44) (v := undef) ?_ ?_
          · rfl
          intro f wz K hb hd hK
          have e10 : f 10 = .bool false := plainAt (s := 43) (cs := []) (hd 10 (by decide)) rfl
          obtain ⟨d0, d1, d2, _⟩ := cell3 ((hb.block _ (block_lt bA)).trans bA)
          simp only [setN, upd, Nat.reduceAdd, Nat.reduceEqDiff, reduceIte, List.setIfInBounds_toArray, List.set_cons_zero, List.set_cons_succ] at hK ⊢
          simp only [e10] at hK ⊢
          refine wpOp_skip rfl (by kernel_rfl) ?_
          go_simp
          exact hK _ (Below.refl _ _)
        · with_reducible refine DoesN.plain (s := 45) (v := undef) ?_ ?_
          · rfl
          intro f wz K hb hd hK
          have e10 : f 10 = .bool false := plainAt (s := 43) (cs := []) (hd 10 (by decide)) rfl
          obtain ⟨d0, d1, d2, d3, _⟩ := cell4 ((hb.block _ (block_lt hc22)).trans hc22)
          simp only [setN, upd, Nat.reduceAdd, Nat.reduceEqDiff, reduceIte, List.setIfInBounds_toArray, List.set_cons_zero, List.set_cons_succ] at hK ⊢
          simp only [e10] at hK ⊢
          refine wpOp_skip rfl (by kernel_rfl) ?_
          go_simp
          exact hK _ (Below.refl _ _)
        · with_reducible refine DoesN.plain (s := 46) (v := undef) ?_ ?_
          · rfl
          intro f wz K hb hd hK
          have e10 : f 10 = .bool false := plainAt (s := 43) (cs := []) (hd 10 (by decide)) rfl
          obtain ⟨d0, d1, d2, _⟩ := cell3 ((hb.block _ (block_lt hr22)).trans hr22)
          simp only [setN, upd, Nat.reduceAdd, Nat.reduceEqDiff, reduceIte, List.setIfInBounds_toArray, List.set_cons_zero, List.set_cons_succ] at hK ⊢
          simp only [e10] at hK ⊢
          refine wpOp_skip rfl (by kernel_rfl) ?_
          go_simp
          exact hK _ (Below.refl _ _)
        · with_reducible refine DoesN.plain (s := 47) (v := undef) ?_ ?_
          · rfl
          intro f wz K hb hd hK
          have e10 : f 10 = .bool false := plainAt (s := 43) (cs := []) (hd 10 (by decide)) rfl
          have e11 : f 11 = undef := plainAt (s := 44) (cs := []) (hd 11 (by decide)) rfl
          have e12 : f 12 = undef := plainAt (s := 45) (cs := []) (hd 12 (by decide)) rfl
          have e13 : f 13 = undef := plainAt (s := 46) (cs := []) (hd 13 (by decide)) rfl
          simp only [setN, upd, Nat.reduceAdd, Nat.reduceEqDiff, reduceIte, List.setIfInBounds_toArray, List.set_cons_zero, List.set_cons_succ] at hK ⊢
          simp only [e10, e11, e12, e13] at hK ⊢
          refine wpOp_skip rfl (by kernel_rfl) ?_
          go_simp
          exact hK _ (Below.refl _ _)
        · with_reducible refine DoesN.plain (s := 48) (v := undef) ?_ ?_
          · rfl
          intro f wz K hb hd hK
          have e10 : f 10 = .bool false := plainAt (s := 43) (cs := []) (hd 10 (by decide)) rfl
          obtain ⟨d0, d1, d2, _⟩ := cell3 ((hb.block _ (block_lt bB)).trans bB)
          simp only [setN, upd, Nat.reduceAdd, Nat.reduceEqDiff, reduceIte, List.setIfInBounds_toArray, List.set_cons_zero, List.set_cons_succ] at hK ⊢
          simp only [e10] at hK ⊢
          refine wpOp_skip rfl (by kernel_rfl) ?_
          go_simp
          exact hK _ (Below.refl _ _)
        · with_reducible refine DoesN.plain (s := 49) (v := undef) ?_ ?_
          · rfl
          intro f wz K hb hd hK
          have e10 : f 10 = .bool false := plainAt (s := 43) (cs := []) (hd 10 (by decide)) rfl
          obtain ⟨d0, d1, d2, d3, _⟩ := cell4 ((hb.block _ (block_lt hc12)).trans hc12)
          simp only [setN, upd, Nat.reduceAdd, Nat.reduceEqDiff, reduceIte, List.setIfInBounds_toArray, List.set_cons_zero, List.set_cons_succ] at hK ⊢
          simp only [e10] at hK ⊢
          refine wpOp_skip rfl (by kernel_rfl) ?_
          go_simp
          exact hK _ (Below.refl _ _)
        · with_reducible refine DoesN.plain (s := 50) (v := undef) ?_ ?_
          · rfl
          intro f wz K hb hd hK
          have e10 : f 10 = .bool false := plainAt (s := 43) (cs := []) (hd 10 (by decide)) rfl
          obtain ⟨d0, d1, d2, _⟩ := cell3 ((hb.block _ (block_lt hr12)).trans hr12)
          simp only [setN, upd, Nat.reduceAdd, Nat.reduceEqDiff, reduceIte, List.setIfInBounds_toArray, List.set_cons_zero, List.set_cons_succ] at hK ⊢
          simp only [e10] at hK ⊢
          refine wpOp_skip rfl (by kernel_rfl) ?_
          go_simp
          exact hK _ (Below.refl _ _)
        · with_reducible refine DoesN.plain (s := 51) (v := undef) ?_ ?_
          · rfl
          intro f wz K hb hd hK
          have e10 : f 10 = .bool false := plainAt (s := 43) (cs := []) (hd 10 (by decide)) rfl
          have e15 : f 15 = undef := plainAt (s := 48) (cs := []) (hd 15 (by decide)) rfl
          have e16 : f 16 = undef := plainAt (s := 49) (cs := []) (hd 16 (by decide)) rfl
          have e17 : f 17 = undef := plainAt (s := 50) (cs := []) (hd 17 (by decide)) rfl
          simp only [setN, upd, Nat.reduceAdd, Nat.reduceEqDiff, reduceIte, List.setIfInBounds_toArray, List.set_cons_zero, List.set_cons_succ] at hK ⊢
          simp only [e10, e15, e16, e17] at hK ⊢
          refine wpOp_skip rfl (by kernel_rfl) ?_
          go_simp
          exact hK _ (Below.refl _ _)
        · with_reducible refine DoesN.plain (s := 52) (v := undef) ?_ ?_
          · rfl
          intro f wz K hb hd hK
          have e10 : f 10 = .bool false := plainAt (s := 43) (cs := []) (hd 10 (by decide)) rfl
          have e14 : f 14 = undef := plainAt (s := 47) (cs := []) (hd 14 (by decide)) rfl
          have e18 : f 18 = undef := plainAt (s := 51) (cs := []) (hd 18 (by decide)) rfl
          simp only [setN, upd, Nat.reduceAdd, Nat.reduceEqDiff, reduceIte, List.setIfInBounds_toArray, List.set_cons_zero, List.set_cons_succ] at hK ⊢
          simp only [e10, e14, e18] at hK ⊢
          refine wpOp_skip rfl (by kernel_rfl) ?_
          go_simp
          exact hK _ (Below.refl _ _)
        · with_reducible refine DoesN.plain (s := 53) (v := .bool false) ?_ ?_
          · rfl
          intro f wz K hb hd hK
          have e10 : f 10 = .bool false := plainAt (s := 43) (cs := []) (hd 10 (by decide)) rfl
          have e19 : f 19 = undef := plainAt (s := 52) (cs := []) (hd 19 (by decide)) rfl
          simp only [setN, upd, Nat.reduceAdd, Nat.reduceEqDiff, reduceIte, List.setIfInBounds_toArray, List.set_cons_zero, List.set_cons_succ] at hK ⊢
          simp only [e10, e19] at hK ⊢
          refine wpOp_do rfl (by kernel_rfl) ?_
          unfold Oper.wp execOp
          go_simp
          exact hK _ (Below.refl _ _)
        · with_reducible refine DoesN.plain (s := 10) (v := .bool false) ?_ ?_
          · rfl
          intro f wz K hb hd hK
          have e20 : f 20 = .bool false := plainAt (s := 53) (cs := []) (hd 20 (by decide)) rfl
          simp only [setN, upd, Nat.reduceAdd, Nat.reduceEqDiff, reduceIte, List.setIfInBounds_toArray, List.set_cons_zero, List.set_cons_succ] at hK ⊢
          simp only [e20] at hK ⊢
          refine wpOp_do rfl (by kernel_rfl) ?_
          unfold Oper.wp execOp
          go_simp
          exact hK _ (Below.refl _ _)
      · intro f wE hbE hv hp hne ho
        have h0 : f 0 = .agg #[.int .i64 X.kind, .int .i64 X.n, .slice xa X.rows.length xc] := plainAt (s := 33) (cs := []) (hv 0) rfl
        have h1 : f 1 = .agg #[.int .i64 op', .string (S a'), .string (S b'), .int .i64 n'] := plainAt (s := 34) (cs := []) (hv 1) rfl
        have h2 : f 2 = .agg #[.int .i64 k', .string (S t'), .int .i64 m'] := plainAt (s := 35) (cs := []) (hv 2) rfl
        have h3 : f 3 = .bool false := plainAt (s := 36) (cs := []) (hv 3) rfl
        have h4 : f 4 = .bool false := plainAt (s := 37) (cs := []) (hv 4) rfl
        have h5 : f 5 = undef := plainAt (s := 38) (cs := []) (hv 5) rfl
        have h6 : f 6 = undef := plainAt (s := 39) (cs := []) (hv 6) rfl
        have h7 : f 7 = undef := plainAt (s := 40) (cs := []) (hv 7) rfl
        have h8 : f 8 = undef := plainAt (s := 41) (cs := []) (hv 8) rfl
        have h9 : f 9 = .bool false := plainAt (s := 42) (cs := []) (hv 9) rfl
        have h10 : f 10 = .bool false := plainAt (s := 43) (cs := []) (hv 10) rfl
        have h11 : f 11 = undef := plainAt (s := 44) (cs := []) (hv 11) rfl
        have h12 : f 12 = undef := plainAt (s := 45) (cs := []) (hv 12) rfl
        have h13 : f 13 = undef := plainAt (s := 46) (cs := []) (hv 13) rfl
        have h14 : f 14 = undef := plainAt (s := 47) (cs := []) (hv 14) rfl
        have h15 : f 15 = undef := plainAt (s := 48) (cs := []) (hv 15) rfl
        have h16 : f 16 = undef := plainAt (s := 49) (cs := []) (hv 16) rfl
        have h17 : f 17 = undef := plainAt (s := 50) (cs := []) (hv 17) rfl
        have h18 : f 18 = undef := plainAt (s := 51) (cs := []) (hv 18) rfl
        have h19 : f 19 = undef := plainAt (s := 52) (cs := []) (hv 19) rfl
        have h20 : f 20 = .bool false := plainAt (s := 53) (cs := []) (hv 20) rfl
        have h21 : f 21 = .bool false := plainAt (s := 10) (cs := []) (hv 21) rfl
        simp only [setN, Nat.reduceAdd, List.setIfInBounds_toArray, List.set_cons_zero, List.set_cons_succ]
        simp only [h0, h1, h2, h3, h4, h5, h6, h7, h8, h9, h10, h11, h12, h13, h14, h15, h16, h17, h18, h19, h20, h21]
        clear h0 h1 h2 h3 h4 h5 h6 h7 h8 h9 h10 h11 h12 h13 h14 h15 h16 h17 h18 h19 h20 h21
        have HE2 := hide ((unhide HE).trans (hbE.mono (unhide HE).size))
        clear hbE hv hp hne ho
        go_wp2_with fail
        go_ret
        exact ⟨rfl, unhide HE2⟩
    cases L4
    · go_upto_region 4 with fail
      refine regN [.val 33 (Res.plain (.agg #[.int .i64 X.kind, .int .i64 X.n, .slice xa X.rows.length xc]) []), .val 34 (Res.plain (.agg #[.int .i64 op', .string (S a'), .string (S b'), .int .i64 n']) []), .val 35 (Res.plain (.agg #[.int .i64 k', .string (S t'), .int .i64 m']) []), .val 36 (Res.plain (.bool true) []), .val 37 (Res.plain (.bool true) []), .val 38 (Res.plain (.agg #[.int .i64 Y.kind, .int .i64 Y.n, .slice ya Y.rows.length yc]) []), .val 39 (Res.plain (.agg #[.int .i64 op, .string (S a), .string (S b), .int .i64 n]) []), .val 40 (Res.plain (.agg #[.int .i64 k, .string (S t), .int .i64 m]) []), .val 41 (Res.plain (.bool false) []), .val 42 (Res.plain (.bool false) []), .val 43 (Res.plain (.bool false) []), .val 44 (Res.plain (undef) []), .val 45 (Res.plain (undef) []), .val 46 (Res.plain (undef) []), .val 47 (Res.plain (undef) []), .val 48 (Res.plain (undef) []), .val 49 (Res.plain (undef) []), .val 50 (Res.plain (undef) []), .val 51 (Res.plain (undef) []), .val 52 (Res.plain (undef) []), .val 53 (Res.plain (.bool false) []), .val 10 (Res.plain (.bool false) [])] (fun i => if i = 3 then [0, 1, 2] else if i = 4 then [3] else if i = 5 then [4] else if i = 6 then [4] else if i = 7 then [4] else if i = 8 then [4, 5, 6, 7] else if i = 9 then [4, 8] else if i = 10 then [9] else if i = 11 then [10] else if i = 12 then [10] else if i = 13 then [10] else if i = 14 then [10, 11, 12, 13] else if i = 15 then [10] else if i = 16 then [10] else if i = 17 then [10] else if i = 18 then [10, 15, 16, 17] else if i = 19 then [10, 14, 18] else if i = 20 then [10, 19] else if i = 21 then [20] else []) ?_ ?_ ?_ ?_ ?_ ?_ ?_ (fun i hi => ?_) ?_
      · kernel_rfl
      · rfl
      · kernel_rfl
      · kernel_rfl
      · kernel_rfl
      · kernel_rfl
      · kernel_rfl
      · have hc : i = 0 ∨ i = 1 ∨ i = 2 ∨ i = 3 ∨ i = 4 ∨ i = 5 ∨ i = 6 ∨ i = 7 ∨ i = 8 ∨ i = 9 ∨ i = 10 ∨ i = 11 ∨ i = 12 ∨ i = 13 ∨ i = 14 ∨ i = 15 ∨ i = 16 ∨ i = 17 ∨ i = 18 ∨ i = 19 ∨ i = 20 ∨ i = 21 := by have : i < 22 := hi; omega
        clear hi
        rcases hc with rfl | rfl | rfl | rfl | rfl | rfl | rfl | rfl | rfl | rfl | rfl | rfl | rfl | rfl | rfl | rfl | rfl | rfl | rfl | rfl | rfl | rfl
        · with_reducible refine DoesN.plain (s := 33) (v := .agg #[.int .i64 X.kind, .int .i64 X.n, .slice xa X.rows.length xc]) ?_ ?_
          · rfl
          intro f wz K hb hd hK
          obtain ⟨d0, d1, d2, _⟩ := cell3 ((hb.block _ (block_lt bA)).trans bA)
          simp only [setN, upd, Nat.reduceAdd, Nat.reduceEqDiff, reduceIte, List.setIfInBounds_toArray, List.set_cons_zero, List.set_cons_succ] at hK ⊢
          refine wpOp_do rfl (by kernel_rfl) ?_
          unfold Oper.wp execOp
          go_simp
          exact hK _ (Below.refl _ _)
        · with_reducible refine DoesN.plain (s := 34) (v := .agg #[.int .i64 op', .string (S a'), .string (S b'), .int .i64 n']) ?_ ?_
          · rfl
          intro f wz K hb hd hK
          obtain ⟨d0, d1, d2, d3, _⟩ := cell4 ((hb.block _ (block_lt hc22)).trans hc22)
          simp only [setN, upd, Nat.reduceAdd, Nat.reduceEqDiff, reduceIte, List.setIfInBounds_toArray, List.set_cons_zero, List.set_cons_succ] at hK ⊢
          refine wpOp_do rfl (by kernel_rfl) ?_
          unfold Oper.wp execOp
          go_simp
          exact hK _ (Below.refl _ _)
        · with_reducible refine DoesN.plain (s := 35) (v := .agg #[.int .i64 k', .string (S t'), .int .i64 m']) ?_ ?_
          · rfl
          intro f wz K hb hd hK
          obtain ⟨d0, d1, d2, _⟩ := cell3 ((hb.block _ (block_lt hr22)).trans hr22)
          simp only [setN, upd, Nat.reduceAdd, Nat.reduceEqDiff, reduceIte, List.setIfInBounds_toArray, List.set_cons_zero, List.set_cons_succ] at hK ⊢
          refine wpOp_do rfl (by kernel_rfl) ?_
          unfold Oper.wp execOp
          go_simp
          exact hK _ (Below.refl _ _)
        · with_reducible refine DoesN.plain (s := 36) (v := .bool true) ?_ ?_
          · rfl
          intro f wz K hb hd hK
          have e0 : f 0 = .agg #[.int .i64 X.kind, .int .i64 X.n, .slice xa X.rows.length xc] := plainAt (s := 33) (cs := []) (hd 0 (by decide)) rfl
          have e1 : f 1 = .agg #[.int .i64 op', .string (S a'), .string (S b'), .int .i64 n'] := plainAt (s := 34) (cs := []) (hd 1 (by decide)) rfl
          have e2 : f 2 = .agg #[.int .i64 k', .string (S t'), .int .i64 m'] := plainAt (s := 35) (cs := []) (hd 2 (by decide)) rfl
          simp only [setN, upd, Nat.reduceAdd, Nat.reduceEqDiff, reduceIte, List.setIfInBounds_toArray, List.set_cons_zero, List.set_cons_succ] at hK ⊢
          simp only [e0, e1, e2] at hK ⊢
          refine wpOp_do rfl (by kernel_rfl) ?_
          unfold Oper.wp execOp
          go_simp
          refine (unhide HL3 _ hb).mono ?_
          rintro e w' ⟨rfl, hb'⟩
          exact hK _ hb'
        · with_reducible refine DoesN.plain (s := 37) (v := .bool true) ?_ ?_
          · rfl
          intro f wz K hb hd hK
          have e3 : f 3 = .bool true := plainAt (s := 36) (cs := []) (hd 3 (by decide)) rfl
          simp only [setN, upd, Nat.reduceAdd, Nat.reduceEqDiff, reduceIte, List.setIfInBounds_toArray, List.set_cons_zero, List.set_cons_succ] at hK ⊢
          simp only [e3] at hK ⊢
          refine wpOp_do rfl (by kernel_rfl) ?_
          unfold Oper.wp execOp
          go_simp
          exact hK _ (Below.refl _ _)
        · with_reducible refine DoesN.plain (s := 38) (v := .agg #[.int .i64 Y.kind, .int .i64 Y.n, .slice ya Y.rows.length yc]) ?_ ?_
          · rfl
          intro f wz K hb hd hK
          have e4 : f 4 = .bool true := plainAt (s := 37) (cs := []) (hd 4 (by decide)) rfl
          obtain ⟨d0, d1, d2, _⟩ := cell3 ((hb.block _ (block_lt bB)).trans bB)
          simp only [setN, upd, Nat.reduceAdd, Nat.reduceEqDiff, reduceIte, List.setIfInBounds_toArray, List.set_cons_zero, List.set_cons_succ] at hK ⊢
          simp only [e4] at hK ⊢
          refine wpOp_do rfl (by kernel_rfl) ?_
          unfold Oper.wp execOp
          go_simp
          exact hK _ (Below.refl _ _)
        · with_reducible refine DoesN.plain (s := 39) (v := .agg #[.int .i64 op, .string (S a), .string (S b), .int .i64 n]) ?_ ?_
          · rfl
          intro f wz K hb hd hK
          have e4 : f 4 = .bool true := plainAt (s := 37) (cs := []) (hd 4 (by decide)) rfl
          obtain ⟨d0, d1, d2, d3, _⟩ := cell4 ((hb.block _ (block_lt hc12)).trans hc12)
          simp only [setN, upd, Nat.reduceAdd, Nat.reduceEqDiff, reduceIte, List.setIfInBounds_toArray, List.set_cons_zero, List.set_cons_succ] at hK ⊢
          simp only [e4] at hK ⊢
          refine wpOp_do rfl (by kernel_rfl) ?_
          unfold Oper.wp execOp
          go_simp
          exact hK _ (Below.refl _ _)
        · with_reducible refine DoesN.plain (s := 40) (v := .agg #[.int .i64 k, .string (S t), .int .i64 m]) ?_ ?_
          · rfl
          intro f wz K hb hd hK
          have e4 : f 4 = .bool true := plainAt (s := 37) (cs := []) (hd 4 (by decide)) rfl
          obtain ⟨d0, d1, d2, _⟩ := cell3 ((hb.block _ (block_lt hr12)).trans hr12)
          simp only [setN, upd, Nat.reduceAdd, Nat.reduceEqDiff, reduceIte, List.setIfInBounds_toArray, List.set_cons_zero, List.set_cons_succ] at hK ⊢
          simp only [e4] at hK ⊢
          refine wpOp_do rfl (by kernel_rfl) ?_
          unfold Oper.wp execOp
          go_simp
          exact hK _ (Below.refl _ _)
        · with_reducible refine DoesN.plain (s := 41) (v := .bool false) ?_ ?_
          · rfl
          intro f wz K hb hd hK
          have e4 : f 4 = .bool true := plainAt (s := 37) (cs := []) (hd 4 (by decide)) rfl
          have e5 : f 5 = .agg #[.int .i64 Y.kind, .int .i64 Y.n, .slice ya Y.rows.length yc] := plainAt (s := 38) (cs := []) (hd 5 (by decide)) rfl
          have e6 : f 6 = .agg #[.int .i64 op, .string (S a), .string (S b), .int .i64 n] := plainAt (s := 39) (cs := []) (hd 6 (by decide)) rfl
          have e7 : f 7 = .agg #[.int .i64 k, .string (S t), .int .i64 m] := plainAt (s := 40) (cs := []) (hd 7 (by decide)) rfl
          simp only [setN, upd, Nat.reduceAdd, Nat.reduceEqDiff, reduceIte, List.setIfInBounds_toArray, List.set_cons_zero, List.set_cons_succ] at hK ⊢
          simp only [e4, e5, e6, e7] at hK ⊢
          refine wpOp_do rfl (by kernel_rfl) ?_
          unfold Oper.wp execOp
          go_simp
          refine (unhide HL4 _ hb).mono ?_
          rintro e w' ⟨rfl, hb'⟩
          exact hK _ hb'
        · with_reducible refine DoesN.plain (s := 42) (v := .bool false) ?_ ?_
          · rfl
          intro f wz K hb hd hK
          have e4 : f 4 = .bool true := plainAt (s := 37) (cs := []) (hd 4 (by decide)) rfl
          have e8 : f 8 = .bool false := plainAt (s := 41) (cs := []) (hd 8 (by decide)) rfl
          simp only [setN, upd, Nat.reduceAdd, Nat.reduceEqDiff, reduceIte, List.setIfInBounds_toArray, List.set_cons_zero, List.set_cons_succ] at hK ⊢
          simp only [e4, e8] at hK ⊢
          refine wpOp_do rfl (by kernel_rfl) ?_
          unfold Oper.wp execOp
          go_simp
          exact hK _ (Below.refl _ _)
        · with_reducible refine DoesN.plain (s := 43) (v := .bool false) ?_ ?_
          · rfl
          intro f wz K hb hd hK
          have e9 : f 9 = .bool false := plainAt (s := 42) (cs := []) (hd 9 (by decide)) rfl
          simp only [setN, upd, Nat.reduceAdd, Nat.reduceEqDiff, reduceIte, List.setIfInBounds_toArray, List.set_cons_zero, List.set_cons_succ] at hK ⊢
          simp only [e9] at hK ⊢
          refine wpOp_do rfl (by kernel_rfl) ?_
          unfold Oper.wp execOp
          go_simp
          exact hK _ (Below.refl _ _)
        · with_reducible refine DoesN.plain (s := 44) (v := undef) ?_ ?_
          · rfl
          intro f wz K hb hd hK
          have e10 : f 10 = .bool false := plainAt (s := 43) (cs := []) (hd 10 (by decide)) rfl
          obtain ⟨d0, d1, d2, _⟩ := cell3 ((hb.block _ (block_lt bA)).trans bA)
          simp only [setN, upd, Nat.reduceAdd, Nat.reduceEqDiff, reduceIte, List.setIfInBounds_toArray, List.set_cons_zero, List.set_cons_succ] at hK ⊢
          simp only [e10] at hK ⊢
          refine wpOp_skip rfl (by kernel_rfl) ?_
          go_simp
          exact hK _ (Below.refl _ _)
        · with_reducible refine DoesN.plain (s := 45) (v := undef) ?_ ?_
          · rfl
          intro f wz K hb hd hK
          have e10 : f 10 = .bool false := plainAt (s := 43) (cs := []) (hd 10 (by decide)) rfl
          obtain ⟨d0, d1, d2, d3, _⟩ := cell4 ((hb.block _ (block_lt hc22)).trans hc22)
          simp only [setN, upd, Nat.reduceAdd, Nat.reduceEqDiff, reduceIte, List.setIfInBounds_toArray, List.set_cons_zero, List.set_cons_succ] at hK ⊢
          simp only [e10] at hK ⊢
          refine wpOp_skip rfl (by kernel_rfl) ?_
          go_simp
          exact hK _ (Below.refl _ _)
        · with_reducible refine DoesN.plain (s := 46) (v := undef) ?_ ?_
          · rfl
          intro f wz K hb hd hK
          have e10 : f 10 = .bool false := plainAt (s := 43) (cs := []) (hd 10 (by decide)) rfl
          obtain ⟨d0, d1, d2, _⟩ := cell3 ((hb.block _ (block_lt hr22)).trans hr22)
          simp only [setN, upd, Nat.reduceAdd, Nat.reduceEqDiff, reduceIte, List.setIfInBounds_toArray, List.set_cons_zero, List.set_cons_succ] at hK ⊢
          simp only [e10] at hK ⊢
          refine wpOp_skip rfl (by kernel_rfl) ?_
          go_simp
          exact hK _ (Below.refl _ _)
        · with_reducible refine DoesN.plain (s := 47) (v := undef) ?_ ?_
          · rfl
          intro f wz K hb hd hK
          have e10 : f 10 = .bool false := plainAt (s := 43) (cs := []) (hd 10 (by decide)) rfl
          have e11 : f 11 = undef := plainAt (s := 44) (cs := []) (hd 11 (by decide)) rfl
          have e12 : f 12 = undef := plainAt (s := 45) (cs := []) (hd 12 (by decide)) rfl
          have e13 : f 13 = undef := plainAt (s := 46) (cs := []) (hd 13 (by decide)) rfl
          simp only [setN, upd, Nat.reduceAdd, Nat.reduceEqDiff, reduceIte, List.setIfInBounds_toArray, List.set_cons_zero, List.set_cons_succ] at hK ⊢
          simp only [e10, e11, e12, e13] at hK ⊢
          refine wpOp_skip rfl (by kernel_rfl) ?_
          go_simp
          exact hK _ (Below.refl _ _)
        · with_reducible refine DoesN.plain (s := 48) (v := undef) ?_ ?_
          · rfl
          intro f wz K hb hd hK
          have e10 : f 10 = .bool false := plainAt (s := 43) (cs := []) (hd 10 (by decide)) rfl
          obtain ⟨d0, d1, d2, _⟩ := cell3 ((hb.block _ (block_lt bB)).trans bB)
          simp only [setN, upd, Nat.reduceAdd, Nat.reduceEqDiff, reduceIte, List.setIfInBounds_toArray, List.set_cons_zero, List.set_cons_succ] at hK ⊢
          simp only [e10] at hK ⊢
          refine wpOp_skip rfl (by kernel_rfl) ?_
          go_simp
          exact hK _ (Below.refl _ _)
        · with_reducible refine DoesN.plain (s := 49) (v := undef) ?_ ?_
          · rfl
          intro f wz K hb hd hK
          have e10 : f 10 = .bool false := plainAt (s := 43) (cs := []) (hd 10 (by decide)) rfl
          obtain ⟨d0, d1, d2, d3, _⟩ := cell4 ((hb.block _ (block_lt hc12)).trans hc12)
          simp only [setN, upd, Nat.reduceAdd, Nat.reduceEqDiff, reduceIte, List.setIfInBounds_toArray, List.set_cons_zero, List.set_cons_succ] at hK ⊢
          simp only [e10] at hK ⊢
          refine wpOp_skip rfl (by kernel_rfl) ?_
          go_simp
          exact hK _ (Below.refl _ _)
        · with_reducible refine DoesN.plain (s := 50) (v := undef) ?_ ?_
          · rfl
          intro f wz K hb hd hK
          have e10 : f 10 = .bool false := plainAt (s := 43) (cs := []) (hd 10 (by decide)) rfl
          obtain ⟨d0, d1, d2, _⟩ := cell3 ((hb.block _ (block_lt hr12)).trans hr12)
          simp only [setN, upd, Nat.reduceAdd, Nat.reduceEqDiff, reduceIte, List.setIfInBounds_toArray, List.set_cons_zero, List.set_cons_succ] at hK ⊢
          simp only [e10] at hK ⊢
          refine wpOp_skip rfl (by kernel_rfl) ?_
          go_simp
          exact hK _ (Below.refl _ _)
        · with_reducible refine DoesN.plain (s := 51) (v := undef) ?_ ?_
          · rfl
          intro f wz K hb hd hK
          have e10 : f 10 = .bool false := plainAt (s := 43) (cs := []) (hd 10 (by decide)) rfl
          have e15 : f 15 = undef := plainAt (s := 48) (cs := []) (hd 15 (by decide)) rfl
          have e16 : f 16 = undef := plainAt (s := 49) (cs := []) (hd 16 (by decide)) rfl
          have e17 : f 17 = undef := plainAt (s := 50) (cs := []) (hd 17 (by decide)) rfl
          simp only [setN, upd, Nat.reduceAdd, Nat.reduceEqDiff, reduceIte, List.setIfInBounds_toArray, List.set_cons_zero, List.set_cons_succ] at hK ⊢
          simp only [e10, e15, e16, e17] at hK ⊢
          refine wpOp_skip rfl (by kernel_rfl) ?_
          go_simp
          exact hK _ (Below.refl _ _)
        · with_reducible refine DoesN.plain (s := 52) (v := undef) ?_ ?_
          · rfl
          intro f wz K hb hd hK
          have e10 : f 10 = .bool false := plainAt (s := 43) (cs := []) (hd 10 (by decide)) rfl
          have e14 : f 14 = undef := plainAt (s := 47) (cs := []) (hd 14 (by decide)) rfl
          have e18 : f 18 = undef := plainAt (s := 51) (cs := []) (hd 18 (by decide)) rfl
          simp only [setN, upd, Nat.reduceAdd, Nat.reduceEqDiff, reduceIte, List.setIfInBounds_toArray, List.set_cons_zero, List.set_cons_succ] at hK ⊢
          simp only [e10, e14, e18] at hK ⊢
          refine wpOp_skip rfl (by kernel_rfl) ?_
          go_simp
          exact hK _ (Below.refl _ _)
        · with_reducible refine DoesN.plain (s := 53) (v := .bool false) ?_ ?_
          · rfl
          intro f wz K hb hd hK
          have e10 : f 10 = .bool false := plainAt (s := 43) (cs := []) (hd 10 (by decide)) rfl
          have e19 : f 19 = undef := plainAt (s := 52) (cs := []) (hd 19 (by decide)) rfl
          simp only [setN, upd, Nat.reduceAdd, Nat.reduceEqDiff, reduceIte, List.setIfInBounds_toArray, List.set_cons_zero, List.set_cons_succ] at hK ⊢
          simp only [e10, e19] at hK ⊢
          refine wpOp_do rfl (by kernel_rfl) ?_
          unfold Oper.wp execOp
          go_simp
          exact hK _ (Below.refl _ _)
        · with_reducible refine DoesN.plain (s := 10) (v := .bool false) ?_ ?_
          · rfl
          intro f wz K hb hd hK
          have e20 : f 20 = .bool false := plainAt (s := 53) (cs := []) (hd 20 (by decide)) rfl
          simp only [setN, upd, Nat.reduceAdd, Nat.reduceEqDiff, reduceIte, List.setIfInBounds_toArray, List.set_cons_zero, List.set_cons_succ] at hK ⊢
          simp only [e20] at hK ⊢
          refine wpOp_do rfl (by kernel_rfl) ?_
          unfold Oper.wp execOp
          go_simp
          exact hK _ (Below.refl _ _)
      · intro f wE hbE hv hp hne ho
        have h0 : f 0 = .agg #[.int .i64 X.kind, .int .i64 X.n, .slice xa X.rows.length xc] := plainAt (s := 33) (cs := []) (hv 0) rfl
        have h1 : f 1 = .agg #[.int .i64 op', .string (S a'), .string (S b'), .int .i64 n'] := plainAt (s := 34) (cs := []) (hv 1) rfl
        have h2 : f 2 = .agg #[.int .i64 k', .string (S t'), .int .i64 m'] := plainAt (s := 35) (cs := []) (hv 2) rfl
        have h3 : f 3 = .bool true := plainAt (s := 36) (cs := []) (hv 3) rfl
        have h4 : f 4 = .bool true := plainAt (s := 37) (cs := []) (hv 4) rfl
        have h5 : f 5 = .agg #[.int .i64 Y.kind, .int .i64 Y.n, .slice ya Y.rows.length yc] := plainAt (s := 38) (cs := []) (hv 5) rfl
        have h6 : f 6 = .agg #[.int .i64 op, .string (S a), .string (S b), .int .i64 n] := plainAt (s := 39) (cs := []) (hv 6) rfl
        have h7 : f 7 = .agg #[.int .i64 k, .string (S t), .int .i64 m] := plainAt (s := 40) (cs := []) (hv 7) rfl
        have h8 : f 8 = .bool false := plainAt (s := 41) (cs := []) (hv 8) rfl
        have h9 : f 9 = .bool false := plainAt (s := 42) (cs := []) (hv 9) rfl
        have h10 : f 10 = .bool false := plainAt (s := 43) (cs := []) (hv 10) rfl
        have h11 : f 11 = undef := plainAt (s := 44) (cs := []) (hv 11) rfl
        have h12 : f 12 = undef := plainAt (s := 45) (cs := []) (hv 12) rfl
        have h13 : f 13 = undef := plainAt (s := 46) (cs := []) (hv 13) rfl
        have h14 : f 14 = undef := plainAt (s := 47) (cs := []) (hv 14) rfl
        have h15 : f 15 = undef := plainAt (s := 48) (cs := []) (hv 15) rfl
        have h16 : f 16 = undef := plainAt (s := 49) (cs := []) (hv 16) rfl
        have h17 : f 17 = undef := plainAt (s := 50) (cs := []) (hv 17) rfl
        have h18 : f 18 = undef := plainAt (s := 51) (cs := []) (hv 18) rfl
        have h19 : f 19 = undef := plainAt (s := 52) (cs := []) (hv 19) rfl
        have h20 : f 20 = .bool false := plainAt (s := 53) (cs := []) (hv 20) rfl
        have h21 : f 21 = .bool false := plainAt (s := 10) (cs := []) (hv 21) rfl
        simp only [setN, Nat.reduceAdd, List.setIfInBounds_toArray, List.set_cons_zero, List.set_cons_succ]
        simp only [h0, h1, h2, h3, h4, h5, h6, h7, h8, h9, h10, h11, h12, h13, h14, h15, h16, h17, h18, h19, h20, h21]
        clear h0 h1 h2 h3 h4 h5 h6 h7 h8 h9 h10 h11 h12 h13 h14 h15 h16 h17 h18 h19 h20 h21
        have HE2 := hide ((unhide HE).trans (hbE.mono (unhide HE).size))
        clear hbE hv hp hne ho
        go_wp2_with fail
        go_ret
        exact ⟨rfl, unhide HE2⟩
    go_upto_region 4 with fail
    refine regN [.val 33 (Res.plain (.agg #[.int .i64 X.kind, .int .i64 X.n, .slice xa X.rows.length xc]) []), .val 34 (Res.plain (.agg #[.int .i64 op', .string (S a'), .string (S b'), .int .i64 n']) []), .val 35 (Res.plain (.agg #[.int .i64 k', .string (S t'), .int .i64 m']) []), .val 36 (Res.plain (.bool true) []), .val 37 (Res.plain (.bool true) []), .val 38 (Res.plain (.agg #[.int .i64 Y.kind, .int .i64 Y.n, .slice ya Y.rows.length yc]) []), .val 39 (Res.plain (.agg #[.int .i64 op, .string (S a), .string (S b), .int .i64 n]) []), .val 40 (Res.plain (.agg #[.int .i64 k, .string (S t), .int .i64 m]) []), .val 41 (Res.plain (.bool true) []), .val 42 (Res.plain (.bool true) []), .val 43 (Res.plain (.bool true) []), .val 44 (Res.plain (.agg #[.int .i64 X.kind, .int .i64 X.n, .slice xa X.rows.length xc]) []), .val 45 (Res.plain (.agg #[.int .i64 op', .string (S a'), .string (S b'), .int .i64 n']) []), .val 46 (Res.plain (.agg #[.int .i64 k', .string (S t'), .int .i64 m']) []), .val 47 (Res.state (fun z => z = Z1) 0 77), .val 48 (Res.plain (.agg #[.int .i64 Y.kind, .int .i64 Y.n, .slice ya Y.rows.length yc]) []), .val 49 (Res.plain (.agg #[.int .i64 op, .string (S a), .string (S b), .int .i64 n]) []), .val 50 (Res.plain (.agg #[.int .i64 k, .string (S t), .int .i64 m]) []), .val 51 (Res.state (fun z => z = Z2) 0 77), .val 52 (Res.plain (.bool E) []), .val 53 (Res.plain (.bool E) []), .val 10 (Res.plain (.bool E) [])] (fun i => if i = 3 then [0, 1, 2] else if i = 4 then [3] else if i = 5 then [4] else if i = 6 then [4] else if i = 7 then [4] else if i = 8 then [4, 5, 6, 7] else if i = 9 then [4, 8] else if i = 10 then [9] else if i = 11 then [10] else if i = 12 then [10] else if i = 13 then [10] else if i = 14 then [10, 11, 12, 13] else if i = 15 then [10] else if i = 16 then [10] else if i = 17 then [10] else if i = 18 then [10, 15, 16, 17] else if i = 19 then [10, 14, 18] else if i = 20 then [10, 19] else if i = 21 then [20] else []) ?_ ?_ ?_ ?_ ?_ ?_ ?_ (fun i hi => ?_) ?_
    · kernel_rfl
    · rfl
    · kernel_rfl
    · kernel_rfl
    · kernel_rfl
    · kernel_rfl
    · kernel_rfl
    · have hc : i = 0 ∨ i = 1 ∨ i = 2 ∨ i = 3 ∨ i = 4 ∨ i = 5 ∨ i = 6 ∨ i = 7 ∨ i = 8 ∨ i = 9 ∨ i = 10 ∨ i = 11 ∨ i = 12 ∨ i = 13 ∨ i = 14 ∨ i = 15 ∨ i = 16 ∨ i = 17 ∨ i = 18 ∨ i = 19 ∨ i = 20 ∨ i = 21 := by have : i < 22 := hi; omega
      clear hi
      rcases hc with rfl | rfl | rfl | rfl | rfl | rfl | rfl | rfl | rfl | rfl | rfl | rfl | rfl | rfl | rfl | rfl | rfl | rfl | rfl | rfl | rfl | rfl
      · with_reducible refine DoesN.plain (s := 33) (v := .agg #[.int .i64 X.kind, .int .i64 X.n, .slice xa X.rows.length xc]) ?_ ?_
        · rfl
        intro f wz K hb hd hK
        obtain ⟨d0, d1, d2, _⟩ := cell3 ((hb.block _ (block_lt bA)).trans bA)
        simp only [setN, upd, Nat.reduceAdd, Nat.reduceEqDiff, reduceIte, List.setIfInBounds_toArray, List.set_cons_zero, List.set_cons_succ] at hK ⊢
        refine wpOp_do rfl (by kernel_rfl) ?_
        unfold Oper.wp execOp
        go_simp
        exact hK _ (Below.refl _ _)
      · with_reducible refine DoesN.plain (s := 34) (v := .agg #[.int .i64 op', .string (S a'), .string (S b'), .int .i64 n']) ?_ ?_
        · rfl
        intro f wz K hb hd hK
        obtain ⟨d0, d1, d2, d3, _⟩ := cell4 ((hb.block _ (block_lt hc22)).trans hc22)
        simp only [setN, upd, Nat.reduceAdd, Nat.reduceEqDiff, reduceIte, List.setIfInBounds_toArray, List.set_cons_zero, List.set_cons_succ] at hK ⊢
        refine wpOp_do rfl (by kernel_rfl) ?_
        unfold Oper.wp execOp
        go_simp
        exact hK _ (Below.refl _ _)
      · with_reducible refine DoesN.plain (s := 35) (v := .agg #[.int .i64 k', .string (S t'), .int .i64 m']) ?_ ?_
        · rfl
        intro f wz K hb hd hK
        obtain ⟨d0, d1, d2, _⟩ := cell3 ((hb.block _ (block_lt hr22)).trans hr22)
        simp only [setN, upd, Nat.reduceAdd, Nat.reduceEqDiff, reduceIte, List.setIfInBounds_toArray, List.set_cons_zero, List.set_cons_succ] at hK ⊢
        refine wpOp_do rfl (by kernel_rfl) ?_
        unfold Oper.wp execOp
        go_simp
        exact hK _ (Below.refl _ _)
      · with_reducible refine DoesN.plain (s := 36) (v := .bool true) ?_ ?_
        · rfl
        intro f wz K hb hd hK
        have e0 : f 0 = .agg #[.int .i64 X.kind, .int .i64 X.n, .slice xa X.rows.length xc] := plainAt (s := 33) (cs := []) (hd 0 (by decide)) rfl
        have e1 : f 1 = .agg #[.int .i64 op', .string (S a'), .string (S b'), .int .i64 n'] := plainAt (s := 34) (cs := []) (hd 1 (by decide)) rfl
        have e2 : f 2 = .agg #[.int .i64 k', .string (S t'), .int .i64 m'] := plainAt (s := 35) (cs := []) (hd 2 (by decide)) rfl
        simp only [setN, upd, Nat.reduceAdd, Nat.reduceEqDiff, reduceIte, List.setIfInBounds_toArray, List.set_cons_zero, List.set_cons_succ] at hK ⊢
        simp only [e0, e1, e2] at hK ⊢
        refine wpOp_do rfl (by kernel_rfl) ?_
        unfold Oper.wp execOp
        go_simp
        refine (unhide HL3 _ hb).mono ?_
        rintro e w' ⟨rfl, hb'⟩
        exact hK _ hb'
      · with_reducible refine DoesN.plain (s := 37) (v := .bool true) ?_ ?_
        · rfl
        intro f wz K hb hd hK
        have e3 : f 3 = .bool true := plainAt (s := 36) (cs := []) (hd 3 (by decide)) rfl
        simp only [setN, upd, Nat.reduceAdd, Nat.reduceEqDiff, reduceIte, List.setIfInBounds_toArray, List.set_cons_zero, List.set_cons_succ] at hK ⊢
        simp only [e3] at hK ⊢
        refine wpOp_do rfl (by kernel_rfl) ?_
        unfold Oper.wp execOp
        go_simp
        exact hK _ (Below.refl _ _)
      · with_reducible refine DoesN.plain (s := 38) (v := .agg #[.int .i64 Y.kind, .int .i64 Y.n, .slice ya Y.rows.length yc]) ?_ ?_
        · rfl
        intro f wz K hb hd hK
        have e4 : f 4 = .bool true := plainAt (s := 37) (cs := []) (hd 4 (by decide)) rfl
        obtain ⟨d0, d1, d2, _⟩ := cell3 ((hb.block _ (block_lt bB)).trans bB)
        simp only [setN, upd, Nat.reduceAdd, Nat.reduceEqDiff, reduceIte, List.setIfInBounds_toArray, List.set_cons_zero, List.set_cons_succ] at hK ⊢
        simp only [e4] at hK ⊢
        refine wpOp_do rfl (by kernel_rfl) ?_
        unfold Oper.wp execOp
        go_simp
        exact hK _ (Below.refl _ _)
      · with_reducible refine DoesN.plain (s := 39) (v := .agg #[.int .i64 op, .string (S a), .string (S b), .int .i64 n]) ?_ ?_
        · rfl
        intro f wz K hb hd hK
        have e4 : f 4 = .bool true := plainAt (s := 37) (cs := []) (hd 4 (by decide)) rfl
        obtain ⟨d0, d1, d2, d3, _⟩ := cell4 ((hb.block _ (block_lt hc12)).trans hc12)
        simp only [setN, upd, Nat.reduceAdd, Nat.reduceEqDiff, reduceIte, List.setIfInBounds_toArray, List.set_cons_zero, List.set_cons_succ] at hK ⊢
        simp only [e4] at hK ⊢
        refine wpOp_do rfl (by kernel_rfl) ?_
        unfold Oper.wp execOp
        go_simp
        exact hK _ (Below.refl _ _)
      · with_reducible refine DoesN.plain (s := 40) (v := .agg #[.int .i64 k, .string (S t), .int .i64 m]) ?_ ?_
        · rfl
        intro f wz K hb hd hK
        have e4 : f 4 = .bool true := plainAt (s := 37) (cs := []) (hd 4 (by decide)) rfl
        obtain ⟨d0, d1, d2, _⟩ := cell3 ((hb.block _ (block_lt hr12)).trans hr12)
        simp only [setN, upd, Nat.reduceAdd, Nat.reduceEqDiff, reduceIte, List.setIfInBounds_toArray, List.set_cons_zero, List.set_cons_succ] at hK ⊢
        simp only [e4] at hK ⊢
        refine wpOp_do rfl (by kernel_rfl) ?_
        unfold Oper.wp execOp
        go_simp
        exact hK _ (Below.refl _ _)
      · with_reducible refine DoesN.plain (s := 41) (v := .bool true) ?_ ?_
        · rfl
        intro f wz K hb hd hK
        have e4 : f 4 = .bool true := plainAt (s := 37) (cs := []) (hd 4 (by decide)) rfl
        have e5 : f 5 = .agg #[.int .i64 Y.kind, .int .i64 Y.n, .slice ya Y.rows.length yc] := plainAt (s := 38) (cs := []) (hd 5 (by decide)) rfl
        have e6 : f 6 = .agg #[.int .i64 op, .string (S a), .string (S b), .int .i64 n] := plainAt (s := 39) (cs := []) (hd 6 (by decide)) rfl
        have e7 : f 7 = .agg #[.int .i64 k, .string (S t), .int .i64 m] := plainAt (s := 40) (cs := []) (hd 7 (by decide)) rfl
        simp only [setN, upd, Nat.reduceAdd, Nat.reduceEqDiff, reduceIte, List.setIfInBounds_toArray, List.set_cons_zero, List.set_cons_succ] at hK ⊢
        simp only [e4, e5, e6, e7] at hK ⊢
        refine wpOp_do rfl (by kernel_rfl) ?_
        unfold Oper.wp execOp
        go_simp
        refine (unhide HL4 _ hb).mono ?_
        rintro e w' ⟨rfl, hb'⟩
        exact hK _ hb'
      · with_reducible refine DoesN.plain (s := 42) (v := .bool true) ?_ ?_
        · rfl
        intro f wz K hb hd hK
        have e4 : f 4 = .bool true := plainAt (s := 37) (cs := []) (hd 4 (by decide)) rfl
        have e8 : f 8 = .bool true := plainAt (s := 41) (cs := []) (hd 8 (by decide)) rfl
        simp only [setN, upd, Nat.reduceAdd, Nat.reduceEqDiff, reduceIte, List.setIfInBounds_toArray, List.set_cons_zero, List.set_cons_succ] at hK ⊢
        simp only [e4, e8] at hK ⊢
        refine wpOp_do rfl (by kernel_rfl) ?_
        unfold Oper.wp execOp
        go_simp
        exact hK _ (Below.refl _ _)
      · with_reducible refine DoesN.plain (s := 43) (v := .bool true) ?_ ?_
        · rfl
        intro f wz K hb hd hK
        have e9 : f 9 = .bool true := plainAt (s := 42) (cs := []) (hd 9 (by decide)) rfl
        simp only [setN, upd, Nat.reduceAdd, Nat.reduceEqDiff, reduceIte, List.setIfInBounds_toArray, List.set_cons_zero, List.set_cons_succ] at hK ⊢
        simp only [e9] at hK ⊢
        refine wpOp_do rfl (by kernel_rfl) ?_
        unfold Oper.wp execOp
        go_simp
        exact hK _ (Below.refl _ _)
      · with_reducible refine DoesN.plain (s := 44) (v := .agg #[.int .i64 X.kind, .int .i64 X.n, .slice xa X.rows.length xc]) ?_ ?_
        · rfl
        intro f wz K hb hd hK
        have e10 : f 10 = .bool true := plainAt (s := 43) (cs := []) (hd 10 (by decide)) rfl
        obtain ⟨d0, d1, d2, _⟩ := cell3 ((hb.block _ (block_lt bA)).trans bA)
        simp only [setN, upd, Nat.reduceAdd, Nat.reduceEqDiff, reduceIte, List.setIfInBounds_toArray, List.set_cons_zero, List.set_cons_succ] at hK ⊢
        simp only [e10] at hK ⊢
        refine wpOp_do rfl (by kernel_rfl) ?_
        unfold Oper.wp execOp
        go_simp
        exact hK _ (Below.refl _ _)
      · with_reducible refine DoesN.plain (s := 45) (v := .agg #[.int .i64 op', .string (S a'), .string (S b'), .int .i64 n']) ?_ ?_
        · rfl
        intro f wz K hb hd hK
        have e10 : f 10 = .bool true := plainAt (s := 43) (cs := []) (hd 10 (by decide)) rfl
        obtain ⟨d0, d1, d2, d3, _⟩ := cell4 ((hb.block _ (block_lt hc22)).trans hc22)
        simp only [setN, upd, Nat.reduceAdd, Nat.reduceEqDiff, reduceIte, List.setIfInBounds_toArray, List.set_cons_zero, List.set_cons_succ] at hK ⊢
        simp only [e10] at hK ⊢
        refine wpOp_do rfl (by kernel_rfl) ?_
        unfold Oper.wp execOp
        go_simp
        exact hK _ (Below.refl _ _)
      · with_reducible refine DoesN.plain (s := 46) (v := .agg #[.int .i64 k', .string (S t'), .int .i64 m']) ?_ ?_
        · rfl
        intro f wz K hb hd hK
        have e10 : f 10 = .bool true := plainAt (s := 43) (cs := []) (hd 10 (by decide)) rfl
        obtain ⟨d0, d1, d2, _⟩ := cell3 ((hb.block _ (block_lt hr22)).trans hr22)
        simp only [setN, upd, Nat.reduceAdd, Nat.reduceEqDiff, reduceIte, List.setIfInBounds_toArray, List.set_cons_zero, List.set_cons_succ] at hK ⊢
        simp only [e10] at hK ⊢
        refine wpOp_do rfl (by kernel_rfl) ?_
        unfold Oper.wp execOp
        go_simp
        exact hK _ (Below.refl _ _)
      · with_reducible refine DoesN.val (s := 47) (R := (Res.state (fun z => z = Z1) 0 77)) ?_ ?_
        · rfl
        intro f wz K hb hd hK
        have e10 : f 10 = .bool true := plainAt (s := 43) (cs := []) (hd 10 (by decide)) rfl
        have e11 : f 11 = .agg #[.int .i64 X.kind, .int .i64 X.n, .slice xa X.rows.length xc] := plainAt (s := 44) (cs := []) (hd 11 (by decide)) rfl
        have e12 : f 12 = .agg #[.int .i64 op', .string (S a'), .string (S b'), .int .i64 n'] := plainAt (s := 45) (cs := []) (hd 12 (by decide)) rfl
        have e13 : f 13 = .agg #[.int .i64 k', .string (S t'), .int .i64 m'] := plainAt (s := 46) (cs := []) (hd 13 (by decide)) rfl
        simp only [setN, upd, Nat.reduceAdd, Nat.reduceEqDiff, reduceIte, List.setIfInBounds_toArray, List.set_cons_zero, List.set_cons_succ] at hK ⊢
        simp only [e10, e11, e12, e13] at hK ⊢
        refine wpOp_do rfl (by kernel_rfl) ?_
        unfold Oper.wp execOp
        go_simp
        refine (unhide HB1 _ hb).mono ?_
        rintro e w' ⟨ka, kc, rfl, ho', hn', hb'⟩
        exact hK _ _ hb' ⟨_, ka, kc, rfl, rfl, ho'⟩ hn'
      · with_reducible refine DoesN.plain (s := 48) (v := .agg #[.int .i64 Y.kind, .int .i64 Y.n, .slice ya Y.rows.length yc]) ?_ ?_
        · rfl
        intro f wz K hb hd hK
        have e10 : f 10 = .bool true := plainAt (s := 43) (cs := []) (hd 10 (by decide)) rfl
        obtain ⟨d0, d1, d2, _⟩ := cell3 ((hb.block _ (block_lt bB)).trans bB)
        simp only [setN, upd, Nat.reduceAdd, Nat.reduceEqDiff, reduceIte, List.setIfInBounds_toArray, List.set_cons_zero, List.set_cons_succ] at hK ⊢
        simp only [e10] at hK ⊢
        refine wpOp_do rfl (by kernel_rfl) ?_
        unfold Oper.wp execOp
        go_simp
        exact hK _ (Below.refl _ _)
      · with_reducible refine DoesN.plain (s := 49) (v := .agg #[.int .i64 op, .string (S a), .string (S b), .int .i64 n]) ?_ ?_
        · rfl
        intro f wz K hb hd hK
        have e10 : f 10 = .bool true := plainAt (s := 43) (cs := []) (hd 10 (by decide)) rfl
        obtain ⟨d0, d1, d2, d3, _⟩ := cell4 ((hb.block _ (block_lt hc12)).trans hc12)
        simp only [setN, upd, Nat.reduceAdd, Nat.reduceEqDiff, reduceIte, List.setIfInBounds_toArray, List.set_cons_zero, List.set_cons_succ] at hK ⊢
        simp only [e10] at hK ⊢
        refine wpOp_do rfl (by kernel_rfl) ?_
        unfold Oper.wp execOp
        go_simp
        exact hK _ (Below.refl _ _)
      · with_reducible refine DoesN.plain (s := 50) (v := .agg #[.int .i64 k, .string (S t), .int .i64 m]) ?_ ?_
        · rfl
        intro f wz K hb hd hK
        have e10 : f 10 = .bool true := plainAt (s := 43) (cs := []) (hd 10 (by decide)) rfl
        obtain ⟨d0, d1, d2, _⟩ := cell3 ((hb.block _ (block_lt hr12)).trans hr12)
        simp only [setN, upd, Nat.reduceAdd, Nat.reduceEqDiff, reduceIte, List.setIfInBounds_toArray, List.set_cons_zero, List.set_cons_succ] at hK ⊢
        simp only [e10] at hK ⊢
        refine wpOp_do rfl (by kernel_rfl) ?_
        unfold Oper.wp execOp
        go_simp
        exact hK _ (Below.refl _ _)
      · with_reducible refine DoesN.val (s := 51) (R := (Res.state (fun z => z = Z2) 0 77)) ?_ ?_
        · rfl
        intro f wz K hb hd hK
        have e10 : f 10 = .bool true := plainAt (s := 43) (cs := []) (hd 10 (by decide)) rfl
        have e15 : f 15 = .agg #[.int .i64 Y.kind, .int .i64 Y.n, .slice ya Y.rows.length yc] := plainAt (s := 48) (cs := []) (hd 15 (by decide)) rfl
        have e16 : f 16 = .agg #[.int .i64 op, .string (S a), .string (S b), .int .i64 n] := plainAt (s := 49) (cs := []) (hd 16 (by decide)) rfl
        have e17 : f 17 = .agg #[.int .i64 k, .string (S t), .int .i64 m] := plainAt (s := 50) (cs := []) (hd 17 (by decide)) rfl
        simp only [setN, upd, Nat.reduceAdd, Nat.reduceEqDiff, reduceIte, List.setIfInBounds_toArray, List.set_cons_zero, List.set_cons_succ] at hK ⊢
        simp only [e10, e15, e16, e17] at hK ⊢
        refine wpOp_do rfl (by kernel_rfl) ?_
        unfold Oper.wp execOp
        go_simp
        refine (unhide HB2 _ hb).mono ?_
        rintro e w' ⟨ka, kc, rfl, ho', hn', hb'⟩
        exact hK _ _ hb' ⟨_, ka, kc, rfl, rfl, ho'⟩ hn'
      · with_reducible refine DoesN.plain (s := 52) (v := .bool E) ?_ ?_
        · rfl
        intro f wz K hb hd hK
        have e10 : f 10 = .bool true := plainAt (s := 43) (cs := []) (hd 10 (by decide)) rfl
        obtain ⟨z14, ka14, kc14, hz14, e14, ho14⟩ := factAt (s := 47) (R := (Res.state (fun z => z = Z1) 0 77)) (hd 14 (by decide)) rfl
        have hw14 := (show _ = _ from hz14).symm
        subst hw14
        obtain ⟨z18, ka18, kc18, hz18, e18, ho18⟩ := factAt (s := 51) (R := (Res.state (fun z => z = Z2) 0 77)) (hd 18 (by decide)) rfl
        have hw18 := (show _ = _ from hz18).symm
        subst hw18
        simp only [setN, upd, Nat.reduceAdd, Nat.reduceEqDiff, reduceIte, List.setIfInBounds_toArray, List.set_cons_zero, List.set_cons_succ] at hK ⊢
        simp only [e10, e14, e18] at hK ⊢
        refine wpOp_do rfl (by kernel_rfl) ?_
        unfold Oper.wp execOp
        go_simp
        refine (unhide HLK _ _ _ ⟨_, rfl, Row2.of_own ho14⟩ ⟨_, rfl, Row2.of_own ho18⟩).mono ?_
        rintro e w' ⟨rfl, hb'⟩
        exact hK _ hb'
      · with_reducible refine DoesN.plain (s := 53) (v := .bool E) ?_ ?_
        · rfl
        intro f wz K hb hd hK
        have e10 : f 10 = .bool true := plainAt (s := 43) (cs := []) (hd 10 (by decide)) rfl
        have e19 : f 19 = .bool E := plainAt (s := 52) (cs := []) (hd 19 (by decide)) rfl
        simp only [setN, upd, Nat.reduceAdd, Nat.reduceEqDiff, reduceIte, List.setIfInBounds_toArray, List.set_cons_zero, List.set_cons_succ] at hK ⊢
        simp only [e10, e19] at hK ⊢
        refine wpOp_do rfl (by kernel_rfl) ?_
        unfold Oper.wp execOp
        go_simp
        exact hK _ (Below.refl _ _)
      · with_reducible refine DoesN.plain (s := 10) (v := .bool E) ?_ ?_
        · rfl
        intro f wz K hb hd hK
        have e20 : f 20 = .bool E := plainAt (s := 53) (cs := []) (hd 20 (by decide)) rfl
        simp only [setN, upd, Nat.reduceAdd, Nat.reduceEqDiff, reduceIte, List.setIfInBounds_toArray, List.set_cons_zero, List.set_cons_succ] at hK ⊢
        simp only [e20] at hK ⊢
        refine wpOp_do rfl (by kernel_rfl) ?_
        unfold Oper.wp execOp
        go_simp
        exact hK _ (Below.refl _ _)
    · intro f wE hbE hv hp hne ho
      have h0 : f 0 = .agg #[.int .i64 X.kind, .int .i64 X.n, .slice xa X.rows.length xc] := plainAt (s := 33) (cs := []) (hv 0) rfl
      have h1 : f 1 = .agg #[.int .i64 op', .string (S a'), .string (S b'), .int .i64 n'] := plainAt (s := 34) (cs := []) (hv 1) rfl
      have h2 : f 2 = .agg #[.int .i64 k', .string (S t'), .int .i64 m'] := plainAt (s := 35) (cs := []) (hv 2) rfl
      have h3 : f 3 = .bool true := plainAt (s := 36) (cs := []) (hv 3) rfl
      have h4 : f 4 = .bool true := plainAt (s := 37) (cs := []) (hv 4) rfl
      have h5 : f 5 = .agg #[.int .i64 Y.kind, .int .i64 Y.n, .slice ya Y.rows.length yc] := plainAt (s := 38) (cs := []) (hv 5) rfl
      have h6 : f 6 = .agg #[.int .i64 op, .string (S a), .string (S b), .int .i64 n] := plainAt (s := 39) (cs := []) (hv 6) rfl
      have h7 : f 7 = .agg #[.int .i64 k, .string (S t), .int .i64 m] := plainAt (s := 40) (cs := []) (hv 7) rfl
      have h8 : f 8 = .bool true := plainAt (s := 41) (cs := []) (hv 8) rfl
      have h9 : f 9 = .bool true := plainAt (s := 42) (cs := []) (hv 9) rfl
      have h10 : f 10 = .bool true := plainAt (s := 43) (cs := []) (hv 10) rfl
      have h11 : f 11 = .agg #[.int .i64 X.kind, .int .i64 X.n, .slice xa X.rows.length xc] := plainAt (s := 44) (cs := []) (hv 11) rfl
      have h12 : f 12 = .agg #[.int .i64 op', .string (S a'), .string (S b'), .int .i64 n'] := plainAt (s := 45) (cs := []) (hv 12) rfl
      have h13 : f 13 = .agg #[.int .i64 k', .string (S t'), .int .i64 m'] := plainAt (s := 46) (cs := []) (hv 13) rfl
      have h15 : f 15 = .agg #[.int .i64 Y.kind, .int .i64 Y.n, .slice ya Y.rows.length yc] := plainAt (s := 48) (cs := []) (hv 15) rfl
      have h16 : f 16 = .agg #[.int .i64 op, .string (S a), .string (S b), .int .i64 n] := plainAt (s := 49) (cs := []) (hv 16) rfl
      have h17 : f 17 = .agg #[.int .i64 k, .string (S t), .int .i64 m] := plainAt (s := 50) (cs := []) (hv 17) rfl
      have h19 : f 19 = .bool E := plainAt (s := 52) (cs := []) (hv 19) rfl
      have h20 : f 20 = .bool E := plainAt (s := 53) (cs := []) (hv 20) rfl
      have h21 : f 21 = .bool E := plainAt (s := 10) (cs := []) (hv 21) rfl
      simp only [setN, Nat.reduceAdd, List.setIfInBounds_toArray, List.set_cons_zero, List.set_cons_succ]
      simp only [h0, h1, h2, h3, h4, h5, h6, h7, h8, h9, h10, h11, h12, h13, h15, h16, h17, h19, h20, h21]
      clear h0 h1 h2 h3 h4 h5 h6 h7 h8 h9 h10 h11 h12 h13 h15 h16 h17 h19 h20 h21
      have HE2 := hide ((unhide HE).trans (hbE.mono (unhide HE).size))
      clear hbE hv hp hne ho
      go_wp2_with fail
      go_ret
      exact ⟨rfl, unhide HE2⟩
end Go.Proofs.YteaiidcconggcaaDoor
