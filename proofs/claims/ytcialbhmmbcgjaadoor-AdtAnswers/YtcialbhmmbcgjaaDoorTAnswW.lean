/- The walk of AdtAnswers. -/
import Derived.Test.YtcialbhmmbcgjaaDoorTLegalW
namespace Go.Proofs.YtcialbhmmbcgjaaDoor
open Go.RowKit
set_option linter.unusedVariables false
set_option maxRecDepth 100000

theorem Fr.one {W : World} {p : Addr} {v : Value} (hp : p.block < W.heap.size) (h : W.cell? p = some v) : ∀ w1, Fr W w1 → w1.cell? p = some v := fun w1 hf => (Below.cell hf hp).trans h
theorem cellsB {w : World} {N : Nat} {a b c d : Value} {t : TypeId} (h : w.heap[N]? = some (.cells #[a, b, c, d] t (0, 0))) : w.cell? ⟨N, 0, none⟩ = some a ∧ w.cell? ⟨N, 1, none⟩ = some b ∧ w.cell? ⟨N, 2, none⟩ = some c ∧ w.cell? ⟨N, 3, none⟩ = some d := by
  refine ⟨?_, ?_, ?_, ?_⟩ <;> rw [block_cell h] <;> rfl
theorem below_put4c {B : Nat} {w w' : World} (h : Below B w w') {N : Nat} (hN : B ≤ N) (a b c d : Value) : Below B w (put4c w' N a b c d) :=
  ⟨h.os, h.tape, h.output, by rw [put4c_size]; exact h.size, fun j hj => by rw [put4c_other _ _ _ _ _ (by omega)]; exact h.block j hj⟩
theorem check_len {r : MR} (h : r.check = 0) : r.text.length ≤ 24 := by
  unfold MR.check at h
  split at h
  · cases h
  · split at h
    · cases h
    · omega
theorem check_of {r : MR} (h1 : r.code = 1 ∨ r.code = 2) (h2 : r.text.length ≤ 24) (h3 : r.text = [] ∨ r.n = 0) : r.check = 0 := by
  unfold MR.check
  rw [if_neg (by omega), if_neg (by omega), if_neg]
  rintro ⟨a, b⟩
  rcases h3 with h3 | h3
  · exact a h3
  · exact b h3
theorem may_key {x : VS} (h : x.may) (k : Nat) : (x.key k).length ≤ 24 ∧ (x.val k).length ≤ 24 := by
  unfold VS.key VS.val
  by_cases hk : k < x.rows.length
  · have := VS.may_len h k hk
    simpa [List.getD, hk] using this
  · simp [List.getD, List.getElem?_eq_none (Nat.le_of_not_lt hk)]
theorem okR_check (b : Bool) : (okR b).check = 0 := by cases b <;> decide
theorem tk_check {x : VS} (h : x.may) : ∀ k r, r ∈ tk x k → r.check = 0
  | 0, r, hr => by cases hr
  | k + 1, r, hr => by
    unfold tk at hr
    rcases List.mem_append.mp hr with hr | hr
    · exact tk_check h k r hr
    · split at hr
      · simp only [List.mem_singleton] at hr
        subst hr
        exact check_of (Or.inl rfl) (may_key h k).1 (Or.inr rfl)
      · cases hr
theorem answers_check {x : VS} {c : MC} {r : MR} (h : x.may) (hr : r ∈ answers x c) : r.check = 0 := by
  unfold answers at hr
  split at hr
  · cases hr
  split at hr
  · simp only [List.mem_singleton] at hr; subst hr; exact check_of (Or.inl rfl) (may_key h 0).1 (Or.inr rfl)
  split at hr
  · simp only [List.mem_singleton] at hr; subst hr; exact check_of (Or.inl rfl) (by simp) (Or.inl rfl)
  split at hr
  · simp only [List.mem_singleton] at hr; subst hr; exact okR_check _
  split at hr
  · simp only [List.mem_singleton] at hr; subst hr; exact okR_check _
  split at hr
  · simp only [List.mem_singleton] at hr; subst hr; exact okR_check _
  split at hr
  · simp only [List.mem_singleton] at hr; subst hr
    unfold lookR
    split
    · exact check_of (Or.inl rfl) (may_key h _).2 (Or.inr rfl)
    · exact okR_check _
  split at hr
  · simp only [List.mem_singleton] at hr; subst hr
    unfold frontR
    split
    · exact okR_check _
    · exact check_of (Or.inl rfl) (may_key h 0).1 (Or.inr rfl)
  split at hr
  · unfold takes at hr
    split at hr
    · simp only [List.mem_singleton] at hr; subst hr; exact okR_check _
    · exact tk_check h _ r hr
  · simp only [List.mem_singleton] at hr; subst hr; exact okR_check _
theorem like_same {w : World} {va vb : Value} {s : VS} (ha : StAt w va s) (hb : StAt w vb s) : Calls Tryd.prog 17 #[va, vb] w fun e w' => e = .returned (.bool true) ∧ Below w.heap.size w w' := by
  have := like_any ha hb
  rw [show s.alike s = true by simp [VS.alike]] at this
  exact this

set_option maxHeartbeats 102400000 in
theorem tansw_no {w : World} {v : Value} {s : VS} (hs : StAt w v s) (hsn : -9223372036854775808 ≤ s.n ∧ s.n ≤ 9223372036854775807) (hsz : ∀ i (h : i < s.rows.length), (s.rows[i]'h).1.length ≤ maxLen ∧ (s.rows[i]'h).2.length ≤ maxLen)
    (op : Int) (ca cb : ByteArray) (cn : Int) (hop : I64 op) (hn : I64 cn) (hca : ca.size ≤ maxLen) (hcb : cb.size ≤ maxLen) (hw : MD w) :
    Calls Tryd.prog 3 #[v, .agg #[.int .i64 op, .string ca, .string cb, .int .i64 cn], .bool false] w fun e w' => e = .returned (.bool true) ∧ Below w.heap.size w w' := by
  have HTS := hide (fun (w1 : World) (hb : Below w.heap.size w w1) => tstate_any (hs.later hb) hsn hsz)
  have HTI := hide (fun (w1 : World) => mtidy_any (w := w1) op ca cb cn hop hn hca hcb)
  have HOF := hide (fun (w1 : World) (v : Value) (x : VS) (h : StAt w1 v x) => of_any h op ca cb cn hop hn hca hcb)
  have HAW := hide (fun (w1 : World) (hb : Below w.heap.size w w1) => tawake_any (hw.later hb))
  have HMD := hide hw
  obtain ⟨k0, rfl, hr⟩ := hs
  obtain ⟨a, c, rfl, hc, hm⟩ := hr.shape
  have hst := B2.start w (.cells #[.int .i64 s.kind, .int .i64 s.n, .slice a s.rows.length c] 24) (.cells #[.int .i64 op, .string ca, .string cb, .int .i64 cn] 27)
  clear hr hw hsn hsz hop hn hca hcb
  go_enter Tryd.func3, Tryd.ntmps3
  go_wp2_with fail
  refine (unhide HTS _ hst.low).mono ?_
  rintro e w1 ⟨v1, rfl, x, hmay, _, ⟨kx, rfl, hox⟩, hb1⟩
  obtain ⟨xa, xc, rfl, _⟩ := ownsRow_slice hox
  have hx1 := hst.on hb1
  have HMAY := hide hmay
  have HXB := hide (hx1.on (under_box (.cells #[.int .i64 x.kind, .int .i64 x.n, .slice xa x.rows.length xc] 30)))
  have HXAT : Hid (StAt (w1.alloc (.cells #[.int .i64 x.kind, .int .i64 x.n, .slice xa x.rows.length xc] 30)) (.agg #[.int .i64 x.kind, .int .i64 x.n, .slice xa x.rows.length xc]) x) := ⟨_, rfl, Row2.of_own (hox.alloc _)⟩
  have HXBOX := hide (heap_alloc_new w1 (.cells #[.int .i64 x.kind, .int .i64 x.n, .slice xa x.rows.length xc] 30))
  obtain ⟨k0, k1, k2, k3⟩ := cellsB (unhide HXB).heap.2
  clear hmay hox hb1 hx1 hst HTS
  go_wp2_with fail
  refine (unhide HTI _).mono ?_
  rintro e w2 ⟨V, rfl, hV0, hb2⟩
  unfold mcV
  have HV := hide hV0
  have hbw := hb2.trans ((under_box (.cells #[.int .i64 V.op, .string (S V.a), .string (S V.b), .int .i64 V.n] 33)).mono hb2.size)
  have HLW := hide ((unhide HXB).on hbw).low
  have HXAT2 := hide ((unhide HXAT).later hbw)
  have HXBOX2 := hide ((hbw.block w1.heap.size (by simp)).trans (unhide HXBOX))
  have HDBOX2 := hide (heap_alloc_new w2 (.cells #[.int .i64 V.op, .string (S V.a), .string (S V.b), .int .i64 V.n] 33))
  clear hV0 hb2 hbw HXAT HXBOX HXB k0 k1 k2 k3
  go_wp2_with fail
  refine (unhide HAW _ (unhide HLW)).mono ?_
  rintro e w4 ⟨rfl, hb4⟩
  have HXAT4 := hide ((unhide HXAT2).later hb4)
  have HXBOX4 := hide ((hb4.block w1.heap.size (block_lt (unhide HXBOX2))).trans (unhide HXBOX2))
  have HDBOX4 := hide ((hb4.block w2.heap.size (block_lt (unhide HDBOX2))).trans (unhide HDBOX2))
  have HL4 := hide ((unhide HLW).trans (hb4.mono (unhide HLW).size))
  clear hb4 HXAT2 HXBOX2 HDBOX2 HLW HAW
  go_upto_region 7 with fail
  have HOWN := hide (fun (wz : World) (hb : Below w4.heap.size w4 wz) => own_any ((unhide HXAT4).later hb) (by have := may_small (unhide HMAY); omega))
  have HOWC : Hid (∀ wz : World, Calls Tryd.prog 12 #[.agg #[.int .i64 V.op, .string (S V.a), .string (S V.b), .int .i64 V.n]] wz fun e w' => e = .returned (.agg #[.int .i64 V.op, .string (S V.a), .string (S V.b), .int .i64 V.n]) ∧ Below wz.heap.size wz w') := fun wz => mown_any V
  refine two2_T 25 26 27 28 9 10 (.agg #[.int .i64 x.kind, .int .i64 x.n, .slice xa x.rows.length xc]) (.agg #[.int .i64 V.op, .string (S V.a), .string (S V.b), .int .i64 V.n]) (.int .i64 x.kind) (.int .i64 x.n) (.int .i64 V.op) (.string (S V.a)) (.string (S V.b)) (.int .i64 V.n) 70 24 27 x.rows.length (R9 x.rows) (by kernel_rfl) rfl (fun i hi => ?hlow) (by kernel_rfl) (by kernel_rfl) (by kernel_rfl) (by kernel_rfl) (by kernel_rfl) (by kernel_rfl) ?H0 ?H1 ?H2 ?H3 ?H4 ?H5 ?H6 ?H7 ?hend
  case hlow =>
    have hc : i = 0 ∨ i = 1 ∨ i = 2 ∨ i = 3 ∨ i = 4 ∨ i = 5 ∨ i = 6 ∨ i = 7 := by have : i < 8 := hi; omega
    rcases hc with rfl | rfl | rfl | rfl | rfl | rfl | rfl | rfl <;> decide +kernel
  case H0 =>
    intro x0 x1 x2 x3 x4 x5 wz K hb hK
    obtain ⟨d0, d1, d2, _⟩ := cell3 ((hb.block _ (block_lt (unhide HXBOX4))).trans (unhide HXBOX4))
    simp only [set6, List.setIfInBounds_toArray, List.set_cons_zero, List.set_cons_succ] at hK ⊢
    unfold wpOp
    simp only [List.getElem?_toArray, List.getElem?_cons_zero, Region.wanted, if_true]
    refine .inl ?_
    unfold Oper.wp execOp
    go_simp
    exact hK
  case H1 =>
    intro x1 x2 x3 x4 x5 wz K hb hK
    simp only [set6, List.setIfInBounds_toArray, List.set_cons_zero, List.set_cons_succ] at hK ⊢
    unfold wpOp
    simp only [List.getElem?_toArray, List.getElem?_cons_zero, List.getElem?_cons_succ, Region.wanted, if_true]
    refine .inl ?_
    unfold Oper.wp execOp
    go_simp
    refine (unhide HOWN _ hb).mono ?_
    rintro e w' ⟨v', rfl, ⟨kk, rfl, ho⟩, hb'⟩
    obtain ⟨ka, kc, rfl, _⟩ := ownsRow_slice ho
    exact hK _ ka kc hb' ho
  case H2 =>
    intro x0 x1 x2 x3 x4 x5 wz K hb hK
    obtain ⟨d0, d1, d2, d3, _⟩ := cell4 ((hb.block _ (block_lt (unhide HDBOX4))).trans (unhide HDBOX4))
    simp only [set6, List.setIfInBounds_toArray, List.set_cons_zero, List.set_cons_succ] at hK ⊢
    unfold wpOp
    simp only [List.getElem?_toArray, List.getElem?_cons_zero, List.getElem?_cons_succ, Region.wanted, if_true]
    refine .inl ?_
    unfold Oper.wp execOp
    go_simp
    exact hK
  case H3 =>
    intro x0 x1 x3 x4 x5 wz K hb hK
    simp only [set6, List.setIfInBounds_toArray, List.set_cons_zero, List.set_cons_succ] at hK ⊢
    unfold wpOp
    simp only [List.getElem?_toArray, List.getElem?_cons_zero, List.getElem?_cons_succ, Region.wanted, if_true]
    refine .inl ?_
    unfold Oper.wp execOp
    go_simp
    refine (unhide HOWC _).mono ?_
    rintro e w' ⟨rfl, hb'⟩
    exact hK _ hb'
  case H4 =>
    intro x0 x1 x2 x3 x4 x5 wz K
    refine ⟨.int .i64 0, .int .i64 0, .slice none 0 0, fun hK => ?_⟩
    unfold ptr at hK
    simp only [set6, List.setIfInBounds_toArray, List.set_cons_zero, List.set_cons_succ] at hK ⊢
    unfold wpOp
    simp only [List.getElem?_toArray, List.getElem?_cons_zero, List.getElem?_cons_succ, Region.wanted, if_true]
    refine .inl ?_
    unfold Oper.wp execOp
    go_simp
    exact hK
  case H5 =>
    intro x0 x1 x2 x3 x4 x5 wz K
    refine ⟨.int .i64 0, .string ⟨#[]⟩, .string ⟨#[]⟩, .int .i64 0, fun hK => ?_⟩
    unfold ptr at hK
    simp only [set6, List.setIfInBounds_toArray, List.set_cons_zero, List.set_cons_succ] at hK ⊢
    unfold wpOp
    simp only [List.getElem?_toArray, List.getElem?_cons_zero, List.getElem?_cons_succ, Region.wanted, if_true]
    refine .inl ?_
    unfold Oper.wp execOp
    go_simp
    exact hK
  case H6 =>
    intro x0 x2 x3 x5 wz K q ka kc y1 y2 y3 hq hK
    obtain ⟨d0, d1, d2, fz⟩ := cell3 hq
    unfold ptr put3 at *
    simp only [set6, List.setIfInBounds_toArray, List.set_cons_zero, List.set_cons_succ] at hK ⊢
    unfold wpOp
    simp only [List.getElem?_toArray, List.getElem?_cons_zero, List.getElem?_cons_succ, Region.wanted, if_true]
    refine .inl ?_
    unfold Oper.wp execOp
    go_simp
    exact hK
  case H7 =>
    intro x0 x1 x2 x4 wz K q y1 y2 y3 y4 hq hK
    obtain ⟨d0, d1, d2, d3, fz⟩ := cell4 hq
    unfold ptr put4c put3 at *
    simp only [set6, List.setIfInBounds_toArray, List.set_cons_zero, List.set_cons_succ] at hK ⊢
    unfold wpOp
    simp only [List.getElem?_toArray, List.getElem?_cons_zero, List.getElem?_cons_succ, Region.wanted, if_true]
    refine .inl ?_
    unfold Oper.wp execOp
    go_simp
    exact hK
  case hend =>
    intro w5 qA qB ka kc hb5 hqa hqb hqn hA5 hB5 hown
    unfold ptr
    simp only [set6, List.setIfInBounds_toArray, List.set_cons_zero, List.set_cons_succ]
    have hX5 := (hb5.block _ (block_lt (unhide HXBOX4))).trans (unhide HXBOX4)
    have hD5 := (hb5.block _ (block_lt (unhide HDBOX4))).trans (unhide HDBOX4)
    obtain ⟨xc0, xc1, xc2⟩ := Fr.cell3 hX5
    obtain ⟨dc0, dc1, dc2, dc3⟩ := Fr.cell4 hD5
    obtain ⟨ac0, ac1, ac2⟩ := Fr.cell3 hA5
    obtain ⟨bc0, bc1, bc2, bc3⟩ := Fr.cell4 hB5
    have HX5 := hide hX5
    have HD5 := hide hD5
    have HA5 := hide hA5
    have HB5 := hide hB5
    have HL5 : Hid (Below w.heap.size w w5) := (unhide HL4).trans (hb5.mono (unhide HL4).size)
    have HSO5 : Hid (StOwn w4.heap.size 70 w5 (.agg #[.int .i64 x.kind, .int .i64 x.n, .slice ka x.rows.length kc]) x) := ⟨_, rfl, hown⟩
    have HXAT5 := hide ((unhide HXAT4).later hb5)
    have hop := MC.may_op (unhide HV)
    have hsm : x.rows.length ≤ 1000 := by have := may_small (unhide HMAY); omega
    obtain ⟨l, hl⟩ : ∃ l, answers x V = l := ⟨_, rfl⟩
    have HLA := hide hl
    have HCH7 : Hid (∀ r, r ∈ l → MR.check r = 0) := fun r hr => answers_check (unhide HMAY) (by rw [hl]; exact hr)
    have hmd : ∀ wz, Fr w5 wz → MD wz := fun wz hf => (unhide HMD).later ((unhide HL5).trans (hf.low.mono (unhide HL5).size))
    have HAN : Hid (∀ wz, Fr w5 wz → Calls Tryd.prog 13 #[.agg #[.int .i64 x.kind, .int .i64 x.n, .slice ka x.rows.length kc], .agg #[.int .i64 V.op, .string (S V.a), .string (S V.b), .int .i64 V.n]] wz fun e w' => ∃ v', e = .returned v' ∧ Row3 w' v' l ∧ Below wz.heap.size wz w') := fun wz hf => by rw [← hl]; exact aanswers_any (c := V) ((unhide HSO5).at.later hf.low) hsm hop (hmd wz hf)
    have HRN : Hid (∀ wz, Fr w5 wz → Calls Tryd.prog 14 #[.agg #[.int .i64 x.kind, .int .i64 x.n, .slice xa x.rows.length xc], .agg #[.int .i64 V.op, .string (S V.a), .string (S V.b), .int .i64 V.n]] wz fun e w' => ∃ v', e = .returned v' ∧ Row3 w' v' l ∧ Below wz.heap.size wz w') := fun wz hf => by rw [← hl]; exact ranswers_any (c := V) ((unhide HXAT5).later hf.low) hsm hop
    have hst := Fr.start w5
    have hstd := hst.drew
    clear hX5 hD5 hA5 hB5 hop hsm hmd hl hown hb5 hqa hqb hqn HOWN HOWC HXAT4 HXBOX4 HDBOX4 HL4
    go_wp2_with fail
    go_region_held3 (fun w' => Fr w5 w') (with_reducible (first | exact hstd | exact hst | (refine Fr.below ?_ (by assumption) <;> assumption)))
      (first | (go_at_call 13; refine (unhide HAN _ (by assumption)).mono ?_; rintro e wa ⟨va, rfl, hra, hba⟩; obtain ⟨sa, sc, rfl, _, _⟩ := hra.shape; have HRA0 := hide hra; clear hra) | (go_at_call 14; refine (unhide HRN _ (by assumption)).mono ?_; rintro e w7 ⟨vb, rfl, hrb, hbb⟩; obtain ⟨ta, tc, rfl, _, _⟩ := hrb.shape; have HRW7 := hide hrb; have HRL7 := hide ((unhide HRA0).later hbb); clear hrb HRA0) | fail)
    have h7 : Fr w5 w7 := by assumption
    have HX7 := hide ((h7.low.block _ (block_lt (unhide HX5))).trans (unhide HX5))
    have HD7 := hide ((h7.low.block _ (block_lt (unhide HD5))).trans (unhide HD5))
    have HA7 := hide ((h7.low.block _ (block_lt (unhide HA5))).trans (unhide HA5))
    have HB7 := hide ((h7.low.block _ (block_lt (unhide HB5))).trans (unhide HB5))
    have HL7 := hide ((unhide HL5).trans (h7.low.mono (unhide HL5).size))
    have HSO7 := hide ((unhide HSO5).later h7.low)
    have HXAT7 := hide ((unhide HXAT5).later h7.low)
    have hll : ((l.length : Nat) : Int) ≤ 9223372036854775807 := by
      obtain ⟨_, _, e, h1, h2, _⟩ := (unhide HRL7)
      unfold maxLen at h2
      omega
    clear h7 hst hstd hba hbb HAN HRN HX5 HD5 HA5 HB5 HL5 HSO5 HXAT5 xc0 xc1 xc2 dc0 dc1 dc2 dc3 ac0 ac1 ac2 bc0 bc1 bc2 bc3
    go_wp2_with fail
    go_loopw [42] (fun i wr => ∃ k : Nat, k ≤ l.length ∧ i = .int .i64 (k : Int) ∧ Fr w7 wr) (fun i _ => l.length - (intOf i).toNat)
    case atStart => exact ⟨0, Nat.zero_le _, rfl, Fr.start _⟩
    case round =>
      obtain ⟨k, hk, rfl, hfr⟩ := hrel
      by_cases hlt : k < l.length
      · obtain ⟨bl, ol, rfl, hbl, e1, e2, e3⟩ := (unhide HRL7).at k hlt
        obtain ⟨bw, ow, rfl, hbw, g1, g2, g3⟩ := (unhide HRW7).at k hlt
        have HIN := hide (List.getElem_mem hlt)
        have HCHK := hide (unhide HCH7 _ (List.getElem_mem hlt))
        rw [← (Fr.low hfr).cell (p := ⟨bl, ol + k * 3, none⟩) hbl] at e1
        rw [← (Fr.low hfr).cell (p := ⟨bl, ol + k * 3 + 1, none⟩) hbl] at e2
        rw [← (Fr.low hfr).cell (p := ⟨bl, ol + k * 3 + 2, none⟩) hbl] at e3
        rw [← (Fr.low hfr).cell (p := ⟨bw, ow + k * 3, none⟩) hbw] at g1
        rw [← (Fr.low hfr).cell (p := ⟨bw, ow + k * 3 + 1, none⟩) hbw] at g2
        rw [← (Fr.low hfr).cell (p := ⟨bw, ow + k * 3 + 2, none⟩) hbw] at g3
        generalize l[k]'hlt = q at *
        obtain ⟨y1, y2, y3⟩ := q
        dsimp only at *
        have hi0 : (0 : Int) ≤ (k : Int) := by omega
        have hi1 : (k : Int) < ((l.length : Nat) : Int) := by omega
        have hne : wr.heap.size ≠ bl := by have := (Fr.low hfr).size; omega
        obtain ⟨C, hC⟩ : ∃ C : Obj, C = .cells #[.int .i64 y1, .string (S y2), .int .i64 y3] 44 (0, 0) := ⟨_, rfl⟩
        obtain ⟨W8, hW8⟩ : ∃ W8, wr.alloc C = W8 := ⟨_, rfl⟩
        have hb8 : Below wr.heap.size wr W8 := by rw [← hW8]; exact under_box _
        have hf8 : Below w7.heap.size w7 W8 := (Fr.low hfr).trans (hb8.mono (Fr.low hfr).size)
        have hc8 : W8.heap[wr.heap.size]? = some (.cells #[.int .i64 y1, .string (S y2), .int .i64 y3] 44 (0, 0)) := by rw [← hW8, ← hC]; exact heap_alloc_new wr C
        obtain ⟨rc0, rc1, rc2⟩ := Fr.cell3 hc8
        obtain ⟨xc0, xc1, xc2⟩ := Fr.cell3 ((hf8.block _ (block_lt (unhide HX7))).trans (unhide HX7))
        obtain ⟨dc0, dc1, dc2, dc3⟩ := Fr.cell4 ((hf8.block _ (block_lt (unhide HD7))).trans (unhide HD7))
        obtain ⟨ac0, ac1, ac2⟩ := Fr.cell3 ((hf8.block _ (block_lt (unhide HA7))).trans (unhide HA7))
        obtain ⟨bc0, bc1, bc2, bc3⟩ := Fr.cell4 ((hf8.block _ (block_lt (unhide HB7))).trans (unhide HB7))
        have hbwr : bw < wr.heap.size := by have := (Fr.low hfr).size; omega
        have wc0 := Fr.one (W := W8) (p := ⟨bw, ow + k * 3, none⟩) (by have := hb8.size; show bw < _; omega) ((hb8.cell (p := ⟨bw, ow + k * 3, none⟩) hbwr).trans g1)
        have wc1 := Fr.one (W := W8) (p := ⟨bw, ow + k * 3 + 1, none⟩) (by have := hb8.size; show bw < _; omega) ((hb8.cell (p := ⟨bw, ow + k * 3 + 1, none⟩) hbwr).trans g2)
        have wc2 := Fr.one (W := W8) (p := ⟨bw, ow + k * 3 + 2, none⟩) (by have := hb8.size; show bw < _; omega) ((hb8.cell (p := ⟨bw, ow + k * 3 + 2, none⟩) hbwr).trans g3)
        have HF8 := hide hf8
        have hop := MC.may_op (unhide HV)
        have hsm : x.rows.length ≤ 1000 := by have := may_small (unhide HMAY); omega
        have hfit := VS.may.fit (unhide HMAY)
        have hso8 := (unhide HSO7).later hf8
        have hxat8 := (unhide HXAT7).later hf8
        have hchk : MR.check ⟨y1, y2, y3⟩ = 0 := unhide HCHK
        have hyl : y2.length ≤ maxLen := Nat.le_trans (check_len hchk) (by unfold maxLen; decide)
        have hlg : legal x V ⟨y1, y2, y3⟩ = true := by unfold legal; have := unhide HIN; rw [← unhide HLA] at this; exact decide_eq_true this
        obtain ⟨Y, hY⟩ : ∃ Y, apply2 x V ⟨y1, y2, y3⟩ = Y := ⟨_, rfl⟩
        have hYl : Y.rows.length ≤ 1000 := by rw [← hY]; have := apply_len x V ⟨y1, y2, y3⟩; have := may_small (unhide HMAY); omega
        have hL8 : Below w.heap.size w W8 := (unhide HL7).trans (hf8.mono (unhide HL7).size)
        have hmd : ∀ wz, Fr W8 wz → MD wz := fun wz hf => (unhide HMD).later (hL8.trans (hf.low.mono hL8.size))
        have HLE : Hid (∀ wz, Fr W8 wz → Calls Tryd.prog 15 #[.agg #[.int .i64 x.kind, .int .i64 x.n, .slice ka x.rows.length kc], .agg #[.int .i64 V.op, .string (S V.a), .string (S V.b), .int .i64 V.n], .agg #[.int .i64 y1, .string (S y2), .int .i64 y3]] wz fun e w' => e = .returned (.bool true) ∧ Below wz.heap.size wz w') := fun wz hf => by rw [← hlg]; exact alegal_any (c := V) (hso8.at.later hf.low) hsm hop (hmd wz hf) ⟨y1, y2, y3⟩
        have HCK : Hid (∀ wz, Calls Tryd.prog 16 #[.agg #[.int .i64 y1, .string (S y2), .int .i64 y3]] wz fun e w' => e = .returned (.int .i64 0) ∧ Below wz.heap.size wz w') := fun wz => by rw [← hchk]; exact mrcheck_any ⟨y1, y2, y3⟩ hyl
        have HAP : Hid (∀ wz, Fr W8 wz → Calls Tryd.prog 19 #[.agg #[.int .i64 x.kind, .int .i64 x.n, .slice ka x.rows.length kc], .agg #[.int .i64 V.op, .string (S V.a), .string (S V.b), .int .i64 V.n], .agg #[.int .i64 y1, .string (S y2), .int .i64 y3]] wz fun e w' => ∃ v', e = .returned v' ∧ StOwn wz.heap.size 70 w' v' Y ∧ Below wz.heap.size wz w') := fun wz hf => by rw [← hY, ← apply_same hfit]; exact aapply_any (c := V) (hso8.later hf.low) hsm hop (hmd wz hf) ⟨y1, y2, y3⟩
        have HRA : Hid (∀ wz, Fr W8 wz → Calls Tryd.prog 20 #[.agg #[.int .i64 x.kind, .int .i64 x.n, .slice xa x.rows.length xc], .agg #[.int .i64 V.op, .string (S V.a), .string (S V.b), .int .i64 V.n], .agg #[.int .i64 y1, .string (S y2), .int .i64 y3]] wz fun e w' => ∃ v', e = .returned v' ∧ StAt w' v' Y ∧ Below wz.heap.size wz w') := fun wz hf => by rw [← hY]; exact rapply_any (c := V) (hxat8.later hf.low) hsm hop (may_b (unhide HV)) hfit ⟨y1, y2, y3⟩
        have HTO := hide (fun (wz : World) (v : Value) (h : StAt wz v Y) => told_any h hYl)
        have HT2 := hide (fun (wz : World) (hf : Fr W8 wz) => told_any (hso8.at.later hf.low) hsm)
        have HXF := hide (fun (wz : World) (hf : Fr W8 wz) => hxat8.later hf.low)
        have HLI := hide (fun (wz : World) (va vb : Value) (h1 : StAt wz va Y) (h2 : StAt wz vb Y) => like_same h1 h2)
        have HL2 := hide (fun (wz : World) (va vb : Value) (h1 : StAt wz va x) (h2 : StAt wz vb x) => like_same h1 h2)
        have hst := Fr.start W8
        have hstd := hst.drew
        have HFR8 : Hid (∀ wz, Fr W8 wz → Fr w7 wz) := fun wz hf => (unhide HF8).trans (hf.low.mono (unhide HF8).size)
        clear hop hsm hfit hso8 hxat8 hchk hyl hlg hY hYl hL8 hmd hf8 hc8 hb8 hfr g1 g2 g3 HIN HCHK
        go_upto_region 14 with fail
        rw [← hC, hW8]
        clear hC hW8 e1 e2 e3
        go_region_held3 (fun w' => Fr W8 w') (with_reducible (first | exact hstd | exact hst | (refine Fr.below ?_ (by assumption) <;> assumption)))
          (first | (go_at_call 15; refine (unhide HLE _ (by assumption)).mono ?_; rintro e wa ⟨rfl, hba⟩) | (go_at_call 16; refine (unhide HCK _).mono ?_; rintro e wb ⟨rfl, hbb⟩) | fail)
        have hsb : Fr W8 wb := by assumption
        have hsbd := hsb.drew
        clear hst hstd hba hbb HLE HCK
        go_wp2_with fail
        go_region_held3 (fun w' => Fr W8 w') (with_reducible (first | exact hsbd | exact hsb | (refine Fr.below ?_ (by assumption) <;> assumption)))
          (first | (go_at_call 19; refine (unhide HAP _ (by assumption)).mono ?_; rintro e wc ⟨vc, rfl, hyc, hbc⟩; have HYC := hide hyc.at; obtain ⟨kc', rfl, hoc⟩ := hyc; obtain ⟨ya, yc, rfl, _⟩ := ownsRow_slice hoc; clear hoc) | (go_at_call 18; first | (have hq := HYD; clear hq; refine (unhide HT2 _ (by assumption)).mono ?_; rintro e wg ⟨vg, rfl, hyg, hbg⟩; have HYG := hide hyg.at; obtain ⟨kg', rfl, hog⟩ := hyg; obtain ⟨pa, pc, rfl, _⟩ := ownsRow_slice hog; clear hog) | (refine (unhide HTO _ _ (unhide HYC)).mono ?_; rintro e wd ⟨vd, rfl, hyd, hbd⟩; have HYD := hide hyd.at; obtain ⟨kd', rfl, hod⟩ := hyd; obtain ⟨za, zc, rfl, _⟩ := ownsRow_slice hod; clear hod)) | (go_at_call 20; refine (unhide HRA _ (by assumption)).mono ?_; rintro e we ⟨ve, rfl, hye, hbe⟩; have HYD2 := hide ((unhide HYD).later hbe); have HYE := hide hye; obtain ⟨ke, rfl, hke⟩ := hye; obtain ⟨ua, uc, rfl, _, _⟩ := hke.shape; clear hke) | (go_at_call 17; first | (have hq := HYG; clear hq; refine (unhide HL2 _ _ _ (unhide HYG) (unhide HXF _ (by assumption))).mono ?_; rintro e wh ⟨rfl, hbh⟩) | (refine (unhide HLI _ _ _ (unhide HYD2) (unhide HYE)).mono ?_; rintro e wf ⟨rfl, hbf⟩)) | fail)
        have HSH := hide (unhide HFR8 wh (by assumption))
        go_wp2_with fail
        go_roundw
        case rel => exact ⟨k + 1, by omega, by go_num, unhide HSH⟩
        case measure => simp [intOf]; omega
      · have HL := hide ((unhide HL7).trans ((Fr.low hfr).mono (unhide HL7).size))
        have hkn : k = l.length := by omega
        subst hkn
        clear hfr
        go_wp2_with fail
        go_ret
        exact ⟨rfl, unhide HL⟩
set_option maxHeartbeats 102400000 in
theorem tansw_yes {w : World} {v : Value} {s : VS} (hs : StAt w v s) (hsn : -9223372036854775808 ≤ s.n ∧ s.n ≤ 9223372036854775807) (hsz : ∀ i (h : i < s.rows.length), (s.rows[i]'h).1.length ≤ maxLen ∧ (s.rows[i]'h).2.length ≤ maxLen)
    (op : Int) (ca cb : ByteArray) (cn : Int) (hop : I64 op) (hn : I64 cn) (hca : ca.size ≤ maxLen) (hcb : cb.size ≤ maxLen) (hw : MD w) :
    Calls Tryd.prog 3 #[v, .agg #[.int .i64 op, .string ca, .string cb, .int .i64 cn], .bool true] w fun e w' => e = .returned (.bool true) ∧ Below w.heap.size w w' := by
  have HTS := hide (fun (w1 : World) (hb : Below w.heap.size w w1) => tstate_any (hs.later hb) hsn hsz)
  have HTI := hide (fun (w1 : World) => mtidy_any (w := w1) op ca cb cn hop hn hca hcb)
  have HOF := hide (fun (w1 : World) (v : Value) (x : VS) (h : StAt w1 v x) => of_any h op ca cb cn hop hn hca hcb)
  have HAW := hide (fun (w1 : World) (hb : Below w.heap.size w w1) => tawake_any (hw.later hb))
  have HMD := hide hw
  obtain ⟨k0, rfl, hr⟩ := hs
  obtain ⟨a, c, rfl, hc, hm⟩ := hr.shape
  have hst := B2.start w (.cells #[.int .i64 s.kind, .int .i64 s.n, .slice a s.rows.length c] 24) (.cells #[.int .i64 op, .string ca, .string cb, .int .i64 cn] 27)
  clear hr hw hsn hsz hop hn hca hcb
  go_enter Tryd.func3, Tryd.ntmps3
  go_wp2_with fail
  refine (unhide HTS _ hst.low).mono ?_
  rintro e w1 ⟨v1, rfl, x, hmay, _, ⟨kx, rfl, hox⟩, hb1⟩
  obtain ⟨xa, xc, rfl, _⟩ := ownsRow_slice hox
  have hx1 := hst.on hb1
  have HMAY := hide hmay
  have HXB := hide (hx1.on (under_box (.cells #[.int .i64 x.kind, .int .i64 x.n, .slice xa x.rows.length xc] 30)))
  have HXAT : Hid (StAt (w1.alloc (.cells #[.int .i64 x.kind, .int .i64 x.n, .slice xa x.rows.length xc] 30)) (.agg #[.int .i64 x.kind, .int .i64 x.n, .slice xa x.rows.length xc]) x) := ⟨_, rfl, Row2.of_own (hox.alloc _)⟩
  have HXBOX := hide (heap_alloc_new w1 (.cells #[.int .i64 x.kind, .int .i64 x.n, .slice xa x.rows.length xc] 30))
  obtain ⟨k0, k1, k2, k3⟩ := cellsB (unhide HXB).heap.2
  clear hmay hox hb1 hx1 hst HTS
  go_wp2_with fail
  refine (unhide HTI _).mono ?_
  rintro e w2 ⟨V0, rfl, hV0, hb2⟩
  unfold mcV
  have hbw := hb2.trans ((under_box (.cells #[.int .i64 V0.op, .string (S V0.a), .string (S V0.b), .int .i64 V0.n] 33)).mono hb2.size)
  have HXB2 := hide ((unhide HXB).on hbw)
  have HXAT1 := hide ((unhide HXAT).later hbw)
  have HXBOX1 := hide ((hbw.block w1.heap.size (by simp)).trans (unhide HXBOX))
  have HDBOX1 := hide (heap_alloc_new w2 (.cells #[.int .i64 V0.op, .string (S V0.a), .string (S V0.b), .int .i64 V0.n] 33))
  have HBW := hide hbw
  have HN := hide hb2.size
  clear k0 k1 k2 k3
  obtain ⟨k0, k1, k2, k3⟩ := cellsB (unhide HXB2).heap.2
  obtain ⟨d0, d1, d2, _⟩ := cell3 (unhide HXBOX1)
  clear hV0 hb2 hbw
  go_wp2_with fail
  refine (unhide HOF _ _ _ (unhide HXAT1)).mono ?_
  rintro e wq ⟨V, rfl, hV, hbq⟩
  have HV := hide hV
  have HDBOXq := hide ((hbq.block w2.heap.size (block_lt (unhide HDBOX1))).trans (unhide HDBOX1))
  have hb3p := below_put4c ((unhide HBW).trans (hbq.mono (unhide HBW).size)) (unhide HN) (.int .i64 V.op) (.string (S V.a)) (.string (S V.b)) (.int .i64 V.n)
  have HLW := hide ((unhide HXB).on hb3p).low
  have HXAT2 := hide ((unhide HXAT).later hb3p)
  have HXBOX2 := hide ((hb3p.block w1.heap.size (by simp)).trans (unhide HXBOX))
  have HDBOX2 := hide (put4c_cells (unhide HDBOXq) (.int .i64 V.op) (.string (S V.a)) (.string (S V.b)) (.int .i64 V.n))
  obtain ⟨q0, q1, q2, q3, fq⟩ := cell4 (unhide HDBOXq)
  unfold put4c put3 at HLW HXAT2 HXBOX2 HDBOX2
  clear hV hbq hb3p HXB2 HXAT1 HXBOX1 HDBOX1 HDBOXq HBW HN HXAT HXBOX HXB k0 k1 k2 k3 d0 d1 d2 HOF
  unfold mcV
  go_wp2_with fail
  refine (unhide HAW _ (unhide HLW)).mono ?_
  rintro e w4 ⟨rfl, hb4⟩
  have HXAT4 := hide ((unhide HXAT2).later hb4)
  have HXBOX4 := hide ((hb4.block w1.heap.size (block_lt (unhide HXBOX2))).trans (unhide HXBOX2))
  have HDBOX4 := hide ((hb4.block w2.heap.size (block_lt (unhide HDBOX2))).trans (unhide HDBOX2))
  have HL4 := hide ((unhide HLW).trans (hb4.mono (unhide HLW).size))
  clear hb4 HXAT2 HXBOX2 HDBOX2 HLW HAW
  go_upto_region 7 with fail
  have HOWN := hide (fun (wz : World) (hb : Below w4.heap.size w4 wz) => own_any ((unhide HXAT4).later hb) (by have := may_small (unhide HMAY); omega))
  have HOWC : Hid (∀ wz : World, Calls Tryd.prog 12 #[.agg #[.int .i64 V.op, .string (S V.a), .string (S V.b), .int .i64 V.n]] wz fun e w' => e = .returned (.agg #[.int .i64 V.op, .string (S V.a), .string (S V.b), .int .i64 V.n]) ∧ Below wz.heap.size wz w') := fun wz => mown_any V
  refine two2_T 25 26 27 28 9 10 (.agg #[.int .i64 x.kind, .int .i64 x.n, .slice xa x.rows.length xc]) (.agg #[.int .i64 V.op, .string (S V.a), .string (S V.b), .int .i64 V.n]) (.int .i64 x.kind) (.int .i64 x.n) (.int .i64 V.op) (.string (S V.a)) (.string (S V.b)) (.int .i64 V.n) 70 24 27 x.rows.length (R9 x.rows) (by kernel_rfl) rfl (fun i hi => ?hlow) (by kernel_rfl) (by kernel_rfl) (by kernel_rfl) (by kernel_rfl) (by kernel_rfl) (by kernel_rfl) ?H0 ?H1 ?H2 ?H3 ?H4 ?H5 ?H6 ?H7 ?hend
  case hlow =>
    have hc : i = 0 ∨ i = 1 ∨ i = 2 ∨ i = 3 ∨ i = 4 ∨ i = 5 ∨ i = 6 ∨ i = 7 := by have : i < 8 := hi; omega
    rcases hc with rfl | rfl | rfl | rfl | rfl | rfl | rfl | rfl <;> decide +kernel
  case H0 =>
    intro x0 x1 x2 x3 x4 x5 wz K hb hK
    obtain ⟨d0, d1, d2, _⟩ := cell3 ((hb.block _ (block_lt (unhide HXBOX4))).trans (unhide HXBOX4))
    simp only [set6, List.setIfInBounds_toArray, List.set_cons_zero, List.set_cons_succ] at hK ⊢
    unfold wpOp
    simp only [List.getElem?_toArray, List.getElem?_cons_zero, Region.wanted, if_true]
    refine .inl ?_
    unfold Oper.wp execOp
    go_simp
    exact hK
  case H1 =>
    intro x1 x2 x3 x4 x5 wz K hb hK
    simp only [set6, List.setIfInBounds_toArray, List.set_cons_zero, List.set_cons_succ] at hK ⊢
    unfold wpOp
    simp only [List.getElem?_toArray, List.getElem?_cons_zero, List.getElem?_cons_succ, Region.wanted, if_true]
    refine .inl ?_
    unfold Oper.wp execOp
    go_simp
    refine (unhide HOWN _ hb).mono ?_
    rintro e w' ⟨v', rfl, ⟨kk, rfl, ho⟩, hb'⟩
    obtain ⟨ka, kc, rfl, _⟩ := ownsRow_slice ho
    exact hK _ ka kc hb' ho
  case H2 =>
    intro x0 x1 x2 x3 x4 x5 wz K hb hK
    obtain ⟨d0, d1, d2, d3, _⟩ := cell4 ((hb.block _ (block_lt (unhide HDBOX4))).trans (unhide HDBOX4))
    simp only [set6, List.setIfInBounds_toArray, List.set_cons_zero, List.set_cons_succ] at hK ⊢
    unfold wpOp
    simp only [List.getElem?_toArray, List.getElem?_cons_zero, List.getElem?_cons_succ, Region.wanted, if_true]
    refine .inl ?_
    unfold Oper.wp execOp
    go_simp
    exact hK
  case H3 =>
    intro x0 x1 x3 x4 x5 wz K hb hK
    simp only [set6, List.setIfInBounds_toArray, List.set_cons_zero, List.set_cons_succ] at hK ⊢
    unfold wpOp
    simp only [List.getElem?_toArray, List.getElem?_cons_zero, List.getElem?_cons_succ, Region.wanted, if_true]
    refine .inl ?_
    unfold Oper.wp execOp
    go_simp
    refine (unhide HOWC _).mono ?_
    rintro e w' ⟨rfl, hb'⟩
    exact hK _ hb'
  case H4 =>
    intro x0 x1 x2 x3 x4 x5 wz K
    refine ⟨.int .i64 0, .int .i64 0, .slice none 0 0, fun hK => ?_⟩
    unfold ptr at hK
    simp only [set6, List.setIfInBounds_toArray, List.set_cons_zero, List.set_cons_succ] at hK ⊢
    unfold wpOp
    simp only [List.getElem?_toArray, List.getElem?_cons_zero, List.getElem?_cons_succ, Region.wanted, if_true]
    refine .inl ?_
    unfold Oper.wp execOp
    go_simp
    exact hK
  case H5 =>
    intro x0 x1 x2 x3 x4 x5 wz K
    refine ⟨.int .i64 0, .string ⟨#[]⟩, .string ⟨#[]⟩, .int .i64 0, fun hK => ?_⟩
    unfold ptr at hK
    simp only [set6, List.setIfInBounds_toArray, List.set_cons_zero, List.set_cons_succ] at hK ⊢
    unfold wpOp
    simp only [List.getElem?_toArray, List.getElem?_cons_zero, List.getElem?_cons_succ, Region.wanted, if_true]
    refine .inl ?_
    unfold Oper.wp execOp
    go_simp
    exact hK
  case H6 =>
    intro x0 x2 x3 x5 wz K q ka kc y1 y2 y3 hq hK
    obtain ⟨d0, d1, d2, fz⟩ := cell3 hq
    unfold ptr put3 at *
    simp only [set6, List.setIfInBounds_toArray, List.set_cons_zero, List.set_cons_succ] at hK ⊢
    unfold wpOp
    simp only [List.getElem?_toArray, List.getElem?_cons_zero, List.getElem?_cons_succ, Region.wanted, if_true]
    refine .inl ?_
    unfold Oper.wp execOp
    go_simp
    exact hK
  case H7 =>
    intro x0 x1 x2 x4 wz K q y1 y2 y3 y4 hq hK
    obtain ⟨d0, d1, d2, d3, fz⟩ := cell4 hq
    unfold ptr put4c put3 at *
    simp only [set6, List.setIfInBounds_toArray, List.set_cons_zero, List.set_cons_succ] at hK ⊢
    unfold wpOp
    simp only [List.getElem?_toArray, List.getElem?_cons_zero, List.getElem?_cons_succ, Region.wanted, if_true]
    refine .inl ?_
    unfold Oper.wp execOp
    go_simp
    exact hK
  case hend =>
    intro w5 qA qB ka kc hb5 hqa hqb hqn hA5 hB5 hown
    unfold ptr
    simp only [set6, List.setIfInBounds_toArray, List.set_cons_zero, List.set_cons_succ]
    have hX5 := (hb5.block _ (block_lt (unhide HXBOX4))).trans (unhide HXBOX4)
    have hD5 := (hb5.block _ (block_lt (unhide HDBOX4))).trans (unhide HDBOX4)
    obtain ⟨xc0, xc1, xc2⟩ := Fr.cell3 hX5
    obtain ⟨dc0, dc1, dc2, dc3⟩ := Fr.cell4 hD5
    obtain ⟨ac0, ac1, ac2⟩ := Fr.cell3 hA5
    obtain ⟨bc0, bc1, bc2, bc3⟩ := Fr.cell4 hB5
    have HX5 := hide hX5
    have HD5 := hide hD5
    have HA5 := hide hA5
    have HB5 := hide hB5
    have HL5 : Hid (Below w.heap.size w w5) := (unhide HL4).trans (hb5.mono (unhide HL4).size)
    have HSO5 : Hid (StOwn w4.heap.size 70 w5 (.agg #[.int .i64 x.kind, .int .i64 x.n, .slice ka x.rows.length kc]) x) := ⟨_, rfl, hown⟩
    have HXAT5 := hide ((unhide HXAT4).later hb5)
    have hop := MC.may_op (unhide HV)
    have hsm : x.rows.length ≤ 1000 := by have := may_small (unhide HMAY); omega
    obtain ⟨l, hl⟩ : ∃ l, answers x V = l := ⟨_, rfl⟩
    have HLA := hide hl
    have HCH7 : Hid (∀ r, r ∈ l → MR.check r = 0) := fun r hr => answers_check (unhide HMAY) (by rw [hl]; exact hr)
    have hmd : ∀ wz, Fr w5 wz → MD wz := fun wz hf => (unhide HMD).later ((unhide HL5).trans (hf.low.mono (unhide HL5).size))
    have HAN : Hid (∀ wz, Fr w5 wz → Calls Tryd.prog 13 #[.agg #[.int .i64 x.kind, .int .i64 x.n, .slice ka x.rows.length kc], .agg #[.int .i64 V.op, .string (S V.a), .string (S V.b), .int .i64 V.n]] wz fun e w' => ∃ v', e = .returned v' ∧ Row3 w' v' l ∧ Below wz.heap.size wz w') := fun wz hf => by rw [← hl]; exact aanswers_any (c := V) ((unhide HSO5).at.later hf.low) hsm hop (hmd wz hf)
    have HRN : Hid (∀ wz, Fr w5 wz → Calls Tryd.prog 14 #[.agg #[.int .i64 x.kind, .int .i64 x.n, .slice xa x.rows.length xc], .agg #[.int .i64 V.op, .string (S V.a), .string (S V.b), .int .i64 V.n]] wz fun e w' => ∃ v', e = .returned v' ∧ Row3 w' v' l ∧ Below wz.heap.size wz w') := fun wz hf => by rw [← hl]; exact ranswers_any (c := V) ((unhide HXAT5).later hf.low) hsm hop
    have hst := Fr.start w5
    have hstd := hst.drew
    clear hX5 hD5 hA5 hB5 hop hsm hmd hl hown hb5 hqa hqb hqn HOWN HOWC HXAT4 HXBOX4 HDBOX4 HL4
    go_wp2_with fail
    go_region_held3 (fun w' => Fr w5 w') (with_reducible (first | exact hstd | exact hst | (refine Fr.below ?_ (by assumption) <;> assumption)))
      (first | (go_at_call 13; refine (unhide HAN _ (by assumption)).mono ?_; rintro e wa ⟨va, rfl, hra, hba⟩; obtain ⟨sa, sc, rfl, _, _⟩ := hra.shape; have HRA0 := hide hra; clear hra) | (go_at_call 14; refine (unhide HRN _ (by assumption)).mono ?_; rintro e w7 ⟨vb, rfl, hrb, hbb⟩; obtain ⟨ta, tc, rfl, _, _⟩ := hrb.shape; have HRW7 := hide hrb; have HRL7 := hide ((unhide HRA0).later hbb); clear hrb HRA0) | fail)
    have h7 : Fr w5 w7 := by assumption
    have HX7 := hide ((h7.low.block _ (block_lt (unhide HX5))).trans (unhide HX5))
    have HD7 := hide ((h7.low.block _ (block_lt (unhide HD5))).trans (unhide HD5))
    have HA7 := hide ((h7.low.block _ (block_lt (unhide HA5))).trans (unhide HA5))
    have HB7 := hide ((h7.low.block _ (block_lt (unhide HB5))).trans (unhide HB5))
    have HL7 := hide ((unhide HL5).trans (h7.low.mono (unhide HL5).size))
    have HSO7 := hide ((unhide HSO5).later h7.low)
    have HXAT7 := hide ((unhide HXAT5).later h7.low)
    have hll : ((l.length : Nat) : Int) ≤ 9223372036854775807 := by
      obtain ⟨_, _, e, h1, h2, _⟩ := (unhide HRL7)
      unfold maxLen at h2
      omega
    clear h7 hst hstd hba hbb HAN HRN HX5 HD5 HA5 HB5 HL5 HSO5 HXAT5 xc0 xc1 xc2 dc0 dc1 dc2 dc3 ac0 ac1 ac2 bc0 bc1 bc2 bc3
    go_wp2_with fail
    go_loopw [42] (fun i wr => ∃ k : Nat, k ≤ l.length ∧ i = .int .i64 (k : Int) ∧ Fr w7 wr) (fun i _ => l.length - (intOf i).toNat)
    case atStart => exact ⟨0, Nat.zero_le _, rfl, Fr.start _⟩
    case round =>
      obtain ⟨k, hk, rfl, hfr⟩ := hrel
      by_cases hlt : k < l.length
      · obtain ⟨bl, ol, rfl, hbl, e1, e2, e3⟩ := (unhide HRL7).at k hlt
        obtain ⟨bw, ow, rfl, hbw, g1, g2, g3⟩ := (unhide HRW7).at k hlt
        have HIN := hide (List.getElem_mem hlt)
        have HCHK := hide (unhide HCH7 _ (List.getElem_mem hlt))
        rw [← (Fr.low hfr).cell (p := ⟨bl, ol + k * 3, none⟩) hbl] at e1
        rw [← (Fr.low hfr).cell (p := ⟨bl, ol + k * 3 + 1, none⟩) hbl] at e2
        rw [← (Fr.low hfr).cell (p := ⟨bl, ol + k * 3 + 2, none⟩) hbl] at e3
        rw [← (Fr.low hfr).cell (p := ⟨bw, ow + k * 3, none⟩) hbw] at g1
        rw [← (Fr.low hfr).cell (p := ⟨bw, ow + k * 3 + 1, none⟩) hbw] at g2
        rw [← (Fr.low hfr).cell (p := ⟨bw, ow + k * 3 + 2, none⟩) hbw] at g3
        generalize l[k]'hlt = q at *
        obtain ⟨y1, y2, y3⟩ := q
        dsimp only at *
        have hi0 : (0 : Int) ≤ (k : Int) := by omega
        have hi1 : (k : Int) < ((l.length : Nat) : Int) := by omega
        have hne : wr.heap.size ≠ bl := by have := (Fr.low hfr).size; omega
        obtain ⟨C, hC⟩ : ∃ C : Obj, C = .cells #[.int .i64 y1, .string (S y2), .int .i64 y3] 44 (0, 0) := ⟨_, rfl⟩
        obtain ⟨W8, hW8⟩ : ∃ W8, wr.alloc C = W8 := ⟨_, rfl⟩
        have hb8 : Below wr.heap.size wr W8 := by rw [← hW8]; exact under_box _
        have hf8 : Below w7.heap.size w7 W8 := (Fr.low hfr).trans (hb8.mono (Fr.low hfr).size)
        have hc8 : W8.heap[wr.heap.size]? = some (.cells #[.int .i64 y1, .string (S y2), .int .i64 y3] 44 (0, 0)) := by rw [← hW8, ← hC]; exact heap_alloc_new wr C
        obtain ⟨rc0, rc1, rc2⟩ := Fr.cell3 hc8
        obtain ⟨xc0, xc1, xc2⟩ := Fr.cell3 ((hf8.block _ (block_lt (unhide HX7))).trans (unhide HX7))
        obtain ⟨dc0, dc1, dc2, dc3⟩ := Fr.cell4 ((hf8.block _ (block_lt (unhide HD7))).trans (unhide HD7))
        obtain ⟨ac0, ac1, ac2⟩ := Fr.cell3 ((hf8.block _ (block_lt (unhide HA7))).trans (unhide HA7))
        obtain ⟨bc0, bc1, bc2, bc3⟩ := Fr.cell4 ((hf8.block _ (block_lt (unhide HB7))).trans (unhide HB7))
        have hbwr : bw < wr.heap.size := by have := (Fr.low hfr).size; omega
        have wc0 := Fr.one (W := W8) (p := ⟨bw, ow + k * 3, none⟩) (by have := hb8.size; show bw < _; omega) ((hb8.cell (p := ⟨bw, ow + k * 3, none⟩) hbwr).trans g1)
        have wc1 := Fr.one (W := W8) (p := ⟨bw, ow + k * 3 + 1, none⟩) (by have := hb8.size; show bw < _; omega) ((hb8.cell (p := ⟨bw, ow + k * 3 + 1, none⟩) hbwr).trans g2)
        have wc2 := Fr.one (W := W8) (p := ⟨bw, ow + k * 3 + 2, none⟩) (by have := hb8.size; show bw < _; omega) ((hb8.cell (p := ⟨bw, ow + k * 3 + 2, none⟩) hbwr).trans g3)
        have HF8 := hide hf8
        have hop := MC.may_op (unhide HV)
        have hsm : x.rows.length ≤ 1000 := by have := may_small (unhide HMAY); omega
        have hfit := VS.may.fit (unhide HMAY)
        have hso8 := (unhide HSO7).later hf8
        have hxat8 := (unhide HXAT7).later hf8
        have hchk : MR.check ⟨y1, y2, y3⟩ = 0 := unhide HCHK
        have hyl : y2.length ≤ maxLen := Nat.le_trans (check_len hchk) (by unfold maxLen; decide)
        have hlg : legal x V ⟨y1, y2, y3⟩ = true := by unfold legal; have := unhide HIN; rw [← unhide HLA] at this; exact decide_eq_true this
        obtain ⟨Y, hY⟩ : ∃ Y, apply2 x V ⟨y1, y2, y3⟩ = Y := ⟨_, rfl⟩
        have hYl : Y.rows.length ≤ 1000 := by rw [← hY]; have := apply_len x V ⟨y1, y2, y3⟩; have := may_small (unhide HMAY); omega
        have hL8 : Below w.heap.size w W8 := (unhide HL7).trans (hf8.mono (unhide HL7).size)
        have hmd : ∀ wz, Fr W8 wz → MD wz := fun wz hf => (unhide HMD).later (hL8.trans (hf.low.mono hL8.size))
        have HLE : Hid (∀ wz, Fr W8 wz → Calls Tryd.prog 15 #[.agg #[.int .i64 x.kind, .int .i64 x.n, .slice ka x.rows.length kc], .agg #[.int .i64 V.op, .string (S V.a), .string (S V.b), .int .i64 V.n], .agg #[.int .i64 y1, .string (S y2), .int .i64 y3]] wz fun e w' => e = .returned (.bool true) ∧ Below wz.heap.size wz w') := fun wz hf => by rw [← hlg]; exact alegal_any (c := V) (hso8.at.later hf.low) hsm hop (hmd wz hf) ⟨y1, y2, y3⟩
        have HCK : Hid (∀ wz, Calls Tryd.prog 16 #[.agg #[.int .i64 y1, .string (S y2), .int .i64 y3]] wz fun e w' => e = .returned (.int .i64 0) ∧ Below wz.heap.size wz w') := fun wz => by rw [← hchk]; exact mrcheck_any ⟨y1, y2, y3⟩ hyl
        have HAP : Hid (∀ wz, Fr W8 wz → Calls Tryd.prog 19 #[.agg #[.int .i64 x.kind, .int .i64 x.n, .slice ka x.rows.length kc], .agg #[.int .i64 V.op, .string (S V.a), .string (S V.b), .int .i64 V.n], .agg #[.int .i64 y1, .string (S y2), .int .i64 y3]] wz fun e w' => ∃ v', e = .returned v' ∧ StOwn wz.heap.size 70 w' v' Y ∧ Below wz.heap.size wz w') := fun wz hf => by rw [← hY, ← apply_same hfit]; exact aapply_any (c := V) (hso8.later hf.low) hsm hop (hmd wz hf) ⟨y1, y2, y3⟩
        have HRA : Hid (∀ wz, Fr W8 wz → Calls Tryd.prog 20 #[.agg #[.int .i64 x.kind, .int .i64 x.n, .slice xa x.rows.length xc], .agg #[.int .i64 V.op, .string (S V.a), .string (S V.b), .int .i64 V.n], .agg #[.int .i64 y1, .string (S y2), .int .i64 y3]] wz fun e w' => ∃ v', e = .returned v' ∧ StAt w' v' Y ∧ Below wz.heap.size wz w') := fun wz hf => by rw [← hY]; exact rapply_any (c := V) (hxat8.later hf.low) hsm hop (may_b (unhide HV)) hfit ⟨y1, y2, y3⟩
        have HTO := hide (fun (wz : World) (v : Value) (h : StAt wz v Y) => told_any h hYl)
        have HT2 := hide (fun (wz : World) (hf : Fr W8 wz) => told_any (hso8.at.later hf.low) hsm)
        have HXF := hide (fun (wz : World) (hf : Fr W8 wz) => hxat8.later hf.low)
        have HLI := hide (fun (wz : World) (va vb : Value) (h1 : StAt wz va Y) (h2 : StAt wz vb Y) => like_same h1 h2)
        have HL2 := hide (fun (wz : World) (va vb : Value) (h1 : StAt wz va x) (h2 : StAt wz vb x) => like_same h1 h2)
        have hst := Fr.start W8
        have hstd := hst.drew
        have HFR8 : Hid (∀ wz, Fr W8 wz → Fr w7 wz) := fun wz hf => (unhide HF8).trans (hf.low.mono (unhide HF8).size)
        clear hop hsm hfit hso8 hxat8 hchk hyl hlg hY hYl hL8 hmd hf8 hc8 hb8 hfr g1 g2 g3 HIN HCHK
        go_upto_region 14 with fail
        rw [← hC, hW8]
        clear hC hW8 e1 e2 e3
        go_region_held3 (fun w' => Fr W8 w') (with_reducible (first | exact hstd | exact hst | (refine Fr.below ?_ (by assumption) <;> assumption)))
          (first | (go_at_call 15; refine (unhide HLE _ (by assumption)).mono ?_; rintro e wa ⟨rfl, hba⟩) | (go_at_call 16; refine (unhide HCK _).mono ?_; rintro e wb ⟨rfl, hbb⟩) | fail)
        have hsb : Fr W8 wb := by assumption
        have hsbd := hsb.drew
        clear hst hstd hba hbb HLE HCK
        go_wp2_with fail
        go_region_held3 (fun w' => Fr W8 w') (with_reducible (first | exact hsbd | exact hsb | (refine Fr.below ?_ (by assumption) <;> assumption)))
          (first | (go_at_call 19; refine (unhide HAP _ (by assumption)).mono ?_; rintro e wc ⟨vc, rfl, hyc, hbc⟩; have HYC := hide hyc.at; obtain ⟨kc', rfl, hoc⟩ := hyc; obtain ⟨ya, yc, rfl, _⟩ := ownsRow_slice hoc; clear hoc) | (go_at_call 18; first | (have hq := HYD; clear hq; refine (unhide HT2 _ (by assumption)).mono ?_; rintro e wg ⟨vg, rfl, hyg, hbg⟩; have HYG := hide hyg.at; obtain ⟨kg', rfl, hog⟩ := hyg; obtain ⟨pa, pc, rfl, _⟩ := ownsRow_slice hog; clear hog) | (refine (unhide HTO _ _ (unhide HYC)).mono ?_; rintro e wd ⟨vd, rfl, hyd, hbd⟩; have HYD := hide hyd.at; obtain ⟨kd', rfl, hod⟩ := hyd; obtain ⟨za, zc, rfl, _⟩ := ownsRow_slice hod; clear hod)) | (go_at_call 20; refine (unhide HRA _ (by assumption)).mono ?_; rintro e we ⟨ve, rfl, hye, hbe⟩; have HYD2 := hide ((unhide HYD).later hbe); have HYE := hide hye; obtain ⟨ke, rfl, hke⟩ := hye; obtain ⟨ua, uc, rfl, _, _⟩ := hke.shape; clear hke) | (go_at_call 17; first | (have hq := HYG; clear hq; refine (unhide HL2 _ _ _ (unhide HYG) (unhide HXF _ (by assumption))).mono ?_; rintro e wh ⟨rfl, hbh⟩) | (refine (unhide HLI _ _ _ (unhide HYD2) (unhide HYE)).mono ?_; rintro e wf ⟨rfl, hbf⟩)) | fail)
        have HSH := hide (unhide HFR8 wh (by assumption))
        go_wp2_with fail
        go_roundw
        case rel => exact ⟨k + 1, by omega, by go_num, unhide HSH⟩
        case measure => simp [intOf]; omega
      · have HL := hide ((unhide HL7).trans ((Fr.low hfr).mono (unhide HL7).size))
        have hkn : k = l.length := by omega
        subst hkn
        clear hfr
        go_wp2_with fail
        go_ret
        exact ⟨rfl, unhide HL⟩
theorem adtAnswers_walk {H : Type} {enc : TypeId × Value → H} {base b0 : Nat} {spare : Nat → Bool} {held : Bool} {r : Reach} {v : Value} {d : DataW H} {p : List MemPlace} (w : World)
    (hv : Value.okWide Tryd.prog w r b0 24 v) (hd : DataW.Trod enc Tryd.prog w base spare held 24 v d p) (op : Int) (wop : (Lit.int .i64 op).wf = true) (ca : ByteArray) (wca : ca.size ≤ maxLen) (cb : ByteArray) (wcb : cb.size ≤ maxLen) (cn : Int) (wcn : (Lit.int .i64 cn).wf = true)
    (td : Bool) (hw : MD w) :
    Calls Tryd.prog 3 #[v, .agg #[.int .i64 op, .string ca, .string cb, .int .i64 cn], .bool td] w fun e w' => e = .returned (.bool true) ∧ Below w.heap.size w w' := by
  obtain ⟨s, hs, _, hn, hz⟩ := open_state hv hd
  cases td
  · exact tansw_no hs hn hz op ca cb cn (vwf_i64 wop) (vwf_i64 wcn) wca wcb hw
  · exact tansw_yes hs hn hz op ca cb cn (vwf_i64 wop) (vwf_i64 wcn) wca wcb hw
end Go.Proofs.YtcialbhmmbcgjaaDoor
