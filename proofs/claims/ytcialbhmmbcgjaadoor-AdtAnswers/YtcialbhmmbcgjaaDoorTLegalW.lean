/- The walk of AdtLegal. -/
import Derived.Test.YtcialbhmmbcgjaaDoorBundleT8
import Derived.Test.YtcialbhmmbcgjaaDoorTRApply
import Derived.Test.YtcialbhmmbcgjaaDoorVLike
import Derived.Test.YtcialbhmmbcgjaaDoorMRes
import Derived.Test.YtcialbhmmbcgjaaDoorVOpen
namespace Go.Proofs.YtcialbhmmbcgjaaDoor
open Go.RowKit
set_option linter.unusedVariables false
set_option maxRecDepth 100000

/- All of a world is as it was. -/
def Fr (W w' : World) : Prop := Below W.heap.size W w'
theorem Fr.start (W : World) : Fr W W := Below.refl _ _
theorem Fr.drew {W w : World} (h : Fr W w) : Fr W w.drew := Below.drew h
theorem Fr.below {W w w' : World} (h : Fr W w) (hb : Below w.heap.size w w') : Fr W w' := Below.trans h (hb.mono (Below.size h))
theorem Fr.low {W w' : World} (h : Fr W w') : Below W.heap.size W w' := h
theorem Fr.cell3 {W : World} {N : Nat} {a b c : Value} {t : TypeId} (h : W.heap[N]? = some (.cells #[a, b, c] t (0, 0))) : (∀ w1, Fr W w1 → w1.cell? ⟨N, 0, none⟩ = some a) ∧ (∀ w1, Fr W w1 → w1.cell? ⟨N, 1, none⟩ = some b) ∧ (∀ w1, Fr W w1 → w1.cell? ⟨N, 2, none⟩ = some c) := by
  refine ⟨fun w1 hf => ?_, fun w1 hf => ?_, fun w1 hf => ?_⟩ <;> rw [block_cell ((Below.block hf _ (block_lt h)).trans h)] <;> rfl
theorem Fr.cell4 {W : World} {N : Nat} {a b c d : Value} {t : TypeId} (h : W.heap[N]? = some (.cells #[a, b, c, d] t (0, 0))) : (∀ w1, Fr W w1 → w1.cell? ⟨N, 0, none⟩ = some a) ∧ (∀ w1, Fr W w1 → w1.cell? ⟨N, 1, none⟩ = some b) ∧ (∀ w1, Fr W w1 → w1.cell? ⟨N, 2, none⟩ = some c) ∧ (∀ w1, Fr W w1 → w1.cell? ⟨N, 3, none⟩ = some d) := by
  refine ⟨fun w1 hf => ?_, fun w1 hf => ?_, fun w1 hf => ?_, fun w1 hf => ?_⟩ <;> rw [block_cell ((Below.block hf _ (block_lt h)).trans h)] <;> rfl
theorem may_b {V : MC} (h : V.may) : V.op ≠ 11 → V.b = [] := fun hne => by
  have h0 := h.1
  unfold MC.check at h0
  rw [if_neg (by simpa using MC.may_op h)] at h0
  split at h0
  · exact absurd h0 (by decide)
  · rename_i h2
    rcases List.eq_nil_or_concat V.b with e | ⟨x, y, e⟩
    · exact e
    · exact absurd (Or.inr (Or.inl ⟨by rw [e]; simp, by simp [hasB, hne]⟩)) h2
theorem may_small {x : VS} (h : x.may) : x.rows.length ≤ 8 := Nat.le_trans (VS.may_rows h).1 (VS.most_le x)

set_option maxHeartbeats 51200000 in
theorem tlegal_any {w : World} {v : Value} {s : VS} (hs : StAt w v s) (hsn : -9223372036854775808 ≤ s.n ∧ s.n ≤ 9223372036854775807) (hsz : ∀ i (h : i < s.rows.length), (s.rows[i]'h).1.length ≤ maxLen ∧ (s.rows[i]'h).2.length ≤ maxLen)
    (op : Int) (ca cb : ByteArray) (cn : Int) (hop : I64 op) (hn : I64 cn) (hca : ca.size ≤ maxLen) (hcb : cb.size ≤ maxLen) (r : MR) (hrt : r.text.length ≤ maxLen) (hw : MD w) :
    Calls Tryd.prog 4 #[v, .agg #[.int .i64 op, .string ca, .string cb, .int .i64 cn], mrV r] w fun e w' => e = .returned (.bool true) ∧ Below w.heap.size w w' := by
  have HTS := hide (fun (w1 : World) (hb : Below w.heap.size w w1) => tstate_any (hs.later hb) hsn hsz)
  have HOF := hide (fun (w1 : World) (v : Value) (x : VS) (h : StAt w1 v x) => of_any h op ca cb cn hop hn hca hcb)
  have HAW := hide (fun (w1 : World) (hb : Below w.heap.size w w1) => tawake_any (hw.later hb))
  have HCK := hide (fun (w1 : World) => mrcheck_any (w := w1) r hrt)
  have HMD := hide hw
  obtain ⟨k0, rfl, hr⟩ := hs
  obtain ⟨a, c, rfl, hc, hm⟩ := hr.shape
  obtain ⟨y1, y2, y3⟩ := r
  unfold mrV at *
  dsimp only at *
  obtain ⟨A, hA⟩ : ∃ A : Obj, A = .cells #[.int .i64 s.kind, .int .i64 s.n, .slice a s.rows.length c] 24 (0, 0) := ⟨_, rfl⟩
  obtain ⟨B, hB⟩ : ∃ B : Obj, B = .cells #[.int .i64 op, .string ca, .string cb, .int .i64 cn] 27 (0, 0) := ⟨_, rfl⟩
  obtain ⟨C, hC⟩ : ∃ C : Obj, C = .cells #[.int .i64 y1, .string (S y2), .int .i64 y3] 44 (0, 0) := ⟨_, rfl⟩
  obtain ⟨c0, c1, c2, k0, k1, k2, k3, r0, r1, r2⟩ := B3.scr (w := w) hA hB hC
  have HCB := hide hC
  have hst := B3.start w A B C
  clear hr hw hsn hsz hop hn hca hcb hrt
  go_enter Tryd.func4, Tryd.ntmps4
  go_wp2_with fail
  rw [← hA, ← hB, ← hC]
  clear hA hB hC
  refine (unhide HTS _ hst.low).mono ?_
  rintro e w1 ⟨v1, rfl, x, hmay, _, ⟨kx, rfl, hox⟩, hb1⟩
  obtain ⟨xa, xc, rfl, _⟩ := ownsRow_slice hox
  have hx1 := hst.below hb1
  have HMAY := hide hmay
  have hx1b : B3 w A B C (w1.alloc (.cells #[.int .i64 x.kind, .int .i64 x.n, .slice xa x.rows.length xc] 30)) := hx1.below (under_box _)
  have hxat : StAt (w1.alloc (.cells #[.int .i64 x.kind, .int .i64 x.n, .slice xa x.rows.length xc] 30)) (.agg #[.int .i64 x.kind, .int .i64 x.n, .slice xa x.rows.length xc]) x := ⟨_, rfl, Row2.of_own (hox.alloc _)⟩
  have HXAT := hide hxat
  have HXBOX := hide (heap_alloc_new w1 (.cells #[.int .i64 x.kind, .int .i64 x.n, .slice xa x.rows.length xc] 30))
  have HXB := hide hx1b
  clear hmay hox hb1 hx1 hxat hst HTS
  go_wp2_with fail
  refine (unhide HOF _ _ _ (unhide HXAT)).mono ?_
  rintro e w2 ⟨V, rfl, hV, hb2⟩
  have hx2 := (unhide HXB).below hb2
  have hx2b : B3 w A B C (w2.alloc (.cells #[.int .i64 V.op, .string (S V.a), .string (S V.b), .int .i64 V.n] 33)) := hx2.below (under_box _)
  have HXAT2 := hide ((unhide HXAT).later (hb2.trans ((under_box (.cells #[.int .i64 V.op, .string (S V.a), .string (S V.b), .int .i64 V.n] 33)).mono hb2.size)))
  have HXBOX2 := hide (((hb2.trans ((under_box (.cells #[.int .i64 V.op, .string (S V.a), .string (S V.b), .int .i64 V.n] 33)).mono hb2.size)).block w1.heap.size (by simp)).trans (unhide HXBOX))
  have HDBOX := hide (heap_alloc_new w2 (.cells #[.int .i64 V.op, .string (S V.a), .string (S V.b), .int .i64 V.n] 33))
  have HV := hide hV
  have HXB2 := hide hx2b
  clear hV hb2 hx2 hx1b HXAT HXBOX HXB HOF
  unfold mcV
  go_wp2_with fail
  refine (unhide HAW _ (unhide HXB2).low).mono ?_
  rintro e w3 ⟨rfl, hb3⟩
  have hx3 := (unhide HXB2).below hb3
  have HX3 := hide hx3
  have HXAT3 := hide ((unhide HXAT2).later hb3)
  have HXBOX3 := hide ((hb3.block w1.heap.size (block_lt (unhide HXBOX2))).trans (unhide HXBOX2))
  have HDBOX3 := hide ((hb3.block w2.heap.size (block_lt (unhide HDBOX))).trans (unhide HDBOX))
  clear hb3 hx2b HXAT2 HXBOX2 HDBOX HXB2
  go_wp2_with fail
  refine (unhide HCK _).mono ?_
  rintro e w4 ⟨rfl, hb4⟩
  have hx4 := (unhide HX3).below hb4
  have HX4 := hide hx4
  have HXAT4 := hide ((unhide HXAT3).later hb4)
  have HXBOX4 := hide ((hb4.block w1.heap.size (block_lt (unhide HXBOX3))).trans (unhide HXBOX3))
  have HDBOX4 := hide ((hb4.block w2.heap.size (block_lt (unhide HDBOX3))).trans (unhide HDBOX3))
  clear hb4 hx3 HXAT3 HXBOX3 HDBOX3 HX3 HCK
  by_cases hck : MR.check ⟨y1, y2, y3⟩ = 0
  · have e0 : (MR.check ⟨y1, y2, y3⟩ != 0) = false := by rw [hck]; rfl
    clear hck
    go_upto_region 5 with fail
    have HOWN := hide (fun (wz : World) (hb : Below w4.heap.size w4 wz) => own_any ((unhide HXAT4).later hb) (by have := may_small (unhide HMAY); omega))
    have HOWC : Hid (∀ wz : World, Calls Tryd.prog 12 #[.agg #[.int .i64 V.op, .string (S V.a), .string (S V.b), .int .i64 V.n]] wz fun e w' => e = .returned (.agg #[.int .i64 V.op, .string (S V.a), .string (S V.b), .int .i64 V.n]) ∧ Below wz.heap.size wz w') := fun wz => mown_any V
    refine two2_T 24 25 26 27 9 10 (.agg #[.int .i64 x.kind, .int .i64 x.n, .slice xa x.rows.length xc]) (.agg #[.int .i64 V.op, .string (S V.a), .string (S V.b), .int .i64 V.n]) (.int .i64 x.kind) (.int .i64 x.n) (.int .i64 V.op) (.string (S V.a)) (.string (S V.b)) (.int .i64 V.n) 70 24 27 x.rows.length (R9 x.rows) (by kernel_rfl) rfl (fun i hi => ?hlow) (by kernel_rfl) (by kernel_rfl) (by kernel_rfl) (by kernel_rfl) (by kernel_rfl) (by kernel_rfl) ?H0 ?H1 ?H2 ?H3 ?H4 ?H5 ?H6 ?H7 ?hend
    case hlow =>
      have hc : i = 0 ∨ i = 1 ∨ i = 2 ∨ i = 3 ∨ i = 4 ∨ i = 5 ∨ i = 6 ∨ i = 7 := by have : i < 8 := hi; omega
      rcases hc with rfl | rfl | rfl | rfl | rfl | rfl | rfl | rfl <;> decide +kernel
    case H0 =>
      intro x0 x1 x2 x3 x4 x5 wz K hb hK
      obtain ⟨d0, d1, d2, _⟩ := cell3 ((hb.block _ (block_lt (unhide HXBOX4))).trans (unhide HXBOX4))
      simp only [set6, List.setIfInBounds_toArray, List.set_cons_zero, List.set_cons_succ] at hK ⊢
      unfold wpOp
      simp only [List.getElem?_toArray, List.getElem?_cons_zero, Region.wanted, if_true]
      refine .inl ?_
      unfold Oper.wp execOp
      go_simp
      exact hK
    case H1 =>
      intro x1 x2 x3 x4 x5 wz K hb hK
      simp only [set6, List.setIfInBounds_toArray, List.set_cons_zero, List.set_cons_succ] at hK ⊢
      unfold wpOp
      simp only [List.getElem?_toArray, List.getElem?_cons_zero, List.getElem?_cons_succ, Region.wanted, if_true]
      refine .inl ?_
      unfold Oper.wp execOp
      go_simp
      refine (unhide HOWN _ hb).mono ?_
      rintro e w' ⟨v', rfl, ⟨kk, rfl, ho⟩, hb'⟩
      obtain ⟨ka, kc, rfl, _⟩ := ownsRow_slice ho
      exact hK _ ka kc hb' ho
    case H2 =>
      intro x0 x1 x2 x3 x4 x5 wz K hb hK
      obtain ⟨d0, d1, d2, d3, _⟩ := cell4 ((hb.block _ (block_lt (unhide HDBOX4))).trans (unhide HDBOX4))
      simp only [set6, List.setIfInBounds_toArray, List.set_cons_zero, List.set_cons_succ] at hK ⊢
      unfold wpOp
      simp only [List.getElem?_toArray, List.getElem?_cons_zero, List.getElem?_cons_succ, Region.wanted, if_true]
      refine .inl ?_
      unfold Oper.wp execOp
      go_simp
      exact hK
    case H3 =>
      intro x0 x1 x3 x4 x5 wz K hb hK
      simp only [set6, List.setIfInBounds_toArray, List.set_cons_zero, List.set_cons_succ] at hK ⊢
      unfold wpOp
      simp only [List.getElem?_toArray, List.getElem?_cons_zero, List.getElem?_cons_succ, Region.wanted, if_true]
      refine .inl ?_
      unfold Oper.wp execOp
      go_simp
      refine (unhide HOWC _).mono ?_
      rintro e w' ⟨rfl, hb'⟩
      exact hK _ hb'
    case H4 =>
      intro x0 x1 x2 x3 x4 x5 wz K
      refine ⟨.int .i64 0, .int .i64 0, .slice none 0 0, fun hK => ?_⟩
      unfold ptr at hK
      simp only [set6, List.setIfInBounds_toArray, List.set_cons_zero, List.set_cons_succ] at hK ⊢
      unfold wpOp
      simp only [List.getElem?_toArray, List.getElem?_cons_zero, List.getElem?_cons_succ, Region.wanted, if_true]
      refine .inl ?_
      unfold Oper.wp execOp
      go_simp
      exact hK
    case H5 =>
      intro x0 x1 x2 x3 x4 x5 wz K
      refine ⟨.int .i64 0, .string ⟨#[]⟩, .string ⟨#[]⟩, .int .i64 0, fun hK => ?_⟩
      unfold ptr at hK
      simp only [set6, List.setIfInBounds_toArray, List.set_cons_zero, List.set_cons_succ] at hK ⊢
      unfold wpOp
      simp only [List.getElem?_toArray, List.getElem?_cons_zero, List.getElem?_cons_succ, Region.wanted, if_true]
      refine .inl ?_
      unfold Oper.wp execOp
      go_simp
      exact hK
    case H6 =>
      intro x0 x2 x3 x5 wz K q ka kc y1 y2 y3 hq hK
      obtain ⟨d0, d1, d2, fz⟩ := cell3 hq
      unfold ptr put3 at *
      simp only [set6, List.setIfInBounds_toArray, List.set_cons_zero, List.set_cons_succ] at hK ⊢
      unfold wpOp
      simp only [List.getElem?_toArray, List.getElem?_cons_zero, List.getElem?_cons_succ, Region.wanted, if_true]
      refine .inl ?_
      unfold Oper.wp execOp
      go_simp
      exact hK
    case H7 =>
      intro x0 x1 x2 x4 wz K q y1 y2 y3 y4 hq hK
      obtain ⟨d0, d1, d2, d3, fz⟩ := cell4 hq
      unfold ptr put4c put3 at *
      simp only [set6, List.setIfInBounds_toArray, List.set_cons_zero, List.set_cons_succ] at hK ⊢
      unfold wpOp
      simp only [List.getElem?_toArray, List.getElem?_cons_zero, List.getElem?_cons_succ, Region.wanted, if_true]
      refine .inl ?_
      unfold Oper.wp execOp
      go_simp
      exact hK
    case hend =>
      intro w5 qA qB ka kc hb5 hqa hqb hqn hA5 hB5 hown
      unfold ptr
      simp only [set6, List.setIfInBounds_toArray, List.set_cons_zero, List.set_cons_succ]
      have hX5 := (hb5.block _ (block_lt (unhide HXBOX4))).trans (unhide HXBOX4)
      have hD5 := (hb5.block _ (block_lt (unhide HDBOX4))).trans (unhide HDBOX4)
      have hC5 := (hb5.block _ (block_lt hx4.heap.2.2)).trans hx4.heap.2.2
      rw [unhide HCB] at hC5
      obtain ⟨xc0, xc1, xc2⟩ := Fr.cell3 hX5
      obtain ⟨dc0, dc1, dc2, dc3⟩ := Fr.cell4 hD5
      obtain ⟨rc0, rc1, rc2⟩ := Fr.cell3 hC5
      obtain ⟨ac0, ac1, ac2⟩ := Fr.cell3 hA5
      obtain ⟨bc0, bc1, bc2, bc3⟩ := Fr.cell4 hB5
      have HL5 : Hid (Below w.heap.size w w5) := hx4.low.trans (hb5.mono hx4.low.size)
      have hso : StOwn w4.heap.size 70 w5 (.agg #[.int .i64 x.kind, .int .i64 x.n, .slice ka x.rows.length kc]) x := ⟨_, rfl, hown⟩
      have hxat5 := (unhide HXAT4).later hb5
      have hop := MC.may_op (unhide HV)
      have hsm : x.rows.length ≤ 1000 := by have := may_small (unhide HMAY); omega
      have hfit := VS.may.fit (unhide HMAY)
      obtain ⟨R, hR⟩ : ∃ R, legal x V ⟨y1, y2, y3⟩ = R := ⟨_, rfl⟩
      obtain ⟨Y, hY⟩ : ∃ Y, apply2 x V ⟨y1, y2, y3⟩ = Y := ⟨_, rfl⟩
      have hYl : Y.rows.length ≤ 1000 := by rw [← hY]; have := apply_len x V ⟨y1, y2, y3⟩; have := may_small (unhide HMAY); omega
      have hmd : ∀ wz, Fr w5 wz → MD wz := fun wz hf => (unhide HMD).later ((unhide HL5).trans (hf.low.mono (unhide HL5).size))
      have HLE : Hid (∀ wz, Fr w5 wz → Calls Tryd.prog 15 #[.agg #[.int .i64 x.kind, .int .i64 x.n, .slice ka x.rows.length kc], .agg #[.int .i64 V.op, .string (S V.a), .string (S V.b), .int .i64 V.n], .agg #[.int .i64 y1, .string (S y2), .int .i64 y3]] wz fun e w' => e = .returned (.bool R) ∧ Below wz.heap.size wz w') := fun wz hf => by rw [← hR]; exact alegal_any (c := V) (hso.at.later hf.low) hsm hop (hmd wz hf) ⟨y1, y2, y3⟩
      have HRL : Hid (∀ wz, Fr w5 wz → Calls Tryd.prog 21 #[.agg #[.int .i64 x.kind, .int .i64 x.n, .slice xa x.rows.length xc], .agg #[.int .i64 V.op, .string (S V.a), .string (S V.b), .int .i64 V.n], .agg #[.int .i64 y1, .string (S y2), .int .i64 y3]] wz fun e w' => e = .returned (.bool R) ∧ Below wz.heap.size wz w') := fun wz hf => by rw [← hR]; exact rlegal_any (c := V) (hxat5.later hf.low) hsm hop ⟨y1, y2, y3⟩
      have HAP : Hid (∀ wz, Fr w5 wz → Calls Tryd.prog 19 #[.agg #[.int .i64 x.kind, .int .i64 x.n, .slice ka x.rows.length kc], .agg #[.int .i64 V.op, .string (S V.a), .string (S V.b), .int .i64 V.n], .agg #[.int .i64 y1, .string (S y2), .int .i64 y3]] wz fun e w' => ∃ v', e = .returned v' ∧ StOwn wz.heap.size 70 w' v' Y ∧ Below wz.heap.size wz w') := fun wz hf => by rw [← hY, ← apply_same hfit]; exact aapply_any (c := V) (hso.later hf.low) hsm hop (hmd wz hf) ⟨y1, y2, y3⟩
      have HRA : Hid (∀ wz, Fr w5 wz → Calls Tryd.prog 20 #[.agg #[.int .i64 x.kind, .int .i64 x.n, .slice xa x.rows.length xc], .agg #[.int .i64 V.op, .string (S V.a), .string (S V.b), .int .i64 V.n], .agg #[.int .i64 y1, .string (S y2), .int .i64 y3]] wz fun e w' => ∃ v', e = .returned v' ∧ StAt w' v' Y ∧ Below wz.heap.size wz w') := fun wz hf => by rw [← hY]; exact rapply_any (c := V) (hxat5.later hf.low) hsm hop (may_b (unhide HV)) hfit ⟨y1, y2, y3⟩
      have HTO := hide (fun (wz : World) (v : Value) (h : StAt wz v Y) => told_any h hYl)
      have HLI : Hid (∀ (wz : World) (va vb : Value), StAt wz va Y → StAt wz vb Y → Calls Tryd.prog 17 #[va, vb] wz fun e w' => e = .returned (.bool true) ∧ Below wz.heap.size wz w') := fun wz va vb h1 h2 => by
        have := like_any h1 h2
        rw [show Y.alike Y = true by simp [VS.alike]] at this
        exact this
      have hst := Fr.start w5
      have hstd := hst.drew
      have hRR : (R == R) = true := by cases R <;> rfl
      clear hX5 hD5 hC5 hA5 hB5 hso hxat5 hop hsm hfit hYl hmd hR hY hown hb5 hqa hqb hqn hx4 c0 c1 c2 k0 k1 k2 k3 r0 r1 r2 e0 HOWN HOWC HAW HMD HCB HX4 HXAT4 HXBOX4 HDBOX4 HMAY HV
      go_wp2_with fail
      go_region_held3 (fun w' => Fr w5 w') (with_reducible (first | exact hstd | exact hst | (refine Fr.below ?_ (by assumption) <;> assumption)))
        (first | (go_at_call 15; refine (unhide HLE _ (by assumption)).mono ?_; rintro e wa ⟨rfl, hba⟩) | (go_at_call 21; refine (unhide HRL _ (by assumption)).mono ?_; rintro e wb ⟨rfl, hbb⟩) | (go_at_call 19; refine (unhide HAP _ (by assumption)).mono ?_; rintro e wc ⟨vc, rfl, hyc, hbc⟩; have HYC := hide hyc.at; obtain ⟨kc', rfl, hoc⟩ := hyc; obtain ⟨ya, yc, rfl, _⟩ := ownsRow_slice hoc; clear hoc) | (go_at_call 18; refine (unhide HTO _ _ (unhide HYC)).mono ?_; rintro e wd ⟨vd, rfl, hyd, hbd⟩; have HYD := hide hyd.at; obtain ⟨kd', rfl, hod⟩ := hyd; obtain ⟨za, zc, rfl, _⟩ := ownsRow_slice hod; clear hod) | (go_at_call 20; refine (unhide HRA _ (by assumption)).mono ?_; rintro e we ⟨ve, rfl, hye, hbe⟩; have HYD2 := hide ((unhide HYD).later hbe); have HYE := hide hye; obtain ⟨ke, rfl, hke⟩ := hye; obtain ⟨ua, uc, rfl, _, _⟩ := hke.shape; clear hke) | (go_at_call 17; refine (unhide HLI _ _ _ (unhide HYD2) (unhide HYE)).mono ?_; rintro e wf ⟨rfl, hbf⟩) | fail)
      have hx6 : Fr w5 wf := by assumption
      have HL6 := hide ((unhide HL5).trans (hx6.low.mono (unhide HL5).size))
      clear hx6 hbf
      go_wp2_with fail
      go_ret
      exact ⟨rfl, unhide HL6⟩
  · have e0 : (MR.check ⟨y1, y2, y3⟩ != 0) = true := by rw [bne_iff_ne]; exact hck
    clear hck
    go_wp2_with fail
    refine (unhide HAW _ (unhide HX4).low).mono ?_
    rintro e w5 ⟨rfl, hb5⟩
    have HL := hide ((unhide HX4).below hb5).low
    clear hb5
    go_wp2_with fail
    go_ret
    exact ⟨rfl, unhide HL⟩
theorem raw_text (t : ByteArray) (h : t.size ≤ maxLen) : ∃ y : List UInt8, t = S y ∧ y.length ≤ maxLen := by
  obtain ⟨a⟩ := t
  exact ⟨a.toList, by simp [S], by rw [Array.length_toList]; exact h⟩
theorem adtLegal_walk {H : Type} {enc : TypeId × Value → H} {base b0 : Nat} {spare : Nat → Bool} {held : Bool} {r : Reach} {v : Value} {d : DataW H} {p : List MemPlace} (w : World)
    (hv : Value.okWide Tryd.prog w r b0 24 v) (hd : DataW.Trod enc Tryd.prog w base spare held 24 v d p) (op : Int) (wop : (Lit.int .i64 op).wf = true) (ca : ByteArray) (wca : ca.size ≤ maxLen) (cb : ByteArray) (wcb : cb.size ≤ maxLen) (cn : Int) (wcn : (Lit.int .i64 cn).wf = true)
    (k : Int) (wk : (Lit.int .i64 k).wf = true) (t : ByteArray) (wt : t.size ≤ maxLen) (m : Int) (wm : (Lit.int .i64 m).wf = true) (hw : MD w) :
    Calls Tryd.prog 4 #[v, .agg #[.int .i64 op, .string ca, .string cb, .int .i64 cn], .agg #[.int .i64 k, .string t, .int .i64 m]] w fun e w' => e = .returned (.bool true) ∧ Below w.heap.size w w' := by
  obtain ⟨s, hs, _, hn, hz⟩ := open_state hv hd
  obtain ⟨y, rfl, hy⟩ := raw_text t wt
  exact tlegal_any hs hn hz op ca cb cn (vwf_i64 wop) (vwf_i64 wcn) wca wcb ⟨k, y, m⟩ hy hw
end Go.Proofs.YtcialbhmmbcgjaaDoor
