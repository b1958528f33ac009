/- Texts that this proof needs, one behind the other: TLegalW, TAnswW, TSteps, TRun, TCalls. -/
import Derived.Test.YtadngcjchlpkaaaDoorBundleT8
import Derived.Test.YtadngcjchlpkaaaDoorTRApply
import Derived.Test.YtadngcjchlpkaaaDoorVLike
import Derived.Test.YtadngcjchlpkaaaDoorMRes
import Derived.Test.YtadngcjchlpkaaaDoorVOpen
import Derived.Test.YtadngcjchlpkaaaDoorBundleT5
import Derived.Test.YtadngcjchlpkaaaDoorAOpen
import Derived.Lib.SmallJoins
/- The walk of AdtLegal. -/
namespace Go.Proofs.YtadngcjchlpkaaaDoor
open Go.RowKit
set_option linter.unusedVariables false
set_option maxRecDepth 100000

/- All of a world is as it was. -/
def Fr (W w' : World) : Prop := Below W.heap.size W w'
theorem Fr.start (W : World) : Fr W W := Below.refl _ _
theorem Fr.drew {W w : World} (h : Fr W w) : Fr W w.drew := Below.drew h
theorem Fr.below {W w w' : World} (h : Fr W w) (hb : Below w.heap.size w w') : Fr W w' := Below.trans h (hb.mono (Below.size h))
theorem Fr.low {W w' : World} (h : Fr W w') : Below W.heap.size W w' := h
theorem Fr.cell3 {W : World} {N : Nat} {a b c : Value} {t : TypeId} (h : W.heap[N]? = some (.cells #[a, b, c] t (0, 0))) : (∀ w1, Fr W w1 → w1.cell? ⟨N, 0, none⟩ = some a) ∧ (∀ w1, Fr W w1 → w1.cell? ⟨N, 1, none⟩ = some b) ∧ (∀ w1, Fr W w1 → w1.cell? ⟨N, 2, none⟩ = some c) := by
  refine ⟨fun w1 hf => ?_, fun w1 hf => ?_, fun w1 hf => ?_⟩ <;> rw [block_cell ((Below.block hf _ (block_lt h)).trans h)] <;> rfl
theorem Fr.cell4 {W : World} {N : Nat} {a b c d : Value} {t : TypeId} (h : W.heap[N]? = some (.cells #[a, b, c, d] t (0, 0))) : (∀ w1, Fr W w1 → w1.cell? ⟨N, 0, none⟩ = some a) ∧ (∀ w1, Fr W w1 → w1.cell? ⟨N, 1, none⟩ = some b) ∧ (∀ w1, Fr W w1 → w1.cell? ⟨N, 2, none⟩ = some c) ∧ (∀ w1, Fr W w1 → w1.cell? ⟨N, 3, none⟩ = some d) := by
  refine ⟨fun w1 hf => ?_, fun w1 hf => ?_, fun w1 hf => ?_, fun w1 hf => ?_⟩ <;> rw [block_cell ((Below.block hf _ (block_lt h)).trans h)] <;> rfl
theorem may_b {V : MC} (h : V.may) : V.op ≠ 11 → V.b = [] := fun hne => by
  have h0 := h.1
  unfold MC.check at h0
  rw [if_neg (by simpa using MC.may_op h)] at h0
  split at h0
  · exact absurd h0 (by decide)
  · rename_i h2
    rcases List.eq_nil_or_concat V.b with e | ⟨x, y, e⟩
    · exact e
    · exact absurd (Or.inr (Or.inl ⟨by rw [e]; simp, by simp [hasB, hne]⟩)) h2
theorem may_small {x : VS} (h : x.may) : x.rows.length ≤ 8 := Nat.le_trans (VS.may_rows h).1 (VS.most_le x)

set_option maxHeartbeats 51200000 in
theorem tlegal_any {w : World} {v : Value} {s : VS} (hs : StAt w v s) (hsn : -9223372036854775808 ≤ s.n ∧ s.n ≤ 9223372036854775807) (hsz : ∀ i (h : i < s.rows.length), (s.rows[i]'h).1.length ≤ maxLen ∧ (s.rows[i]'h).2.length ≤ maxLen)
    (op : Int) (ca cb : ByteArray) (cn : Int) (hop : I64 op) (hn : I64 cn) (hca : ca.size ≤ maxLen) (hcb : cb.size ≤ maxLen) (r : MR) (hrt : r.text.length ≤ maxLen) (hw : MD w) :
    Calls Tryd.prog 4 #[v, .agg #[.int .i64 op, .string ca, .string cb, .int .i64 cn], mrV r] w fun e w' => e = .returned (.bool true) ∧ Below w.heap.size w w' := by
  have HTS := hide (fun (w1 : World) (hb : Below w.heap.size w w1) => tstate_any (hs.later hb) hsn hsz)
  have HOF := hide (fun (w1 : World) (v : Value) (x : VS) (h : StAt w1 v x) => of_any h op ca cb cn hop hn hca hcb)
  have HAW := hide (fun (w1 : World) (hb : Below w.heap.size w w1) => tawake_any (hw.later hb))
  have HCK := hide (fun (w1 : World) => mrcheck_any (w := w1) r hrt)
  have HMD := hide hw
  obtain ⟨k0, rfl, hr⟩ := hs
  obtain ⟨a, c, rfl, hc, hm⟩ := hr.shape
  obtain ⟨y1, y2, y3⟩ := r
  unfold mrV at *
  dsimp only at *
  obtain ⟨A, hA⟩ : ∃ A : Obj, A = .cells #[.int .i64 s.kind, .int .i64 s.n, .slice a s.rows.length c] 24 (0, 0) := ⟨_, rfl⟩
  obtain ⟨B, hB⟩ : ∃ B : Obj, B = .cells #[.int .i64 op, .string ca, .string cb, .int .i64 cn] 27 (0, 0) := ⟨_, rfl⟩
  obtain ⟨C, hC⟩ : ∃ C : Obj, C = .cells #[.int .i64 y1, .string (S y2), .int .i64 y3] 44 (0, 0) := ⟨_, rfl⟩
  obtain ⟨c0, c1, c2, k0, k1, k2, k3, r0, r1, r2⟩ := B3.scr (w := w) hA hB hC
  have HCB := hide hC
  have hst := B3.start w A B C
  clear hr hw hsn hsz hop hn hca hcb hrt
  go_enter Tryd.func4, Tryd.ntmps4
  go_wp2_with fail
  rw [← hA, ← hB, ← hC]
  clear hA hB hC
  refine (unhide HTS _ hst.low).mono ?_
  rintro e w1 ⟨v1, rfl, x, hmay, _, ⟨kx, rfl, hox⟩, hb1⟩
  obtain ⟨xa, xc, rfl, _⟩ := ownsRow_slice hox
  have hx1 := hst.below hb1
  have HMAY := hide hmay
  have hx1b : B3 w A B C (w1.alloc (.cells #[.int .i64 x.kind, .int .i64 x.n, .slice xa x.rows.length xc] 30)) := hx1.below (under_box _)
  have hxat : StAt (w1.alloc (.cells #[.int .i64 x.kind, .int .i64 x.n, .slice xa x.rows.length xc] 30)) (.agg #[.int .i64 x.kind, .int .i64 x.n, .slice xa x.rows.length xc]) x := ⟨_, rfl, Row2.of_own (hox.alloc _)⟩
  have HXAT := hide hxat
  have HXBOX := hide (heap_alloc_new w1 (.cells #[.int .i64 x.kind, .int .i64 x.n, .slice xa x.rows.length xc] 30))
  have HXB := hide hx1b
  clear hmay hox hb1 hx1 hxat hst HTS
  go_wp2_with fail
  refine (unhide HOF _ _ _ (unhide HXAT)).mono ?_
  rintro e w2 ⟨V, rfl, hV, hb2⟩
  have hx2 := (unhide HXB).below hb2
  have hx2b : B3 w A B C (w2.alloc (.cells #[.int .i64 V.op, .string (S V.a), .string (S V.b), .int .i64 V.n] 33)) := hx2.below (under_box _)
  have HXAT2 := hide ((unhide HXAT).later (hb2.trans ((under_box (.cells #[.int .i64 V.op, .string (S V.a), .string (S V.b), .int .i64 V.n] 33)).mono hb2.size)))
  have HXBOX2 := hide (((hb2.trans ((under_box (.cells #[.int .i64 V.op, .string (S V.a), .string (S V.b), .int .i64 V.n] 33)).mono hb2.size)).block w1.heap.size (by simp)).trans (unhide HXBOX))
  have HDBOX := hide (heap_alloc_new w2 (.cells #[.int .i64 V.op, .string (S V.a), .string (S V.b), .int .i64 V.n] 33))
  have HV := hide hV
  have HXB2 := hide hx2b
  clear hV hb2 hx2 hx1b HXAT HXBOX HXB HOF
  unfold mcV
  go_wp2_with fail
  refine (unhide HAW _ (unhide HXB2).low).mono ?_
  rintro e w3 ⟨rfl, hb3⟩
  have hx3 := (unhide HXB2).below hb3
  have HX3 := hide hx3
  have HXAT3 := hide ((unhide HXAT2).later hb3)
  have HXBOX3 := hide ((hb3.block w1.heap.size (block_lt (unhide HXBOX2))).trans (unhide HXBOX2))
  have HDBOX3 := hide ((hb3.block w2.heap.size (block_lt (unhide HDBOX))).trans (unhide HDBOX))
  clear hb3 hx2b HXAT2 HXBOX2 HDBOX HXB2
  go_wp2_with fail
  refine (unhide HCK _).mono ?_
  rintro e w4 ⟨rfl, hb4⟩
  have hx4 := (unhide HX3).below hb4
  have HX4 := hide hx4
  have HXAT4 := hide ((unhide HXAT3).later hb4)
  have HXBOX4 := hide ((hb4.block w1.heap.size (block_lt (unhide HXBOX3))).trans (unhide HXBOX3))
  have HDBOX4 := hide ((hb4.block w2.heap.size (block_lt (unhide HDBOX3))).trans (unhide HDBOX3))
  clear hb4 hx3 HXAT3 HXBOX3 HDBOX3 HX3 HCK
  by_cases hck : MR.check ⟨y1, y2, y3⟩ = 0
  · have e0 : (MR.check ⟨y1, y2, y3⟩ != 0) = false := by rw [hck]; rfl
    clear hck
    go_upto_region 5 with fail
    have HOWN := hide (fun (wz : World) (hb : Below w4.heap.size w4 wz) => own_any ((unhide HXAT4).later hb) (by have := may_small (unhide HMAY); omega))
    have HOWC : Hid (∀ wz : World, Calls Tryd.prog 12 #[.agg #[.int .i64 V.op, .string (S V.a), .string (S V.b), .int .i64 V.n]] wz fun e w' => e = .returned (.agg #[.int .i64 V.op, .string (S V.a), .string (S V.b), .int .i64 V.n]) ∧ Below wz.heap.size wz w') := fun wz => mown_any V
    refine two2_T 24 25 26 27 9 10 (.agg #[.int .i64 x.kind, .int .i64 x.n, .slice xa x.rows.length xc]) (.agg #[.int .i64 V.op, .string (S V.a), .string (S V.b), .int .i64 V.n]) (.int .i64 x.kind) (.int .i64 x.n) (.int .i64 V.op) (.string (S V.a)) (.string (S V.b)) (.int .i64 V.n) 70 24 27 x.rows.length (R9 x.rows) (by kernel_rfl) rfl (fun i hi => ?hlow) (by kernel_rfl) (by kernel_rfl) (by kernel_rfl) (by kernel_rfl) (by kernel_rfl) (by kernel_rfl) ?H0 ?H1 ?H2 ?H3 ?H4 ?H5 ?H6 ?H7 ?hend
    case hlow =>
      have hc : i = 0 ∨ i = 1 ∨ i = 2 ∨ i = 3 ∨ i = 4 ∨ i = 5 ∨ i = 6 ∨ i = 7 := by have : i < 8 := hi; omega
      rcases hc with rfl | rfl | rfl | rfl | rfl | rfl | rfl | rfl <;> decide +kernel
    case H0 =>
      intro x0 x1 x2 x3 x4 x5 wz K hb hK
      obtain ⟨d0, d1, d2, _⟩ := cell3 ((hb.block _ (block_lt (unhide HXBOX4))).trans (unhide HXBOX4))
      simp only [set6, List.setIfInBounds_toArray, List.set_cons_zero, List.set_cons_succ] at hK ⊢
      unfold wpOp
      simp only [List.getElem?_toArray, List.getElem?_cons_zero, Region.wanted, if_true]
      refine .inl ?_
      unfold Oper.wp execOp
      go_simp
      exact hK
    case H1 =>
      intro x1 x2 x3 x4 x5 wz K hb hK
      simp only [set6, List.setIfInBounds_toArray, List.set_cons_zero, List.set_cons_succ] at hK ⊢
      unfold wpOp
      simp only [List.getElem?_toArray, List.getElem?_cons_zero, List.getElem?_cons_succ, Region.wanted, if_true]
      refine .inl ?_
      unfold Oper.wp execOp
      go_simp
      refine (unhide HOWN _ hb).mono ?_
      rintro e w' ⟨v', rfl, ⟨kk, rfl, ho⟩, hb'⟩
      obtain ⟨ka, kc, rfl, _⟩ := ownsRow_slice ho
      exact hK _ ka kc hb' ho
    case H2 =>
      intro x0 x1 x2 x3 x4 x5 wz K hb hK
      obtain ⟨d0, d1, d2, d3, _⟩ := cell4 ((hb.block _ (block_lt (unhide HDBOX4))).trans (unhide HDBOX4))
      simp only [set6, List.setIfInBounds_toArray, List.set_cons_zero, List.set_cons_succ] at hK ⊢
      unfold wpOp
      simp only [List.getElem?_toArray, List.getElem?_cons_zero, List.getElem?_cons_succ, Region.wanted, if_true]
      refine .inl ?_
      unfold Oper.wp execOp
      go_simp
      exact hK
    case H3 =>
      intro x0 x1 x3 x4 x5 wz K hb hK
      simp only [set6, List.setIfInBounds_toArray, List.set_cons_zero, List.set_cons_succ] at hK ⊢
      unfold wpOp
      simp only [List.getElem?_toArray, List.getElem?_cons_zero, List.getElem?_cons_succ, Region.wanted, if_true]
      refine .inl ?_
      unfold Oper.wp execOp
      go_simp
      refine (unhide HOWC _).mono ?_
      rintro e w' ⟨rfl, hb'⟩
      exact hK _ hb'
    case H4 =>
      intro x0 x1 x2 x3 x4 x5 wz K
      refine ⟨.int .i64 0, .int .i64 0, .slice none 0 0, fun hK => ?_⟩
      unfold ptr at hK
      simp only [set6, List.setIfInBounds_toArray, List.set_cons_zero, List.set_cons_succ] at hK ⊢
      unfold wpOp
      simp only [List.getElem?_toArray, List.getElem?_cons_zero, List.getElem?_cons_succ, Region.wanted, if_true]
      refine .inl ?_
      unfold Oper.wp execOp
      go_simp
      exact hK
    case H5 =>
      intro x0 x1 x2 x3 x4 x5 wz K
      refine ⟨.int .i64 0, .string ⟨#[]⟩, .string ⟨#[]⟩, .int .i64 0, fun hK => ?_⟩
      unfold ptr at hK
      simp only [set6, List.setIfInBounds_toArray, List.set_cons_zero, List.set_cons_succ] at hK ⊢
      unfold wpOp
      simp only [List.getElem?_toArray, List.getElem?_cons_zero, List.getElem?_cons_succ, Region.wanted, if_true]
      refine .inl ?_
      unfold Oper.wp execOp
      go_simp
      exact hK
    case H6 =>
      intro x0 x2 x3 x5 wz K q ka kc y1 y2 y3 hq hK
      obtain ⟨d0, d1, d2, fz⟩ := cell3 hq
      unfold ptr put3 at *
      simp only [set6, List.setIfInBounds_toArray, List.set_cons_zero, List.set_cons_succ] at hK ⊢
      unfold wpOp
      simp only [List.getElem?_toArray, List.getElem?_cons_zero, List.getElem?_cons_succ, Region.wanted, if_true]
      refine .inl ?_
      unfold Oper.wp execOp
      go_simp
      exact hK
    case H7 =>
      intro x0 x1 x2 x4 wz K q y1 y2 y3 y4 hq hK
      obtain ⟨d0, d1, d2, d3, fz⟩ := cell4 hq
      unfold ptr put4c put3 at *
      simp only [set6, List.setIfInBounds_toArray, List.set_cons_zero, List.set_cons_succ] at hK ⊢
      unfold wpOp
      simp only [List.getElem?_toArray, List.getElem?_cons_zero, List.getElem?_cons_succ, Region.wanted, if_true]
      refine .inl ?_
      unfold Oper.wp execOp
      go_simp
      exact hK
    case hend =>
      intro w5 qA qB ka kc hb5 hqa hqb hqn hA5 hB5 hown
      unfold ptr
      simp only [set6, List.setIfInBounds_toArray, List.set_cons_zero, List.set_cons_succ]
      have hX5 := (hb5.block _ (block_lt (unhide HXBOX4))).trans (unhide HXBOX4)
      have hD5 := (hb5.block _ (block_lt (unhide HDBOX4))).trans (unhide HDBOX4)
      have hC5 := (hb5.block _ (block_lt hx4.heap.2.2)).trans hx4.heap.2.2
      rw [unhide HCB] at hC5
      obtain ⟨xc0, xc1, xc2⟩ := Fr.cell3 hX5
      obtain ⟨dc0, dc1, dc2, dc3⟩ := Fr.cell4 hD5
      obtain ⟨rc0, rc1, rc2⟩ := Fr.cell3 hC5
      obtain ⟨ac0, ac1, ac2⟩ := Fr.cell3 hA5
      obtain ⟨bc0, bc1, bc2, bc3⟩ := Fr.cell4 hB5
      have HL5 : Hid (Below w.heap.size w w5) := hx4.low.trans (hb5.mono hx4.low.size)
      have hso : StOwn w4.heap.size 70 w5 (.agg #[.int .i64 x.kind, .int .i64 x.n, .slice ka x.rows.length kc]) x := ⟨_, rfl, hown⟩
      have hxat5 := (unhide HXAT4).later hb5
      have hop := MC.may_op (unhide HV)
      have hsm : x.rows.length ≤ 1000 := by have := may_small (unhide HMAY); omega
      have hfit := VS.may.fit (unhide HMAY)
      obtain ⟨R, hR⟩ : ∃ R, legal x V ⟨y1, y2, y3⟩ = R := ⟨_, rfl⟩
      obtain ⟨Y, hY⟩ : ∃ Y, apply2 x V ⟨y1, y2, y3⟩ = Y := ⟨_, rfl⟩
      have hYl : Y.rows.length ≤ 1000 := by rw [← hY]; have := apply_len x V ⟨y1, y2, y3⟩; have := may_small (unhide HMAY); omega
      have hmd : ∀ wz, Fr w5 wz → MD wz := fun wz hf => (unhide HMD).later ((unhide HL5).trans (hf.low.mono (unhide HL5).size))
      have HLE : Hid (∀ wz, Fr w5 wz → Calls Tryd.prog 15 #[.agg #[.int .i64 x.kind, .int .i64 x.n, .slice ka x.rows.length kc], .agg #[.int .i64 V.op, .string (S V.a), .string (S V.b), .int .i64 V.n], .agg #[.int .i64 y1, .string (S y2), .int .i64 y3]] wz fun e w' => e = .returned (.bool R) ∧ Below wz.heap.size wz w') := fun wz hf => by rw [← hR]; exact alegal_any (c := V) (hso.at.later hf.low) hsm hop (hmd wz hf) ⟨y1, y2, y3⟩
      have HRL : Hid (∀ wz, Fr w5 wz → Calls Tryd.prog 21 #[.agg #[.int .i64 x.kind, .int .i64 x.n, .slice xa x.rows.length xc], .agg #[.int .i64 V.op, .string (S V.a), .string (S V.b), .int .i64 V.n], .agg #[.int .i64 y1, .string (S y2), .int .i64 y3]] wz fun e w' => e = .returned (.bool R) ∧ Below wz.heap.size wz w') := fun wz hf => by rw [← hR]; exact rlegal_any (c := V) (hxat5.later hf.low) hsm hop ⟨y1, y2, y3⟩
      have HAP : Hid (∀ wz, Fr w5 wz → Calls Tryd.prog 19 #[.agg #[.int .i64 x.kind, .int .i64 x.n, .slice ka x.rows.length kc], .agg #[.int .i64 V.op, .string (S V.a), .string (S V.b), .int .i64 V.n], .agg #[.int .i64 y1, .string (S y2), .int .i64 y3]] wz fun e w' => ∃ v', e = .returned v' ∧ StOwn wz.heap.size 70 w' v' Y ∧ Below wz.heap.size wz w') := fun wz hf => by rw [← hY, ← apply_same hfit]; exact aapply_any (c := V) (hso.later hf.low) hsm hop (hmd wz hf) ⟨y1, y2, y3⟩
      have HRA : Hid (∀ wz, Fr w5 wz → Calls Tryd.prog 20 #[.agg #[.int .i64 x.kind, .int .i64 x.n, .slice xa x.rows.length xc], .agg #[.int .i64 V.op, .string (S V.a), .string (S V.b), .int .i64 V.n], .agg #[.int .i64 y1, .string (S y2), .int .i64 y3]] wz fun e w' => ∃ v', e = .returned v' ∧ StAt w' v' Y ∧ Below wz.heap.size wz w') := fun wz hf => by rw [← hY]; exact rapply_any (c := V) (hxat5.later hf.low) hsm hop (may_b (unhide HV)) hfit ⟨y1, y2, y3⟩
      have HTO := hide (fun (wz : World) (v : Value) (h : StAt wz v Y) => told_any h hYl)
      have HLI : Hid (∀ (wz : World) (va vb : Value), StAt wz va Y → StAt wz vb Y → Calls Tryd.prog 17 #[va, vb] wz fun e w' => e = .returned (.bool true) ∧ Below wz.heap.size wz w') := fun wz va vb h1 h2 => by
        have := like_any h1 h2
        rw [show Y.alike Y = true by simp [VS.alike]] at this
        exact this
      have hst := Fr.start w5
      have hstd := hst.drew
      have hRR : (R == R) = true := by cases R <;> rfl
      clear hX5 hD5 hC5 hA5 hB5 hso hxat5 hop hsm hfit hYl hmd hR hY hown hb5 hqa hqb hqn hx4 c0 c1 c2 k0 k1 k2 k3 r0 r1 r2 e0 HOWN HOWC HAW HMD HCB HX4 HXAT4 HXBOX4 HDBOX4 HMAY HV
      go_wp2_with fail
      go_region_held3 (fun w' => Fr w5 w') (with_reducible (first | exact hstd | exact hst | (refine Fr.below ?_ (by assumption) <;> assumption)))
        (first | (go_at_call 15; refine (unhide HLE _ (by assumption)).mono ?_; rintro e wa ⟨rfl, hba⟩) | (go_at_call 21; refine (unhide HRL _ (by assumption)).mono ?_; rintro e wb ⟨rfl, hbb⟩) | (go_at_call 19; refine (unhide HAP _ (by assumption)).mono ?_; rintro e wc ⟨vc, rfl, hyc, hbc⟩; have HYC := hide hyc.at; obtain ⟨kc', rfl, hoc⟩ := hyc; obtain ⟨ya, yc, rfl, _⟩ := ownsRow_slice hoc; clear hoc) | (go_at_call 18; refine (unhide HTO _ _ (unhide HYC)).mono ?_; rintro e wd ⟨vd, rfl, hyd, hbd⟩; have HYD := hide hyd.at; obtain ⟨kd', rfl, hod⟩ := hyd; obtain ⟨za, zc, rfl, _⟩ := ownsRow_slice hod; clear hod) | (go_at_call 20; refine (unhide HRA _ (by assumption)).mono ?_; rintro e we ⟨ve, rfl, hye, hbe⟩; have HYD2 := hide ((unhide HYD).later hbe); have HYE := hide hye; obtain ⟨ke, rfl, hke⟩ := hye; obtain ⟨ua, uc, rfl, _, _⟩ := hke.shape; clear hke) | (go_at_call 17; refine (unhide HLI _ _ _ (unhide HYD2) (unhide HYE)).mono ?_; rintro e wf ⟨rfl, hbf⟩) | fail)
      have hx6 : Fr w5 wf := by assumption
      have HL6 := hide ((unhide HL5).trans (hx6.low.mono (unhide HL5).size))
      clear hx6 hbf
      go_wp2_with fail
      go_ret
      exact ⟨rfl, unhide HL6⟩
  · have e0 : (MR.check ⟨y1, y2, y3⟩ != 0) = true := by rw [bne_iff_ne]; exact hck
    clear hck
    go_wp2_with fail
    refine (unhide HAW _ (unhide HX4).low).mono ?_
    rintro e w5 ⟨rfl, hb5⟩
    have HL := hide ((unhide HX4).below hb5).low
    clear hb5
    go_wp2_with fail
    go_ret
    exact ⟨rfl, unhide HL⟩
theorem raw_text (t : ByteArray) (h : t.size ≤ maxLen) : ∃ y : List UInt8, t = S y ∧ y.length ≤ maxLen := by
  obtain ⟨a⟩ := t
  exact ⟨a.toList, by simp [S], by rw [Array.length_toList]; exact h⟩
theorem adtLegal_walk {H : Type} {enc : TypeId × Value → H} {base b0 : Nat} {spare : Nat → Bool} {held : Bool} {r : Reach} {v : Value} {d : DataW H} {p : List MemPlace} (w : World)
    (hv : Value.okWide Tryd.prog w r b0 24 v) (hd : DataW.Trod enc Tryd.prog w base spare held 24 v d p) (op : Int) (wop : (Lit.int .i64 op).wf = true) (ca : ByteArray) (wca : ca.size ≤ maxLen) (cb : ByteArray) (wcb : cb.size ≤ maxLen) (cn : Int) (wcn : (Lit.int .i64 cn).wf = true)
    (k : Int) (wk : (Lit.int .i64 k).wf = true) (t : ByteArray) (wt : t.size ≤ maxLen) (m : Int) (wm : (Lit.int .i64 m).wf = true) (hw : MD w) :
    Calls Tryd.prog 4 #[v, .agg #[.int .i64 op, .string ca, .string cb, .int .i64 cn], .agg #[.int .i64 k, .string t, .int .i64 m]] w fun e w' => e = .returned (.bool true) ∧ Below w.heap.size w w' := by
  obtain ⟨s, hs, _, hn, hz⟩ := open_state hv hd
  obtain ⟨y, rfl, hy⟩ := raw_text t wt
  exact tlegal_any hs hn hz op ca cb cn (vwf_i64 wop) (vwf_i64 wcn) wca wcb ⟨k, y, m⟩ hy hw
end Go.Proofs.YtadngcjchlpkaaaDoor
/- The walk of AdtAnswers. -/
namespace Go.Proofs.YtadngcjchlpkaaaDoor
open Go.RowKit
set_option linter.unusedVariables false
set_option maxRecDepth 100000

theorem Fr.one {W : World} {p : Addr} {v : Value} (hp : p.block < W.heap.size) (h : W.cell? p = some v) : ∀ w1, Fr W w1 → w1.cell? p = some v := fun w1 hf => (Below.cell hf hp).trans h
theorem cellsB {w : World} {N : Nat} {a b c d : Value} {t : TypeId} (h : w.heap[N]? = some (.cells #[a, b, c, d] t (0, 0))) : w.cell? ⟨N, 0, none⟩ = some a ∧ w.cell? ⟨N, 1, none⟩ = some b ∧ w.cell? ⟨N, 2, none⟩ = some c ∧ w.cell? ⟨N, 3, none⟩ = some d := by
  refine ⟨?_, ?_, ?_, ?_⟩ <;> rw [block_cell h] <;> rfl
theorem below_put4c {B : Nat} {w w' : World} (h : Below B w w') {N : Nat} (hN : B ≤ N) (a b c d : Value) : Below B w (put4c w' N a b c d) :=
  ⟨h.os, h.tape, h.output, by rw [put4c_size]; exact h.size, fun j hj => by rw [put4c_other _ _ _ _ _ (by omega)]; exact h.block j hj⟩
theorem check_len {r : MR} (h : r.check = 0) : r.text.length ≤ 24 := by
  unfold MR.check at h
  split at h
  · cases h
  · split at h
    · cases h
    · omega
theorem check_of {r : MR} (h1 : r.code = 1 ∨ r.code = 2) (h2 : r.text.length ≤ 24) (h3 : r.text = [] ∨ r.n = 0) : r.check = 0 := by
  unfold MR.check
  rw [if_neg (by omega), if_neg (by omega), if_neg]
  rintro ⟨a, b⟩
  rcases h3 with h3 | h3
  · exact a h3
  · exact b h3
theorem may_key {x : VS} (h : x.may) (k : Nat) : (x.key k).length ≤ 24 ∧ (x.val k).length ≤ 24 := by
  unfold VS.key VS.val
  by_cases hk : k < x.rows.length
  · have := VS.may_len h k hk
    simpa [List.getD, hk] using this
  · simp [List.getD, List.getElem?_eq_none (Nat.le_of_not_lt hk)]
theorem okR_check (b : Bool) : (okR b).check = 0 := by cases b <;> decide
theorem tk_check {x : VS} (h : x.may) : ∀ k r, r ∈ tk x k → r.check = 0
  | 0, r, hr => by cases hr
  | k + 1, r, hr => by
    unfold tk at hr
    rcases List.mem_append.mp hr with hr | hr
    · exact tk_check h k r hr
    · split at hr
      · simp only [List.mem_singleton] at hr
        subst hr
        exact check_of (Or.inl rfl) (may_key h k).1 (Or.inr rfl)
      · cases hr
theorem answers_check {x : VS} {c : MC} {r : MR} (h : x.may) (hr : r ∈ answers x c) : r.check = 0 := by
  unfold answers at hr
  split at hr
  · cases hr
  split at hr
  · simp only [List.mem_singleton] at hr; subst hr; exact check_of (Or.inl rfl) (may_key h 0).1 (Or.inr rfl)
  split at hr
  · simp only [List.mem_singleton] at hr; subst hr; exact check_of (Or.inl rfl) (by simp) (Or.inl rfl)
  split at hr
  · simp only [List.mem_singleton] at hr; subst hr; exact okR_check _
  split at hr
  · simp only [List.mem_singleton] at hr; subst hr; exact okR_check _
  split at hr
  · simp only [List.mem_singleton] at hr; subst hr; exact okR_check _
  split at hr
  · simp only [List.mem_singleton] at hr; subst hr
    unfold lookR
    split
    · exact check_of (Or.inl rfl) (may_key h _).2 (Or.inr rfl)
    · exact okR_check _
  split at hr
  · simp only [List.mem_singleton] at hr; subst hr
    unfold frontR
    split
    · exact okR_check _
    · exact check_of (Or.inl rfl) (may_key h 0).1 (Or.inr rfl)
  split at hr
  · unfold takes at hr
    split at hr
    · simp only [List.mem_singleton] at hr; subst hr; exact okR_check _
    · exact tk_check h _ r hr
  · simp only [List.mem_singleton] at hr; subst hr; exact okR_check _
theorem like_same {w : World} {va vb : Value} {s : VS} (ha : StAt w va s) (hb : StAt w vb s) : Calls Tryd.prog 17 #[va, vb] w fun e w' => e = .returned (.bool true) ∧ Below w.heap.size w w' := by
  have := like_any ha hb
  rw [show s.alike s = true by simp [VS.alike]] at this
  exact this

set_option maxHeartbeats 102400000 in
theorem tansw_no {w : World} {v : Value} {s : VS} (hs : StAt w v s) (hsn : -9223372036854775808 ≤ s.n ∧ s.n ≤ 9223372036854775807) (hsz : ∀ i (h : i < s.rows.length), (s.rows[i]'h).1.length ≤ maxLen ∧ (s.rows[i]'h).2.length ≤ maxLen)
    (op : Int) (ca cb : ByteArray) (cn : Int) (hop : I64 op) (hn : I64 cn) (hca : ca.size ≤ maxLen) (hcb : cb.size ≤ maxLen) (hw : MD w) :
    Calls Tryd.prog 3 #[v, .agg #[.int .i64 op, .string ca, .string cb, .int .i64 cn], .bool false] w fun e w' => e = .returned (.bool true) ∧ Below w.heap.size w w' := by
  have HTS := hide (fun (w1 : World) (hb : Below w.heap.size w w1) => tstate_any (hs.later hb) hsn hsz)
  have HTI := hide (fun (w1 : World) => mtidy_any (w := w1) op ca cb cn hop hn hca hcb)
  have HOF := hide (fun (w1 : World) (v : Value) (x : VS) (h : StAt w1 v x) => of_any h op ca cb cn hop hn hca hcb)
  have HAW := hide (fun (w1 : World) (hb : Below w.heap.size w w1) => tawake_any (hw.later hb))
  have HMD := hide hw
  obtain ⟨k0, rfl, hr⟩ := hs
  obtain ⟨a, c, rfl, hc, hm⟩ := hr.shape
  have hst := B2.start w (.cells #[.int .i64 s.kind, .int .i64 s.n, .slice a s.rows.length c] 24) (.cells #[.int .i64 op, .string ca, .string cb, .int .i64 cn] 27)
  clear hr hw hsn hsz hop hn hca hcb
  go_enter Tryd.func3, Tryd.ntmps3
  go_wp2_with fail
  refine (unhide HTS _ hst.low).mono ?_
  rintro e w1 ⟨v1, rfl, x, hmay, _, ⟨kx, rfl, hox⟩, hb1⟩
  obtain ⟨xa, xc, rfl, _⟩ := ownsRow_slice hox
  have hx1 := hst.on hb1
  have HMAY := hide hmay
  have HXB := hide (hx1.on (under_box (.cells #[.int .i64 x.kind, .int .i64 x.n, .slice xa x.rows.length xc] 30)))
  have HXAT : Hid (StAt (w1.alloc (.cells #[.int .i64 x.kind, .int .i64 x.n, .slice xa x.rows.length xc] 30)) (.agg #[.int .i64 x.kind, .int .i64 x.n, .slice xa x.rows.length xc]) x) := ⟨_, rfl, Row2.of_own (hox.alloc _)⟩
  have HXBOX := hide (heap_alloc_new w1 (.cells #[.int .i64 x.kind, .int .i64 x.n, .slice xa x.rows.length xc] 30))
  obtain ⟨k0, k1, k2, k3⟩ := cellsB (unhide HXB).heap.2
  clear hmay hox hb1 hx1 hst HTS
  go_wp2_with fail
  refine (unhide HTI _).mono ?_
  rintro e w2 ⟨V, rfl, hV0, hb2⟩
  unfold mcV
  have HV := hide hV0
  have hbw := hb2.trans ((under_box (.cells #[.int .i64 V.op, .string (S V.a), .string (S V.b), .int .i64 V.n] 33)).mono hb2.size)
  have HLW := hide ((unhide HXB).on hbw).low
  have HXAT2 := hide ((unhide HXAT).later hbw)
  have HXBOX2 := hide ((hbw.block w1.heap.size (by simp)).trans (unhide HXBOX))
  have HDBOX2 := hide (heap_alloc_new w2 (.cells #[.int .i64 V.op, .string (S V.a), .string (S V.b), .int .i64 V.n] 33))
  clear hV0 hb2 hbw HXAT HXBOX HXB k0 k1 k2 k3
  go_wp2_with fail
  refine (unhide HAW _ (unhide HLW)).mono ?_
  rintro e w4 ⟨rfl, hb4⟩
  have HXAT4 := hide ((unhide HXAT2).later hb4)
  have HXBOX4 := hide ((hb4.block w1.heap.size (block_lt (unhide HXBOX2))).trans (unhide HXBOX2))
  have HDBOX4 := hide ((hb4.block w2.heap.size (block_lt (unhide HDBOX2))).trans (unhide HDBOX2))
  have HL4 := hide ((unhide HLW).trans (hb4.mono (unhide HLW).size))
  clear hb4 HXAT2 HXBOX2 HDBOX2 HLW HAW
  go_upto_region 7 with fail
  have HOWN := hide (fun (wz : World) (hb : Below w4.heap.size w4 wz) => own_any ((unhide HXAT4).later hb) (by have := may_small (unhide HMAY); omega))
  have HOWC : Hid (∀ wz : World, Calls Tryd.prog 12 #[.agg #[.int .i64 V.op, .string (S V.a), .string (S V.b), .int .i64 V.n]] wz fun e w' => e = .returned (.agg #[.int .i64 V.op, .string (S V.a), .string (S V.b), .int .i64 V.n]) ∧ Below wz.heap.size wz w') := fun wz => mown_any V
  refine two2_T 25 26 27 28 9 10 (.agg #[.int .i64 x.kind, .int .i64 x.n, .slice xa x.rows.length xc]) (.agg #[.int .i64 V.op, .string (S V.a), .string (S V.b), .int .i64 V.n]) (.int .i64 x.kind) (.int .i64 x.n) (.int .i64 V.op) (.string (S V.a)) (.string (S V.b)) (.int .i64 V.n) 70 24 27 x.rows.length (R9 x.rows) (by kernel_rfl) rfl (fun i hi => ?hlow) (by kernel_rfl) (by kernel_rfl) (by kernel_rfl) (by kernel_rfl) (by kernel_rfl) (by kernel_rfl) ?H0 ?H1 ?H2 ?H3 ?H4 ?H5 ?H6 ?H7 ?hend
  case hlow =>
    have hc : i = 0 ∨ i = 1 ∨ i = 2 ∨ i = 3 ∨ i = 4 ∨ i = 5 ∨ i = 6 ∨ i = 7 := by have : i < 8 := hi; omega
    rcases hc with rfl | rfl | rfl | rfl | rfl | rfl | rfl | rfl <;> decide +kernel
  case H0 =>
    intro x0 x1 x2 x3 x4 x5 wz K hb hK
    obtain ⟨d0, d1, d2, _⟩ := cell3 ((hb.block _ (block_lt (unhide HXBOX4))).trans (unhide HXBOX4))
    simp only [set6, List.setIfInBounds_toArray, List.set_cons_zero, List.set_cons_succ] at hK ⊢
    unfold wpOp
    simp only [List.getElem?_toArray, List.getElem?_cons_zero, Region.wanted, if_true]
    refine .inl ?_
    unfold Oper.wp execOp
    go_simp
    exact hK
  case H1 =>
    intro x1 x2 x3 x4 x5 wz K hb hK
    simp only [set6, List.setIfInBounds_toArray, List.set_cons_zero, List.set_cons_succ] at hK ⊢
    unfold wpOp
    simp only [List.getElem?_toArray, List.getElem?_cons_zero, List.getElem?_cons_succ, Region.wanted, if_true]
    refine .inl ?_
    unfold Oper.wp execOp
    go_simp
    refine (unhide HOWN _ hb).mono ?_
    rintro e w' ⟨v', rfl, ⟨kk, rfl, ho⟩, hb'⟩
    obtain ⟨ka, kc, rfl, _⟩ := ownsRow_slice ho
    exact hK _ ka kc hb' ho
  case H2 =>
    intro x0 x1 x2 x3 x4 x5 wz K hb hK
    obtain ⟨d0, d1, d2, d3, _⟩ := cell4 ((hb.block _ (block_lt (unhide HDBOX4))).trans (unhide HDBOX4))
    simp only [set6, List.setIfInBounds_toArray, List.set_cons_zero, List.set_cons_succ] at hK ⊢
    unfold wpOp
    simp only [List.getElem?_toArray, List.getElem?_cons_zero, List.getElem?_cons_succ, Region.wanted, if_true]
    refine .inl ?_
    unfold Oper.wp execOp
    go_simp
    exact hK
  case H3 =>
    intro x0 x1 x3 x4 x5 wz K hb hK
    simp only [set6, List.setIfInBounds_toArray, List.set_cons_zero, List.set_cons_succ] at hK ⊢
    unfold wpOp
    simp only [List.getElem?_toArray, List.getElem?_cons_zero, List.getElem?_cons_succ, Region.wanted, if_true]
    refine .inl ?_
    unfold Oper.wp execOp
    go_simp
    refine (unhide HOWC _).mono ?_
    rintro e w' ⟨rfl, hb'⟩
    exact hK _ hb'
  case H4 =>
    intro x0 x1 x2 x3 x4 x5 wz K
    refine ⟨.int .i64 0, .int .i64 0, .slice none 0 0, fun hK => ?_⟩
    unfold ptr at hK
    simp only [set6, List.setIfInBounds_toArray, List.set_cons_zero, List.set_cons_succ] at hK ⊢
    unfold wpOp
    simp only [List.getElem?_toArray, List.getElem?_cons_zero, List.getElem?_cons_succ, Region.wanted, if_true]
    refine .inl ?_
    unfold Oper.wp execOp
    go_simp
    exact hK
  case H5 =>
    intro x0 x1 x2 x3 x4 x5 wz K
    refine ⟨.int .i64 0, .string ⟨#[]⟩, .string ⟨#[]⟩, .int .i64 0, fun hK => ?_⟩
    unfold ptr at hK
    simp only [set6, List.setIfInBounds_toArray, List.set_cons_zero, List.set_cons_succ] at hK ⊢
    unfold wpOp
    simp only [List.getElem?_toArray, List.getElem?_cons_zero, List.getElem?_cons_succ, Region.wanted, if_true]
    refine .inl ?_
    unfold Oper.wp execOp
    go_simp
    exact hK
  case H6 =>
    intro x0 x2 x3 x5 wz K q ka kc y1 y2 y3 hq hK
    obtain ⟨d0, d1, d2, fz⟩ := cell3 hq
    unfold ptr put3 at *
    simp only [set6, List.setIfInBounds_toArray, List.set_cons_zero, List.set_cons_succ] at hK ⊢
    unfold wpOp
    simp only [List.getElem?_toArray, List.getElem?_cons_zero, List.getElem?_cons_succ, Region.wanted, if_true]
    refine .inl ?_
    unfold Oper.wp execOp
    go_simp
    exact hK
  case H7 =>
    intro x0 x1 x2 x4 wz K q y1 y2 y3 y4 hq hK
    obtain ⟨d0, d1, d2, d3, fz⟩ := cell4 hq
    unfold ptr put4c put3 at *
    simp only [set6, List.setIfInBounds_toArray, List.set_cons_zero, List.set_cons_succ] at hK ⊢
    unfold wpOp
    simp only [List.getElem?_toArray, List.getElem?_cons_zero, List.getElem?_cons_succ, Region.wanted, if_true]
    refine .inl ?_
    unfold Oper.wp execOp
    go_simp
    exact hK
  case hend =>
    intro w5 qA qB ka kc hb5 hqa hqb hqn hA5 hB5 hown
    unfold ptr
    simp only [set6, List.setIfInBounds_toArray, List.set_cons_zero, List.set_cons_succ]
    have hX5 := (hb5.block _ (block_lt (unhide HXBOX4))).trans (unhide HXBOX4)
    have hD5 := (hb5.block _ (block_lt (unhide HDBOX4))).trans (unhide HDBOX4)
    obtain ⟨xc0, xc1, xc2⟩ := Fr.cell3 hX5
    obtain ⟨dc0, dc1, dc2, dc3⟩ := Fr.cell4 hD5
    obtain ⟨ac0, ac1, ac2⟩ := Fr.cell3 hA5
    obtain ⟨bc0, bc1, bc2, bc3⟩ := Fr.cell4 hB5
    have HX5 := hide hX5
    have HD5 := hide hD5
    have HA5 := hide hA5
    have HB5 := hide hB5
    have HL5 : Hid (Below w.heap.size w w5) := (unhide HL4).trans (hb5.mono (unhide HL4).size)
    have HSO5 : Hid (StOwn w4.heap.size 70 w5 (.agg #[.int .i64 x.kind, .int .i64 x.n, .slice ka x.rows.length kc]) x) := ⟨_, rfl, hown⟩
    have HXAT5 := hide ((unhide HXAT4).later hb5)
    have hop := MC.may_op (unhide HV)
    have hsm : x.rows.length ≤ 1000 := by have := may_small (unhide HMAY); omega
    obtain ⟨l, hl⟩ : ∃ l, answers x V = l := ⟨_, rfl⟩
    have HLA := hide hl
    have HCH7 : Hid (∀ r, r ∈ l → MR.check r = 0) := fun r hr => answers_check (unhide HMAY) (by rw [hl]; exact hr)
    have hmd : ∀ wz, Fr w5 wz → MD wz := fun wz hf => (unhide HMD).later ((unhide HL5).trans (hf.low.mono (unhide HL5).size))
    have HAN : Hid (∀ wz, Fr w5 wz → Calls Tryd.prog 13 #[.agg #[.int .i64 x.kind, .int .i64 x.n, .slice ka x.rows.length kc], .agg #[.int .i64 V.op, .string (S V.a), .string (S V.b), .int .i64 V.n]] wz fun e w' => ∃ v', e = .returned v' ∧ Row3 w' v' l ∧ Below wz.heap.size wz w') := fun wz hf => by rw [← hl]; exact aanswers_any (c := V) ((unhide HSO5).at.later hf.low) hsm hop (hmd wz hf)
    have HRN : Hid (∀ wz, Fr w5 wz → Calls Tryd.prog 14 #[.agg #[.int .i64 x.kind, .int .i64 x.n, .slice xa x.rows.length xc], .agg #[.int .i64 V.op, .string (S V.a), .string (S V.b), .int .i64 V.n]] wz fun e w' => ∃ v', e = .returned v' ∧ Row3 w' v' l ∧ Below wz.heap.size wz w') := fun wz hf => by rw [← hl]; exact ranswers_any (c := V) ((unhide HXAT5).later hf.low) hsm hop
    have hst := Fr.start w5
    have hstd := hst.drew
    clear hX5 hD5 hA5 hB5 hop hsm hmd hl hown hb5 hqa hqb hqn HOWN HOWC HXAT4 HXBOX4 HDBOX4 HL4
    go_wp2_with fail
    go_region_held3 (fun w' => Fr w5 w') (with_reducible (first | exact hstd | exact hst | (refine Fr.below ?_ (by assumption) <;> assumption)))
      (first | (go_at_call 13; refine (unhide HAN _ (by assumption)).mono ?_; rintro e wa ⟨va, rfl, hra, hba⟩; obtain ⟨sa, sc, rfl, _, _⟩ := hra.shape; have HRA0 := hide hra; clear hra) | (go_at_call 14; refine (unhide HRN _ (by assumption)).mono ?_; rintro e w7 ⟨vb, rfl, hrb, hbb⟩; obtain ⟨ta, tc, rfl, _, _⟩ := hrb.shape; have HRW7 := hide hrb; have HRL7 := hide ((unhide HRA0).later hbb); clear hrb HRA0) | fail)
    have h7 : Fr w5 w7 := by assumption
    have HX7 := hide ((h7.low.block _ (block_lt (unhide HX5))).trans (unhide HX5))
    have HD7 := hide ((h7.low.block _ (block_lt (unhide HD5))).trans (unhide HD5))
    have HA7 := hide ((h7.low.block _ (block_lt (unhide HA5))).trans (unhide HA5))
    have HB7 := hide ((h7.low.block _ (block_lt (unhide HB5))).trans (unhide HB5))
    have HL7 := hide ((unhide HL5).trans (h7.low.mono (unhide HL5).size))
    have HSO7 := hide ((unhide HSO5).later h7.low)
    have HXAT7 := hide ((unhide HXAT5).later h7.low)
    have hll : ((l.length : Nat) : Int) ≤ 9223372036854775807 := by
      obtain ⟨_, _, e, h1, h2, _⟩ := (unhide HRL7)
      unfold maxLen at h2
      omega
    clear h7 hst hstd hba hbb HAN HRN HX5 HD5 HA5 HB5 HL5 HSO5 HXAT5 xc0 xc1 xc2 dc0 dc1 dc2 dc3 ac0 ac1 ac2 bc0 bc1 bc2 bc3
    go_wp2_with fail
    go_loopw [42] (fun i wr => ∃ k : Nat, k ≤ l.length ∧ i = .int .i64 (k : Int) ∧ Fr w7 wr) (fun i _ => l.length - (intOf i).toNat)
    case atStart => exact ⟨0, Nat.zero_le _, rfl, Fr.start _⟩
    case round =>
      obtain ⟨k, hk, rfl, hfr⟩ := hrel
      by_cases hlt : k < l.length
      · obtain ⟨bl, ol, rfl, hbl, e1, e2, e3⟩ := (unhide HRL7).at k hlt
        obtain ⟨bw, ow, rfl, hbw, g1, g2, g3⟩ := (unhide HRW7).at k hlt
        have HIN := hide (List.getElem_mem hlt)
        have HCHK := hide (unhide HCH7 _ (List.getElem_mem hlt))
        rw [← (Fr.low hfr).cell (p := ⟨bl, ol + k * 3, none⟩) hbl] at e1
        rw [← (Fr.low hfr).cell (p := ⟨bl, ol + k * 3 + 1, none⟩) hbl] at e2
        rw [← (Fr.low hfr).cell (p := ⟨bl, ol + k * 3 + 2, none⟩) hbl] at e3
        rw [← (Fr.low hfr).cell (p := ⟨bw, ow + k * 3, none⟩) hbw] at g1
        rw [← (Fr.low hfr).cell (p := ⟨bw, ow + k * 3 + 1, none⟩) hbw] at g2
        rw [← (Fr.low hfr).cell (p := ⟨bw, ow + k * 3 + 2, none⟩) hbw] at g3
        generalize l[k]'hlt = q at *
        obtain ⟨y1, y2, y3⟩ := q
        dsimp only at *
        have hi0 : (0 : Int) ≤ (k : Int) := by omega
        have hi1 : (k : Int) < ((l.length : Nat) : Int) := by omega
        have hne : wr.heap.size ≠ bl := by have := (Fr.low hfr).size; omega
        obtain ⟨C, hC⟩ : ∃ C : Obj, C = .cells #[.int .i64 y1, .string (S y2), .int .i64 y3] 44 (0, 0) := ⟨_, rfl⟩
        obtain ⟨W8, hW8⟩ : ∃ W8, wr.alloc C = W8 := ⟨_, rfl⟩
        have hb8 : Below wr.heap.size wr W8 := by rw [← hW8]; exact under_box _
        have hf8 : Below w7.heap.size w7 W8 := (Fr.low hfr).trans (hb8.mono (Fr.low hfr).size)
        have hc8 : W8.heap[wr.heap.size]? = some (.cells #[.int .i64 y1, .string (S y2), .int .i64 y3] 44 (0, 0)) := by rw [← hW8, ← hC]; exact heap_alloc_new wr C
        obtain ⟨rc0, rc1, rc2⟩ := Fr.cell3 hc8
        obtain ⟨xc0, xc1, xc2⟩ := Fr.cell3 ((hf8.block _ (block_lt (unhide HX7))).trans (unhide HX7))
        obtain ⟨dc0, dc1, dc2, dc3⟩ := Fr.cell4 ((hf8.block _ (block_lt (unhide HD7))).trans (unhide HD7))
        obtain ⟨ac0, ac1, ac2⟩ := Fr.cell3 ((hf8.block _ (block_lt (unhide HA7))).trans (unhide HA7))
        obtain ⟨bc0, bc1, bc2, bc3⟩ := Fr.cell4 ((hf8.block _ (block_lt (unhide HB7))).trans (unhide HB7))
        have hbwr : bw < wr.heap.size := by have := (Fr.low hfr).size; omega
        have wc0 := Fr.one (W := W8) (p := ⟨bw, ow + k * 3, none⟩) (by have := hb8.size; show bw < _; omega) ((hb8.cell (p := ⟨bw, ow + k * 3, none⟩) hbwr).trans g1)
        have wc1 := Fr.one (W := W8) (p := ⟨bw, ow + k * 3 + 1, none⟩) (by have := hb8.size; show bw < _; omega) ((hb8.cell (p := ⟨bw, ow + k * 3 + 1, none⟩) hbwr).trans g2)
        have wc2 := Fr.one (W := W8) (p := ⟨bw, ow + k * 3 + 2, none⟩) (by have := hb8.size; show bw < _; omega) ((hb8.cell (p := ⟨bw, ow + k * 3 + 2, none⟩) hbwr).trans g3)
        have HF8 := hide hf8
        have hop := MC.may_op (unhide HV)
        have hsm : x.rows.length ≤ 1000 := by have := may_small (unhide HMAY); omega
        have hfit := VS.may.fit (unhide HMAY)
        have hso8 := (unhide HSO7).later hf8
        have hxat8 := (unhide HXAT7).later hf8
        have hchk : MR.check ⟨y1, y2, y3⟩ = 0 := unhide HCHK
        have hyl : y2.length ≤ maxLen := Nat.le_trans (check_len hchk) (by unfold maxLen; decide)
        have hlg : legal x V ⟨y1, y2, y3⟩ = true := by unfold legal; have := unhide HIN; rw [← unhide HLA] at this; exact decide_eq_true this
        obtain ⟨Y, hY⟩ : ∃ Y, apply2 x V ⟨y1, y2, y3⟩ = Y := ⟨_, rfl⟩
        have hYl : Y.rows.length ≤ 1000 := by rw [← hY]; have := apply_len x V ⟨y1, y2, y3⟩; have := may_small (unhide HMAY); omega
        have hL8 : Below w.heap.size w W8 := (unhide HL7).trans (hf8.mono (unhide HL7).size)
        have hmd : ∀ wz, Fr W8 wz → MD wz := fun wz hf => (unhide HMD).later (hL8.trans (hf.low.mono hL8.size))
        have HLE : Hid (∀ wz, Fr W8 wz → Calls Tryd.prog 15 #[.agg #[.int .i64 x.kind, .int .i64 x.n, .slice ka x.rows.length kc], .agg #[.int .i64 V.op, .string (S V.a), .string (S V.b), .int .i64 V.n], .agg #[.int .i64 y1, .string (S y2), .int .i64 y3]] wz fun e w' => e = .returned (.bool true) ∧ Below wz.heap.size wz w') := fun wz hf => by rw [← hlg]; exact alegal_any (c := V) (hso8.at.later hf.low) hsm hop (hmd wz hf) ⟨y1, y2, y3⟩
        have HCK : Hid (∀ wz, Calls Tryd.prog 16 #[.agg #[.int .i64 y1, .string (S y2), .int .i64 y3]] wz fun e w' => e = .returned (.int .i64 0) ∧ Below wz.heap.size wz w') := fun wz => by rw [← hchk]; exact mrcheck_any ⟨y1, y2, y3⟩ hyl
        have HAP : Hid (∀ wz, Fr W8 wz → Calls Tryd.prog 19 #[.agg #[.int .i64 x.kind, .int .i64 x.n, .slice ka x.rows.length kc], .agg #[.int .i64 V.op, .string (S V.a), .string (S V.b), .int .i64 V.n], .agg #[.int .i64 y1, .string (S y2), .int .i64 y3]] wz fun e w' => ∃ v', e = .returned v' ∧ StOwn wz.heap.size 70 w' v' Y ∧ Below wz.heap.size wz w') := fun wz hf => by rw [← hY, ← apply_same hfit]; exact aapply_any (c := V) (hso8.later hf.low) hsm hop (hmd wz hf) ⟨y1, y2, y3⟩
        have HRA : Hid (∀ wz, Fr W8 wz → Calls Tryd.prog 20 #[.agg #[.int .i64 x.kind, .int .i64 x.n, .slice xa x.rows.length xc], .agg #[.int .i64 V.op, .string (S V.a), .string (S V.b), .int .i64 V.n], .agg #[.int .i64 y1, .string (S y2), .int .i64 y3]] wz fun e w' => ∃ v', e = .returned v' ∧ StAt w' v' Y ∧ Below wz.heap.size wz w') := fun wz hf => by rw [← hY]; exact rapply_any (c := V) (hxat8.later hf.low) hsm hop (may_b (unhide HV)) hfit ⟨y1, y2, y3⟩
        have HTO := hide (fun (wz : World) (v : Value) (h : StAt wz v Y) => told_any h hYl)
        have HT2 := hide (fun (wz : World) (hf : Fr W8 wz) => told_any (hso8.at.later hf.low) hsm)
        have HXF := hide (fun (wz : World) (hf : Fr W8 wz) => hxat8.later hf.low)
        have HLI := hide (fun (wz : World) (va vb : Value) (h1 : StAt wz va Y) (h2 : StAt wz vb Y) => like_same h1 h2)
        have HL2 := hide (fun (wz : World) (va vb : Value) (h1 : StAt wz va x) (h2 : StAt wz vb x) => like_same h1 h2)
        have hst := Fr.start W8
        have hstd := hst.drew
        have HFR8 : Hid (∀ wz, Fr W8 wz → Fr w7 wz) := fun wz hf => (unhide HF8).trans (hf.low.mono (unhide HF8).size)
        clear hop hsm hfit hso8 hxat8 hchk hyl hlg hY hYl hL8 hmd hf8 hc8 hb8 hfr g1 g2 g3 HIN HCHK
        go_upto_region 14 with fail
        rw [← hC, hW8]
        clear hC hW8 e1 e2 e3
        go_region_held3 (fun w' => Fr W8 w') (with_reducible (first | exact hstd | exact hst | (refine Fr.below ?_ (by assumption) <;> assumption)))
          (first | (go_at_call 15; refine (unhide HLE _ (by assumption)).mono ?_; rintro e wa ⟨rfl, hba⟩) | (go_at_call 16; refine (unhide HCK _).mono ?_; rintro e wb ⟨rfl, hbb⟩) | fail)
        have hsb : Fr W8 wb := by assumption
        have hsbd := hsb.drew
        clear hst hstd hba hbb HLE HCK
        go_wp2_with fail
        go_region_held3 (fun w' => Fr W8 w') (with_reducible (first | exact hsbd | exact hsb | (refine Fr.below ?_ (by assumption) <;> assumption)))
          (first | (go_at_call 19; refine (unhide HAP _ (by assumption)).mono ?_; rintro e wc ⟨vc, rfl, hyc, hbc⟩; have HYC := hide hyc.at; obtain ⟨kc', rfl, hoc⟩ := hyc; obtain ⟨ya, yc, rfl, _⟩ := ownsRow_slice hoc; clear hoc) | (go_at_call 18; first | (have hq := HYD; clear hq; refine (unhide HT2 _ (by assumption)).mono ?_; rintro e wg ⟨vg, rfl, hyg, hbg⟩; have HYG := hide hyg.at; obtain ⟨kg', rfl, hog⟩ := hyg; obtain ⟨pa, pc, rfl, _⟩ := ownsRow_slice hog; clear hog) | (refine (unhide HTO _ _ (unhide HYC)).mono ?_; rintro e wd ⟨vd, rfl, hyd, hbd⟩; have HYD := hide hyd.at; obtain ⟨kd', rfl, hod⟩ := hyd; obtain ⟨za, zc, rfl, _⟩ := ownsRow_slice hod; clear hod)) | (go_at_call 20; refine (unhide HRA _ (by assumption)).mono ?_; rintro e we ⟨ve, rfl, hye, hbe⟩; have HYD2 := hide ((unhide HYD).later hbe); have HYE := hide hye; obtain ⟨ke, rfl, hke⟩ := hye; obtain ⟨ua, uc, rfl, _, _⟩ := hke.shape; clear hke) | (go_at_call 17; first | (have hq := HYG; clear hq; refine (unhide HL2 _ _ _ (unhide HYG) (unhide HXF _ (by assumption))).mono ?_; rintro e wh ⟨rfl, hbh⟩) | (refine (unhide HLI _ _ _ (unhide HYD2) (unhide HYE)).mono ?_; rintro e wf ⟨rfl, hbf⟩)) | fail)
        have HSH := hide (unhide HFR8 wh (by assumption))
        go_wp2_with fail
        go_roundw
        case rel => exact ⟨k + 1, by omega, by go_num, unhide HSH⟩
        case measure => simp [intOf]; omega
      · have HL := hide ((unhide HL7).trans ((Fr.low hfr).mono (unhide HL7).size))
        have hkn : k = l.length := by omega
        subst hkn
        clear hfr
        go_wp2_with fail
        go_ret
        exact ⟨rfl, unhide HL⟩
set_option maxHeartbeats 102400000 in
theorem tansw_yes {w : World} {v : Value} {s : VS} (hs : StAt w v s) (hsn : -9223372036854775808 ≤ s.n ∧ s.n ≤ 9223372036854775807) (hsz : ∀ i (h : i < s.rows.length), (s.rows[i]'h).1.length ≤ maxLen ∧ (s.rows[i]'h).2.length ≤ maxLen)
    (op : Int) (ca cb : ByteArray) (cn : Int) (hop : I64 op) (hn : I64 cn) (hca : ca.size ≤ maxLen) (hcb : cb.size ≤ maxLen) (hw : MD w) :
    Calls Tryd.prog 3 #[v, .agg #[.int .i64 op, .string ca, .string cb, .int .i64 cn], .bool true] w fun e w' => e = .returned (.bool true) ∧ Below w.heap.size w w' := by
  have HTS := hide (fun (w1 : World) (hb : Below w.heap.size w w1) => tstate_any (hs.later hb) hsn hsz)
  have HTI := hide (fun (w1 : World) => mtidy_any (w := w1) op ca cb cn hop hn hca hcb)
  have HOF := hide (fun (w1 : World) (v : Value) (x : VS) (h : StAt w1 v x) => of_any h op ca cb cn hop hn hca hcb)
  have HAW := hide (fun (w1 : World) (hb : Below w.heap.size w w1) => tawake_any (hw.later hb))
  have HMD := hide hw
  obtain ⟨k0, rfl, hr⟩ := hs
  obtain ⟨a, c, rfl, hc, hm⟩ := hr.shape
  have hst := B2.start w (.cells #[.int .i64 s.kind, .int .i64 s.n, .slice a s.rows.length c] 24) (.cells #[.int .i64 op, .string ca, .string cb, .int .i64 cn] 27)
  clear hr hw hsn hsz hop hn hca hcb
  go_enter Tryd.func3, Tryd.ntmps3
  go_wp2_with fail
  refine (unhide HTS _ hst.low).mono ?_
  rintro e w1 ⟨v1, rfl, x, hmay, _, ⟨kx, rfl, hox⟩, hb1⟩
  obtain ⟨xa, xc, rfl, _⟩ := ownsRow_slice hox
  have hx1 := hst.on hb1
  have HMAY := hide hmay
  have HXB := hide (hx1.on (under_box (.cells #[.int .i64 x.kind, .int .i64 x.n, .slice xa x.rows.length xc] 30)))
  have HXAT : Hid (StAt (w1.alloc (.cells #[.int .i64 x.kind, .int .i64 x.n, .slice xa x.rows.length xc] 30)) (.agg #[.int .i64 x.kind, .int .i64 x.n, .slice xa x.rows.length xc]) x) := ⟨_, rfl, Row2.of_own (hox.alloc _)⟩
  have HXBOX := hide (heap_alloc_new w1 (.cells #[.int .i64 x.kind, .int .i64 x.n, .slice xa x.rows.length xc] 30))
  obtain ⟨k0, k1, k2, k3⟩ := cellsB (unhide HXB).heap.2
  clear hmay hox hb1 hx1 hst HTS
  go_wp2_with fail
  refine (unhide HTI _).mono ?_
  rintro e w2 ⟨V0, rfl, hV0, hb2⟩
  unfold mcV
  have hbw := hb2.trans ((under_box (.cells #[.int .i64 V0.op, .string (S V0.a), .string (S V0.b), .int .i64 V0.n] 33)).mono hb2.size)
  have HXB2 := hide ((unhide HXB).on hbw)
  have HXAT1 := hide ((unhide HXAT).later hbw)
  have HXBOX1 := hide ((hbw.block w1.heap.size (by simp)).trans (unhide HXBOX))
  have HDBOX1 := hide (heap_alloc_new w2 (.cells #[.int .i64 V0.op, .string (S V0.a), .string (S V0.b), .int .i64 V0.n] 33))
  have HBW := hide hbw
  have HN := hide hb2.size
  clear k0 k1 k2 k3
  obtain ⟨k0, k1, k2, k3⟩ := cellsB (unhide HXB2).heap.2
  obtain ⟨d0, d1, d2, _⟩ := cell3 (unhide HXBOX1)
  clear hV0 hb2 hbw
  go_wp2_with fail
  refine (unhide HOF _ _ _ (unhide HXAT1)).mono ?_
  rintro e wq ⟨V, rfl, hV, hbq⟩
  have HV := hide hV
  have HDBOXq := hide ((hbq.block w2.heap.size (block_lt (unhide HDBOX1))).trans (unhide HDBOX1))
  have hb3p := below_put4c ((unhide HBW).trans (hbq.mono (unhide HBW).size)) (unhide HN) (.int .i64 V.op) (.string (S V.a)) (.string (S V.b)) (.int .i64 V.n)
  have HLW := hide ((unhide HXB).on hb3p).low
  have HXAT2 := hide ((unhide HXAT).later hb3p)
  have HXBOX2 := hide ((hb3p.block w1.heap.size (by simp)).trans (unhide HXBOX))
  have HDBOX2 := hide (put4c_cells (unhide HDBOXq) (.int .i64 V.op) (.string (S V.a)) (.string (S V.b)) (.int .i64 V.n))
  obtain ⟨q0, q1, q2, q3, fq⟩ := cell4 (unhide HDBOXq)
  unfold put4c put3 at HLW HXAT2 HXBOX2 HDBOX2
  clear hV hbq hb3p HXB2 HXAT1 HXBOX1 HDBOX1 HDBOXq HBW HN HXAT HXBOX HXB k0 k1 k2 k3 d0 d1 d2 HOF
  unfold mcV
  go_wp2_with fail
  refine (unhide HAW _ (unhide HLW)).mono ?_
  rintro e w4 ⟨rfl, hb4⟩
  have HXAT4 := hide ((unhide HXAT2).later hb4)
  have HXBOX4 := hide ((hb4.block w1.heap.size (block_lt (unhide HXBOX2))).trans (unhide HXBOX2))
  have HDBOX4 := hide ((hb4.block w2.heap.size (block_lt (unhide HDBOX2))).trans (unhide HDBOX2))
  have HL4 := hide ((unhide HLW).trans (hb4.mono (unhide HLW).size))
  clear hb4 HXAT2 HXBOX2 HDBOX2 HLW HAW
  go_upto_region 7 with fail
  have HOWN := hide (fun (wz : World) (hb : Below w4.heap.size w4 wz) => own_any ((unhide HXAT4).later hb) (by have := may_small (unhide HMAY); omega))
  have HOWC : Hid (∀ wz : World, Calls Tryd.prog 12 #[.agg #[.int .i64 V.op, .string (S V.a), .string (S V.b), .int .i64 V.n]] wz fun e w' => e = .returned (.agg #[.int .i64 V.op, .string (S V.a), .string (S V.b), .int .i64 V.n]) ∧ Below wz.heap.size wz w') := fun wz => mown_any V
  refine two2_T 25 26 27 28 9 10 (.agg #[.int .i64 x.kind, .int .i64 x.n, .slice xa x.rows.length xc]) (.agg #[.int .i64 V.op, .string (S V.a), .string (S V.b), .int .i64 V.n]) (.int .i64 x.kind) (.int .i64 x.n) (.int .i64 V.op) (.string (S V.a)) (.string (S V.b)) (.int .i64 V.n) 70 24 27 x.rows.length (R9 x.rows) (by kernel_rfl) rfl (fun i hi => ?hlow) (by kernel_rfl) (by kernel_rfl) (by kernel_rfl) (by kernel_rfl) (by kernel_rfl) (by kernel_rfl) ?H0 ?H1 ?H2 ?H3 ?H4 ?H5 ?H6 ?H7 ?hend
  case hlow =>
    have hc : i = 0 ∨ i = 1 ∨ i = 2 ∨ i = 3 ∨ i = 4 ∨ i = 5 ∨ i = 6 ∨ i = 7 := by have : i < 8 := hi; omega
    rcases hc with rfl | rfl | rfl | rfl | rfl | rfl | rfl | rfl <;> decide +kernel
  case H0 =>
    intro x0 x1 x2 x3 x4 x5 wz K hb hK
    obtain ⟨d0, d1, d2, _⟩ := cell3 ((hb.block _ (block_lt (unhide HXBOX4))).trans (unhide HXBOX4))
    simp only [set6, List.setIfInBounds_toArray, List.set_cons_zero, List.set_cons_succ] at hK ⊢
    unfold wpOp
    simp only [List.getElem?_toArray, List.getElem?_cons_zero, Region.wanted, if_true]
    refine .inl ?_
    unfold Oper.wp execOp
    go_simp
    exact hK
  case H1 =>
    intro x1 x2 x3 x4 x5 wz K hb hK
    simp only [set6, List.setIfInBounds_toArray, List.set_cons_zero, List.set_cons_succ] at hK ⊢
    unfold wpOp
    simp only [List.getElem?_toArray, List.getElem?_cons_zero, List.getElem?_cons_succ, Region.wanted, if_true]
    refine .inl ?_
    unfold Oper.wp execOp
    go_simp
    refine (unhide HOWN _ hb).mono ?_
    rintro e w' ⟨v', rfl, ⟨kk, rfl, ho⟩, hb'⟩
    obtain ⟨ka, kc, rfl, _⟩ := ownsRow_slice ho
    exact hK _ ka kc hb' ho
  case H2 =>
    intro x0 x1 x2 x3 x4 x5 wz K hb hK
    obtain ⟨d0, d1, d2, d3, _⟩ := cell4 ((hb.block _ (block_lt (unhide HDBOX4))).trans (unhide HDBOX4))
    simp only [set6, List.setIfInBounds_toArray, List.set_cons_zero, List.set_cons_succ] at hK ⊢
    unfold wpOp
    simp only [List.getElem?_toArray, List.getElem?_cons_zero, List.getElem?_cons_succ, Region.wanted, if_true]
    refine .inl ?_
    unfold Oper.wp execOp
    go_simp
    exact hK
  case H3 =>
    intro x0 x1 x3 x4 x5 wz K hb hK
    simp only [set6, List.setIfInBounds_toArray, List.set_cons_zero, List.set_cons_succ] at hK ⊢
    unfold wpOp
    simp only [List.getElem?_toArray, List.getElem?_cons_zero, List.getElem?_cons_succ, Region.wanted, if_true]
    refine .inl ?_
    unfold Oper.wp execOp
    go_simp
    refine (unhide HOWC _).mono ?_
    rintro e w' ⟨rfl, hb'⟩
    exact hK _ hb'
  case H4 =>
    intro x0 x1 x2 x3 x4 x5 wz K
    refine ⟨.int .i64 0, .int .i64 0, .slice none 0 0, fun hK => ?_⟩
    unfold ptr at hK
    simp only [set6, List.setIfInBounds_toArray, List.set_cons_zero, List.set_cons_succ] at hK ⊢
    unfold wpOp
    simp only [List.getElem?_toArray, List.getElem?_cons_zero, List.getElem?_cons_succ, Region.wanted, if_true]
    refine .inl ?_
    unfold Oper.wp execOp
    go_simp
    exact hK
  case H5 =>
    intro x0 x1 x2 x3 x4 x5 wz K
    refine ⟨.int .i64 0, .string ⟨#[]⟩, .string ⟨#[]⟩, .int .i64 0, fun hK => ?_⟩
    unfold ptr at hK
    simp only [set6, List.setIfInBounds_toArray, List.set_cons_zero, List.set_cons_succ] at hK ⊢
    unfold wpOp
    simp only [List.getElem?_toArray, List.getElem?_cons_zero, List.getElem?_cons_succ, Region.wanted, if_true]
    refine .inl ?_
    unfold Oper.wp execOp
    go_simp
    exact hK
  case H6 =>
    intro x0 x2 x3 x5 wz K q ka kc y1 y2 y3 hq hK
    obtain ⟨d0, d1, d2, fz⟩ := cell3 hq
    unfold ptr put3 at *
    simp only [set6, List.setIfInBounds_toArray, List.set_cons_zero, List.set_cons_succ] at hK ⊢
    unfold wpOp
    simp only [List.getElem?_toArray, List.getElem?_cons_zero, List.getElem?_cons_succ, Region.wanted, if_true]
    refine .inl ?_
    unfold Oper.wp execOp
    go_simp
    exact hK
  case H7 =>
    intro x0 x1 x2 x4 wz K q y1 y2 y3 y4 hq hK
    obtain ⟨d0, d1, d2, d3, fz⟩ := cell4 hq
    unfold ptr put4c put3 at *
    simp only [set6, List.setIfInBounds_toArray, List.set_cons_zero, List.set_cons_succ] at hK ⊢
    unfold wpOp
    simp only [List.getElem?_toArray, List.getElem?_cons_zero, List.getElem?_cons_succ, Region.wanted, if_true]
    refine .inl ?_
    unfold Oper.wp execOp
    go_simp
    exact hK
  case hend =>
    intro w5 qA qB ka kc hb5 hqa hqb hqn hA5 hB5 hown
    unfold ptr
    simp only [set6, List.setIfInBounds_toArray, List.set_cons_zero, List.set_cons_succ]
    have hX5 := (hb5.block _ (block_lt (unhide HXBOX4))).trans (unhide HXBOX4)
    have hD5 := (hb5.block _ (block_lt (unhide HDBOX4))).trans (unhide HDBOX4)
    obtain ⟨xc0, xc1, xc2⟩ := Fr.cell3 hX5
    obtain ⟨dc0, dc1, dc2, dc3⟩ := Fr.cell4 hD5
    obtain ⟨ac0, ac1, ac2⟩ := Fr.cell3 hA5
    obtain ⟨bc0, bc1, bc2, bc3⟩ := Fr.cell4 hB5
    have HX5 := hide hX5
    have HD5 := hide hD5
    have HA5 := hide hA5
    have HB5 := hide hB5
    have HL5 : Hid (Below w.heap.size w w5) := (unhide HL4).trans (hb5.mono (unhide HL4).size)
    have HSO5 : Hid (StOwn w4.heap.size 70 w5 (.agg #[.int .i64 x.kind, .int .i64 x.n, .slice ka x.rows.length kc]) x) := ⟨_, rfl, hown⟩
    have HXAT5 := hide ((unhide HXAT4).later hb5)
    have hop := MC.may_op (unhide HV)
    have hsm : x.rows.length ≤ 1000 := by have := may_small (unhide HMAY); omega
    obtain ⟨l, hl⟩ : ∃ l, answers x V = l := ⟨_, rfl⟩
    have HLA := hide hl
    have HCH7 : Hid (∀ r, r ∈ l → MR.check r = 0) := fun r hr => answers_check (unhide HMAY) (by rw [hl]; exact hr)
    have hmd : ∀ wz, Fr w5 wz → MD wz := fun wz hf => (unhide HMD).later ((unhide HL5).trans (hf.low.mono (unhide HL5).size))
    have HAN : Hid (∀ wz, Fr w5 wz → Calls Tryd.prog 13 #[.agg #[.int .i64 x.kind, .int .i64 x.n, .slice ka x.rows.length kc], .agg #[.int .i64 V.op, .string (S V.a), .string (S V.b), .int .i64 V.n]] wz fun e w' => ∃ v', e = .returned v' ∧ Row3 w' v' l ∧ Below wz.heap.size wz w') := fun wz hf => by rw [← hl]; exact aanswers_any (c := V) ((unhide HSO5).at.later hf.low) hsm hop (hmd wz hf)
    have HRN : Hid (∀ wz, Fr w5 wz → Calls Tryd.prog 14 #[.agg #[.int .i64 x.kind, .int .i64 x.n, .slice xa x.rows.length xc], .agg #[.int .i64 V.op, .string (S V.a), .string (S V.b), .int .i64 V.n]] wz fun e w' => ∃ v', e = .returned v' ∧ Row3 w' v' l ∧ Below wz.heap.size wz w') := fun wz hf => by rw [← hl]; exact ranswers_any (c := V) ((unhide HXAT5).later hf.low) hsm hop
    have hst := Fr.start w5
    have hstd := hst.drew
    clear hX5 hD5 hA5 hB5 hop hsm hmd hl hown hb5 hqa hqb hqn HOWN HOWC HXAT4 HXBOX4 HDBOX4 HL4
    go_wp2_with fail
    go_region_held3 (fun w' => Fr w5 w') (with_reducible (first | exact hstd | exact hst | (refine Fr.below ?_ (by assumption) <;> assumption)))
      (first | (go_at_call 13; refine (unhide HAN _ (by assumption)).mono ?_; rintro e wa ⟨va, rfl, hra, hba⟩; obtain ⟨sa, sc, rfl, _, _⟩ := hra.shape; have HRA0 := hide hra; clear hra) | (go_at_call 14; refine (unhide HRN _ (by assumption)).mono ?_; rintro e w7 ⟨vb, rfl, hrb, hbb⟩; obtain ⟨ta, tc, rfl, _, _⟩ := hrb.shape; have HRW7 := hide hrb; have HRL7 := hide ((unhide HRA0).later hbb); clear hrb HRA0) | fail)
    have h7 : Fr w5 w7 := by assumption
    have HX7 := hide ((h7.low.block _ (block_lt (unhide HX5))).trans (unhide HX5))
    have HD7 := hide ((h7.low.block _ (block_lt (unhide HD5))).trans (unhide HD5))
    have HA7 := hide ((h7.low.block _ (block_lt (unhide HA5))).trans (unhide HA5))
    have HB7 := hide ((h7.low.block _ (block_lt (unhide HB5))).trans (unhide HB5))
    have HL7 := hide ((unhide HL5).trans (h7.low.mono (unhide HL5).size))
    have HSO7 := hide ((unhide HSO5).later h7.low)
    have HXAT7 := hide ((unhide HXAT5).later h7.low)
    have hll : ((l.length : Nat) : Int) ≤ 9223372036854775807 := by
      obtain ⟨_, _, e, h1, h2, _⟩ := (unhide HRL7)
      unfold maxLen at h2
      omega
    clear h7 hst hstd hba hbb HAN HRN HX5 HD5 HA5 HB5 HL5 HSO5 HXAT5 xc0 xc1 xc2 dc0 dc1 dc2 dc3 ac0 ac1 ac2 bc0 bc1 bc2 bc3
    go_wp2_with fail
    go_loopw [42] (fun i wr => ∃ k : Nat, k ≤ l.length ∧ i = .int .i64 (k : Int) ∧ Fr w7 wr) (fun i _ => l.length - (intOf i).toNat)
    case atStart => exact ⟨0, Nat.zero_le _, rfl, Fr.start _⟩
    case round =>
      obtain ⟨k, hk, rfl, hfr⟩ := hrel
      by_cases hlt : k < l.length
      · obtain ⟨bl, ol, rfl, hbl, e1, e2, e3⟩ := (unhide HRL7).at k hlt
        obtain ⟨bw, ow, rfl, hbw, g1, g2, g3⟩ := (unhide HRW7).at k hlt
        have HIN := hide (List.getElem_mem hlt)
        have HCHK := hide (unhide HCH7 _ (List.getElem_mem hlt))
        rw [← (Fr.low hfr).cell (p := ⟨bl, ol + k * 3, none⟩) hbl] at e1
        rw [← (Fr.low hfr).cell (p := ⟨bl, ol + k * 3 + 1, none⟩) hbl] at e2
        rw [← (Fr.low hfr).cell (p := ⟨bl, ol + k * 3 + 2, none⟩) hbl] at e3
        rw [← (Fr.low hfr).cell (p := ⟨bw, ow + k * 3, none⟩) hbw] at g1
        rw [← (Fr.low hfr).cell (p := ⟨bw, ow + k * 3 + 1, none⟩) hbw] at g2
        rw [← (Fr.low hfr).cell (p := ⟨bw, ow + k * 3 + 2, none⟩) hbw] at g3
        generalize l[k]'hlt = q at *
        obtain ⟨y1, y2, y3⟩ := q
        dsimp only at *
        have hi0 : (0 : Int) ≤ (k : Int) := by omega
        have hi1 : (k : Int) < ((l.length : Nat) : Int) := by omega
        have hne : wr.heap.size ≠ bl := by have := (Fr.low hfr).size; omega
        obtain ⟨C, hC⟩ : ∃ C : Obj, C = .cells #[.int .i64 y1, .string (S y2), .int .i64 y3] 44 (0, 0) := ⟨_, rfl⟩
        obtain ⟨W8, hW8⟩ : ∃ W8, wr.alloc C = W8 := ⟨_, rfl⟩
        have hb8 : Below wr.heap.size wr W8 := by rw [← hW8]; exact under_box _
        have hf8 : Below w7.heap.size w7 W8 := (Fr.low hfr).trans (hb8.mono (Fr.low hfr).size)
        have hc8 : W8.heap[wr.heap.size]? = some (.cells #[.int .i64 y1, .string (S y2), .int .i64 y3] 44 (0, 0)) := by rw [← hW8, ← hC]; exact heap_alloc_new wr C
        obtain ⟨rc0, rc1, rc2⟩ := Fr.cell3 hc8
        obtain ⟨xc0, xc1, xc2⟩ := Fr.cell3 ((hf8.block _ (block_lt (unhide HX7))).trans (unhide HX7))
        obtain ⟨dc0, dc1, dc2, dc3⟩ := Fr.cell4 ((hf8.block _ (block_lt (unhide HD7))).trans (unhide HD7))
        obtain ⟨ac0, ac1, ac2⟩ := Fr.cell3 ((hf8.block _ (block_lt (unhide HA7))).trans (unhide HA7))
        obtain ⟨bc0, bc1, bc2, bc3⟩ := Fr.cell4 ((hf8.block _ (block_lt (unhide HB7))).trans (unhide HB7))
        have hbwr : bw < wr.heap.size := by have := (Fr.low hfr).size; omega
        have wc0 := Fr.one (W := W8) (p := ⟨bw, ow + k * 3, none⟩) (by have := hb8.size; show bw < _; omega) ((hb8.cell (p := ⟨bw, ow + k * 3, none⟩) hbwr).trans g1)
        have wc1 := Fr.one (W := W8) (p := ⟨bw, ow + k * 3 + 1, none⟩) (by have := hb8.size; show bw < _; omega) ((hb8.cell (p := ⟨bw, ow + k * 3 + 1, none⟩) hbwr).trans g2)
        have wc2 := Fr.one (W := W8) (p := ⟨bw, ow + k * 3 + 2, none⟩) (by have := hb8.size; show bw < _; omega) ((hb8.cell (p := ⟨bw, ow + k * 3 + 2, none⟩) hbwr).trans g3)
        have HF8 := hide hf8
        have hop := MC.may_op (unhide HV)
        have hsm : x.rows.length ≤ 1000 := by have := may_small (unhide HMAY); omega
        have hfit := VS.may.fit (unhide HMAY)
        have hso8 := (unhide HSO7).later hf8
        have hxat8 := (unhide HXAT7).later hf8
        have hchk : MR.check ⟨y1, y2, y3⟩ = 0 := unhide HCHK
        have hyl : y2.length ≤ maxLen := Nat.le_trans (check_len hchk) (by unfold maxLen; decide)
        have hlg : legal x V ⟨y1, y2, y3⟩ = true := by unfold legal; have := unhide HIN; rw [← unhide HLA] at this; exact decide_eq_true this
        obtain ⟨Y, hY⟩ : ∃ Y, apply2 x V ⟨y1, y2, y3⟩ = Y := ⟨_, rfl⟩
        have hYl : Y.rows.length ≤ 1000 := by rw [← hY]; have := apply_len x V ⟨y1, y2, y3⟩; have := may_small (unhide HMAY); omega
        have hL8 : Below w.heap.size w W8 := (unhide HL7).trans (hf8.mono (unhide HL7).size)
        have hmd : ∀ wz, Fr W8 wz → MD wz := fun wz hf => (unhide HMD).later (hL8.trans (hf.low.mono hL8.size))
        have HLE : Hid (∀ wz, Fr W8 wz → Calls Tryd.prog 15 #[.agg #[.int .i64 x.kind, .int .i64 x.n, .slice ka x.rows.length kc], .agg #[.int .i64 V.op, .string (S V.a), .string (S V.b), .int .i64 V.n], .agg #[.int .i64 y1, .string (S y2), .int .i64 y3]] wz fun e w' => e = .returned (.bool true) ∧ Below wz.heap.size wz w') := fun wz hf => by rw [← hlg]; exact alegal_any (c := V) (hso8.at.later hf.low) hsm hop (hmd wz hf) ⟨y1, y2, y3⟩
        have HCK : Hid (∀ wz, Calls Tryd.prog 16 #[.agg #[.int .i64 y1, .string (S y2), .int .i64 y3]] wz fun e w' => e = .returned (.int .i64 0) ∧ Below wz.heap.size wz w') := fun wz => by rw [← hchk]; exact mrcheck_any ⟨y1, y2, y3⟩ hyl
        have HAP : Hid (∀ wz, Fr W8 wz → Calls Tryd.prog 19 #[.agg #[.int .i64 x.kind, .int .i64 x.n, .slice ka x.rows.length kc], .agg #[.int .i64 V.op, .string (S V.a), .string (S V.b), .int .i64 V.n], .agg #[.int .i64 y1, .string (S y2), .int .i64 y3]] wz fun e w' => ∃ v', e = .returned v' ∧ StOwn wz.heap.size 70 w' v' Y ∧ Below wz.heap.size wz w') := fun wz hf => by rw [← hY, ← apply_same hfit]; exact aapply_any (c := V) (hso8.later hf.low) hsm hop (hmd wz hf) ⟨y1, y2, y3⟩
        have HRA : Hid (∀ wz, Fr W8 wz → Calls Tryd.prog 20 #[.agg #[.int .i64 x.kind, .int .i64 x.n, .slice xa x.rows.length xc], .agg #[.int .i64 V.op, .string (S V.a), .string (S V.b), .int .i64 V.n], .agg #[.int .i64 y1, .string (S y2), .int .i64 y3]] wz fun e w' => ∃ v', e = .returned v' ∧ StAt w' v' Y ∧ Below wz.heap.size wz w') := fun wz hf => by rw [← hY]; exact rapply_any (c := V) (hxat8.later hf.low) hsm hop (may_b (unhide HV)) hfit ⟨y1, y2, y3⟩
        have HTO := hide (fun (wz : World) (v : Value) (h : StAt wz v Y) => told_any h hYl)
        have HT2 := hide (fun (wz : World) (hf : Fr W8 wz) => told_any (hso8.at.later hf.low) hsm)
        have HXF := hide (fun (wz : World) (hf : Fr W8 wz) => hxat8.later hf.low)
        have HLI := hide (fun (wz : World) (va vb : Value) (h1 : StAt wz va Y) (h2 : StAt wz vb Y) => like_same h1 h2)
        have HL2 := hide (fun (wz : World) (va vb : Value) (h1 : StAt wz va x) (h2 : StAt wz vb x) => like_same h1 h2)
        have hst := Fr.start W8
        have hstd := hst.drew
        have HFR8 : Hid (∀ wz, Fr W8 wz → Fr w7 wz) := fun wz hf => (unhide HF8).trans (hf.low.mono (unhide HF8).size)
        clear hop hsm hfit hso8 hxat8 hchk hyl hlg hY hYl hL8 hmd hf8 hc8 hb8 hfr g1 g2 g3 HIN HCHK
        go_upto_region 14 with fail
        rw [← hC, hW8]
        clear hC hW8 e1 e2 e3
        go_region_held3 (fun w' => Fr W8 w') (with_reducible (first | exact hstd | exact hst | (refine Fr.below ?_ (by assumption) <;> assumption)))
          (first | (go_at_call 15; refine (unhide HLE _ (by assumption)).mono ?_; rintro e wa ⟨rfl, hba⟩) | (go_at_call 16; refine (unhide HCK _).mono ?_; rintro e wb ⟨rfl, hbb⟩) | fail)
        have hsb : Fr W8 wb := by assumption
        have hsbd := hsb.drew
        clear hst hstd hba hbb HLE HCK
        go_wp2_with fail
        go_region_held3 (fun w' => Fr W8 w') (with_reducible (first | exact hsbd | exact hsb | (refine Fr.below ?_ (by assumption) <;> assumption)))
          (first | (go_at_call 19; refine (unhide HAP _ (by assumption)).mono ?_; rintro e wc ⟨vc, rfl, hyc, hbc⟩; have HYC := hide hyc.at; obtain ⟨kc', rfl, hoc⟩ := hyc; obtain ⟨ya, yc, rfl, _⟩ := ownsRow_slice hoc; clear hoc) | (go_at_call 18; first | (have hq := HYD; clear hq; refine (unhide HT2 _ (by assumption)).mono ?_; rintro e wg ⟨vg, rfl, hyg, hbg⟩; have HYG := hide hyg.at; obtain ⟨kg', rfl, hog⟩ := hyg; obtain ⟨pa, pc, rfl, _⟩ := ownsRow_slice hog; clear hog) | (refine (unhide HTO _ _ (unhide HYC)).mono ?_; rintro e wd ⟨vd, rfl, hyd, hbd⟩; have HYD := hide hyd.at; obtain ⟨kd', rfl, hod⟩ := hyd; obtain ⟨za, zc, rfl, _⟩ := ownsRow_slice hod; clear hod)) | (go_at_call 20; refine (unhide HRA _ (by assumption)).mono ?_; rintro e we ⟨ve, rfl, hye, hbe⟩; have HYD2 := hide ((unhide HYD).later hbe); have HYE := hide hye; obtain ⟨ke, rfl, hke⟩ := hye; obtain ⟨ua, uc, rfl, _, _⟩ := hke.shape; clear hke) | (go_at_call 17; first | (have hq := HYG; clear hq; refine (unhide HL2 _ _ _ (unhide HYG) (unhide HXF _ (by assumption))).mono ?_; rintro e wh ⟨rfl, hbh⟩) | (refine (unhide HLI _ _ _ (unhide HYD2) (unhide HYE)).mono ?_; rintro e wf ⟨rfl, hbf⟩)) | fail)
        have HSH := hide (unhide HFR8 wh (by assumption))
        go_wp2_with fail
        go_roundw
        case rel => exact ⟨k + 1, by omega, by go_num, unhide HSH⟩
        case measure => simp [intOf]; omega
      · have HL := hide ((unhide HL7).trans ((Fr.low hfr).mono (unhide HL7).size))
        have hkn : k = l.length := by omega
        subst hkn
        clear hfr
        go_wp2_with fail
        go_ret
        exact ⟨rfl, unhide HL⟩
theorem adtAnswers_walk {H : Type} {enc : TypeId × Value → H} {base b0 : Nat} {spare : Nat → Bool} {held : Bool} {r : Reach} {v : Value} {d : DataW H} {p : List MemPlace} (w : World)
    (hv : Value.okWide Tryd.prog w r b0 24 v) (hd : DataW.Trod enc Tryd.prog w base spare held 24 v d p) (op : Int) (wop : (Lit.int .i64 op).wf = true) (ca : ByteArray) (wca : ca.size ≤ maxLen) (cb : ByteArray) (wcb : cb.size ≤ maxLen) (cn : Int) (wcn : (Lit.int .i64 cn).wf = true)
    (td : Bool) (hw : MD w) :
    Calls Tryd.prog 3 #[v, .agg #[.int .i64 op, .string ca, .string cb, .int .i64 cn], .bool td] w fun e w' => e = .returned (.bool true) ∧ Below w.heap.size w w' := by
  obtain ⟨s, hs, _, hn, hz⟩ := open_state hv hd
  cases td
  · exact tansw_no hs hn hz op ca cb cn (vwf_i64 wop) (vwf_i64 wcn) wca wcb hw
  · exact tansw_yes hs hn hz op ca cb cn (vwf_i64 wop) (vwf_i64 wcn) wca wcb hw
end Go.Proofs.YtadngcjchlpkaaaDoor
/- A row of steps in memory: of seven cells each, wherever it lies. -/
namespace Go.Proofs.YtadngcjchlpkaaaDoor
open Go.RowKit
set_option linter.unusedVariables false
set_option maxRecDepth 100000

def E7 : List (MC × MR) → List Value
  | [] => []
  | x :: r => .int .i64 x.1.op :: .string (S x.1.a) :: .string (S x.1.b) :: .int .i64 x.1.n :: .int .i64 x.2.code :: .string (S x.2.text) :: .int .i64 x.2.n :: E7 r
theorem E7_append (a b : List (MC × MR)) : E7 (a ++ b) = E7 a ++ E7 b := by
  induction a with
  | nil => rfl
  | cons x r ih => simp [E7, ih]
theorem E7_length (a : List (MC × MR)) : (E7 a).length = a.length * 7 := by
  induction a with
  | nil => rfl
  | cons x r ih => simp [E7, ih]; omega
theorem E7_get : ∀ (a : List (MC × MR)) (k : Nat) (h : k < a.length), (E7 a)[k * 7]? = some (.int .i64 (a[k]'h).1.op) ∧ (E7 a)[k * 7 + 1]? = some (.string (S (a[k]'h).1.a)) ∧ (E7 a)[k * 7 + 2]? = some (.string (S (a[k]'h).1.b)) ∧ (E7 a)[k * 7 + 3]? = some (.int .i64 (a[k]'h).1.n) ∧ (E7 a)[k * 7 + 4]? = some (.int .i64 (a[k]'h).2.code) ∧ (E7 a)[k * 7 + 5]? = some (.string (S (a[k]'h).2.text)) ∧ (E7 a)[k * 7 + 6]? = some (.int .i64 (a[k]'h).2.n)
  | x :: r, 0, h => by simp [E7]
  | x :: r, k + 1, h => by
    have := E7_get r k (by simpa using h)
    have e : (k + 1) * 7 = k * 7 + 1 + 1 + 1 + 1 + 1 + 1 + 1 := by omega
    rw [e]
    simpa [E7] using this
def Row7 (w : World) (v : Value) (l : List (MC × MR)) : Prop :=
  ∃ a c, v = .slice a l.length c ∧ l.length ≤ c ∧ c ≤ maxLen ∧ (a = none → c = 0) ∧ ∀ i u, (E7 l)[i]? = some u → ∃ b off, a = some ⟨b, off, none⟩ ∧ b < w.heap.size ∧ w.cell? ⟨b, off + i, none⟩ = some u
theorem Row7.later {w w' : World} {v : Value} {l : List (MC × MR)} (h : Row7 w v l) (hb : Below w.heap.size w w') : Row7 w' v l := by
  obtain ⟨a, c, e, h1, h2, h0, h3⟩ := h
  refine ⟨a, c, e, h1, h2, h0, fun i u hu => ?_⟩
  obtain ⟨b, off, ea, hlt, hc⟩ := h3 i u hu
  exact ⟨b, off, ea, by have := hb.size; omega, by rw [hb.cell (p := ⟨b, off + i, none⟩) hlt]; exact hc⟩
theorem Row7.nil (w : World) : Row7 w (.slice none 0 0) [] := ⟨none, 0, rfl, Nat.le_refl _, by simp [maxLen], fun _ => rfl, fun i u h => by simp [E7] at h⟩
theorem Row7.of_own {w : World} {base : Nat} {e : TypeId} {v : Value} {l : List (MC × MR)} (h : w.ownsRow base e 7 v l.length (E7 l)) : Row7 w v l := by
  rcases h.2 with ⟨rfl, h0⟩ | ⟨g, cap, cur, rfl, hb, hh, hn, hm, hs, ht⟩
  · have : l = [] := List.eq_nil_of_length_eq_zero h0
    subst this
    exact Row7.nil w
  · refine ⟨_, cap, rfl, hn, hm, fun e => (by cases e), fun i u hu => ⟨g, 0, rfl, block_lt hh, ?_⟩⟩
    rw [Nat.zero_add]
    exact ownsRow_cell h rfl i u hu
theorem Row7.at {w : World} {a : Option Addr} {n c : Nat} {l : List (MC × MR)} (h : Row7 w (.slice a n c) l) (i : Nat) (hi : i < l.length) :
    ∃ b off, a = some ⟨b, off, none⟩ ∧ b < w.heap.size ∧ w.cell? ⟨b, off + i * 7, none⟩ = some (.int .i64 (l[i]'hi).1.op) ∧ w.cell? ⟨b, off + i * 7 + 1, none⟩ = some (.string (S (l[i]'hi).1.a)) ∧ w.cell? ⟨b, off + i * 7 + 2, none⟩ = some (.string (S (l[i]'hi).1.b)) ∧ w.cell? ⟨b, off + i * 7 + 3, none⟩ = some (.int .i64 (l[i]'hi).1.n) ∧ w.cell? ⟨b, off + i * 7 + 4, none⟩ = some (.int .i64 (l[i]'hi).2.code) ∧ w.cell? ⟨b, off + i * 7 + 5, none⟩ = some (.string (S (l[i]'hi).2.text)) ∧ w.cell? ⟨b, off + i * 7 + 6, none⟩ = some (.int .i64 (l[i]'hi).2.n) := by
  obtain ⟨a', c', e, h1, h2, h0, h3⟩ := h
  injection e with e1 e2 e3
  subst e1 e2 e3
  obtain ⟨g0, g1, g2, g3, g4, g5, g6⟩ := E7_get l i hi
  obtain ⟨b, off, ea, hlt, hc⟩ := h3 _ _ g0
  have key (j : Nat) (u : Value) (hu : (E7 l)[i * 7 + j]? = some u) : w.cell? ⟨b, off + i * 7 + j, none⟩ = some u := by
    obtain ⟨b', off', ea', _, hc'⟩ := h3 _ _ hu
    rw [ea] at ea'
    cases ea'
    rw [Nat.add_assoc]
    exact hc'
  exact ⟨b, off, ea, hlt, hc, key 1 _ g1, key 2 _ g2, key 3 _ g3, key 4 _ g4, key 5 _ g5, key 6 _ g6⟩
theorem Row7.shape {w : World} {v : Value} {l : List (MC × MR)} (h : Row7 w v l) : ∃ a c, v = .slice a l.length c ∧ l.length ≤ c ∧ c ≤ maxLen := by
  obtain ⟨a, c, e, h1, h2, _, _⟩ := h
  exact ⟨a, c, e, h1, h2⟩
/- How far steps are legal, one behind the other. -/
def runSt (x : VS) : List (MC × MR) → VS
  | [] => x
  | p :: r => runSt (apply2 x p.1 p.2) r
theorem runSt_snoc (x : VS) (l : List (MC × MR)) (p : MC × MR) : runSt x (l ++ [p]) = apply2 (runSt x l) p.1 p.2 := by
  induction l generalizing x with
  | nil => rfl
  | cons q r ih => exact ih _
theorem runSt_take (x : VS) (l : List (MC × MR)) (k : Nat) (hk : k < l.length) : runSt x (l.take (k + 1)) = apply2 (runSt x (l.take k)) (l[k]'hk).1 (l[k]'hk).2 := by
  rw [List.take_succ_eq_append_getElem hk, runSt_snoc]
/- Steps whose calls are calls. -/
def Steps (l : List (MC × MR)) : Prop := ∀ p ∈ l, okOp p.1.op
theorem runSt_fit {x : VS} (h : x.fit) : ∀ (l : List (MC × MR)), Steps l → (runSt x l).fit := by
  intro l
  induction l generalizing x with
  | nil => intro _; exact h
  | cons p r ih => exact fun hs => ih (h.apply (hs p (List.mem_cons_self ..)) _) fun q hq => hs q (List.mem_cons_of_mem _ hq)
theorem runSt_len (x : VS) (l : List (MC × MR)) : (runSt x l).rows.length ≤ x.rows.length + l.length := by
  induction l generalizing x with
  | nil => exact Nat.le_refl _
  | cons p r ih =>
    have h1 := apply_len x p.1 p.2
    have h2 := ih (apply2 x p.1 p.2)
    show (runSt (apply2 x p.1 p.2) r).rows.length ≤ _
    simp
    omega
end Go.Proofs.YtadngcjchlpkaaaDoor
/- The contract of adt's Run. -/
namespace Go.Proofs.YtadngcjchlpkaaaDoor
open Go.RowKit
set_option linter.unusedVariables false
set_option maxRecDepth 100000

structure Rn (w : World) (y : VS) (sl : Value) (wr : World) : Prop where
  low : Below w.heap.size w wr
  st : wr.heap[w.heap.size]? = some (.cells #[.int .i64 y.kind, .int .i64 y.n, sl] 24 (0, 0))
  res : wr.heap[w.heap.size + 1]? = some (.cells #[.int .i64 0, .int .i64 0, .slice none 0 0] 24 (0, 0))
  own : wr.ownsRow (w.heap.size + 1 + 1) 70 2 sl y.rows.length (R9 y.rows)
section
variable {w wr w' : World} {y : VS} {sl : Value}
theorem Rn.later (h : Rn w y sl wr) (hb : Below wr.heap.size wr w') : Rn w y sl w' := ⟨h.low.trans (hb.mono h.low.size), (hb.block _ (block_lt h.st)).trans h.st, (hb.block _ (block_lt h.res)).trans h.res, ownsRow_below h.own hb⟩
theorem Rn.put (h : Rn w y sl wr) {z : VS} {u : Value} (ho : wr.ownsRow (w.heap.size + 1 + 1) 70 2 u z.rows.length (R9 z.rows)) : Rn w z u (put3 wr w.heap.size (.int .i64 z.kind) (.int .i64 z.n) u) := by
  refine ⟨⟨h.low.os, h.low.tape, h.low.output, by rw [put3_size]; exact h.low.size, fun j hj => by rw [put3_other _ _ _ _ (by omega)]; exact h.low.block j hj⟩, ?_, by rw [put3_other _ _ _ _ (by omega)]; exact h.res, ownsRow_same ho fun j hj => ?_⟩
  · have f1 := heap_setCell_same wr w.heap.size 0 _ _ (.int .i64 z.kind) h.st
    have f2 := heap_setCell_same _ w.heap.size 1 _ _ (.int .i64 z.n) f1
    have f3 := heap_setCell_same _ w.heap.size 2 _ _ u f2
    unfold put3
    simpa [Array.setIfInBounds] using f3
  · have := (ho.lt j hj).1
    rw [put3_other _ _ _ _ (by omega)]
theorem Rn.at (h : Rn w y sl wr) : StOwn (w.heap.size + 1 + 1) 70 wr (.agg #[.int .i64 y.kind, .int .i64 y.n, sl]) y := ⟨_, rfl, h.own⟩
end
theorem cells7 {w : World} {N : Nat} {a b c d e f g : Value} {t : TypeId} (h : w.heap[N]? = some (.cells #[a, b, c, d, e, f, g] t (0, 0))) : w.cell? ⟨N, 0, none⟩ = some a ∧ w.cell? ⟨N, 1, none⟩ = some b ∧ w.cell? ⟨N, 2, none⟩ = some c ∧ w.cell? ⟨N, 3, none⟩ = some d ∧ w.cell? ⟨N, 4, none⟩ = some e ∧ w.cell? ⟨N, 5, none⟩ = some f ∧ w.cell? ⟨N, 6, none⟩ = some g := by
  refine ⟨?_, ?_, ?_, ?_, ?_, ?_, ?_⟩ <;> rw [block_cell h] <;> rfl
theorem cells3 {w : World} {N : Nat} {a b c : Value} {t : TypeId} (h : w.heap[N]? = some (.cells #[a, b, c] t (0, 0))) : w.cell? ⟨N, 0, none⟩ = some a ∧ w.cell? ⟨N, 1, none⟩ = some b ∧ w.cell? ⟨N, 2, none⟩ = some c ∧ ∀ j, w.frozen? ⟨N, j, none⟩ = false := by
  refine ⟨?_, ?_, ?_, fun j => block_frozen h j⟩ <;> rw [block_cell h] <;> rfl

set_option maxHeartbeats 25600000 in
theorem arun_any {base : Nat} {w : World} {v lv : Value} {x : VS} {l : List (MC × MR)} (h : StOwn base 70 w v x) (hfit : x.fit) (hxl : x.rows.length ≤ 100) (hl : Row7 w lv l) (hll : l.length ≤ 100) (hsteps : Steps l) (hw : MD w) (m : Nat) (hm : m ≤ l.length)
    (hleg : ∀ k (hk : k < l.length), k < m → legal (runSt x (l.take k)) (l[k]'hk).1 (l[k]'hk).2 = true) (hstop : ∀ hk : m < l.length, legal (runSt x (l.take m)) (l[m]'hk).1 (l[m]'hk).2 = false) :
    Calls Tryd.prog 25 #[v, lv] w fun e w' => ∃ v', e = .returned (.tuple #[v', .int .i64 (m : Int)]) ∧ StOwn w.heap.size 70 w' v' (runSt x (l.take m)) ∧ Below w.heap.size w w' := by
  have HCL := hide (fun (w1 : World) (hb : Below w.heap.size w w1) => vclone_any (h.later hb) (by omega))
  have HLG : Hid (∀ (k : Nat) (hk : k < l.length) (w1 : World) (sl : Value), Below w.heap.size w w1 → Rn w (runSt x (l.take k)) sl w1 → Calls Tryd.prog 15 #[.agg #[.int .i64 (runSt x (l.take k)).kind, .int .i64 (runSt x (l.take k)).n, sl], mcV (l[k]'hk).1, mrV (l[k]'hk).2] w1 fun e w' => e = .returned (.bool (legal (runSt x (l.take k)) (l[k]'hk).1 (l[k]'hk).2)) ∧ Below w1.heap.size w1 w') := fun k hk w1 sl hb hr => alegal_any hr.at.at (by have := runSt_len x (l.take k); simp at this; omega) (hsteps _ (List.getElem_mem hk)) (hw.later hb) _
  have HAP : Hid (∀ (k : Nat) (hk : k < l.length) (w1 : World) (sl : Value), Below w.heap.size w w1 → Rn w (runSt x (l.take k)) sl w1 → Calls Tryd.prog 19 #[.agg #[.int .i64 (runSt x (l.take k)).kind, .int .i64 (runSt x (l.take k)).n, sl], mcV (l[k]'hk).1, mrV (l[k]'hk).2] w1 fun e w' => ∃ v', e = .returned v' ∧ StOwn w1.heap.size 70 w' v' (runSt x (l.take (k + 1))) ∧ Below w1.heap.size w1 w') := fun k hk w1 sl hb hr => by
    rw [runSt_take x l k hk, ← apply_same (runSt_fit hfit _ fun p hp => hsteps p (List.mem_of_mem_take hp))]
    exact aapply_any hr.at (by have := runSt_len x (l.take k); simp at this; omega) (hsteps _ (List.getElem_mem hk)) (hw.later hb) _
  obtain ⟨la, lc, rfl, hlc, hlm⟩ := hl.shape
  unfold maxLen at hlm
  have HROW := hide hl
  obtain ⟨st, hstf⟩ : ∃ st : Nat → VS, (fun k => runSt x (l.take k)) = st := ⟨_, rfl⟩
  have hst' : ∀ k, runSt x (l.take k) = st k := fun k => by rw [← hstf]
  have h00 : st 0 = x := by rw [← hst']; rfl
  simp only [hst'] at HLG HAP hleg hstop ⊢
  have HLE := hide hleg
  have HSP := hide hstop
  clear hst' hstf hl hleg hstop hsteps hw hfit
  obtain ⟨k0, rfl, hr⟩ := h
  obtain ⟨a, cc, rfl, _⟩ := ownsRow_slice hr
  have HST := hide (B2.start w (.cells #[.int .i64 x.kind, .int .i64 x.n, .slice a x.rows.length cc] 24) (.cells #[.int .i64 0, .int .i64 0, .slice none 0 0] 24))
  clear hr
  go_enter Tryd.func25, Tryd.ntmps25
  go_wp2_with fail
  refine (unhide HCL _ (unhide HST).low).mono ?_
  rintro e w1 ⟨v1, rfl, ⟨k1, rfl, ho⟩, hb1⟩
  obtain ⟨ka, kc, rfl, _⟩ := ownsRow_slice ho
  have hx1 := (unhide HST).on hb1
  obtain ⟨⟨c0, c1, c2⟩, _, f0, _⟩ := hx1.facts
  have HR0 : Hid (Rn w (st 0) (.slice ka (st 0).rows.length kc) (put3 w1 w.heap.size (.int .i64 x.kind) (.int .i64 x.n) (.slice ka x.rows.length kc))) := by
    show Rn _ _ _ _
    rw [h00]
    have : Rn w x (.slice a x.rows.length cc) w1 → Rn w x (.slice ka x.rows.length kc) (put3 w1 w.heap.size (.int .i64 x.kind) (.int .i64 x.n) (.slice ka x.rows.length kc)) := fun h => h.put (ownsRow_less ho (by simp))
    obtain ⟨g1, g2, g3⟩ := hx1.blocks
    refine ⟨⟨hx1.low.os, hx1.low.tape, hx1.low.output, by rw [put3_size]; exact hx1.low.size, fun j hj => by rw [put3_other _ _ _ _ (by omega)]; exact hx1.low.block j hj⟩, ?_, by rw [put3_other _ _ _ _ (by omega)]; exact g2, ownsRow_same (ownsRow_less ho (by simp)) fun j hj => ?_⟩
    · have q1 := heap_setCell_same w1 w.heap.size 0 _ _ (.int .i64 x.kind) g1
      have q2 := heap_setCell_same _ w.heap.size 1 _ _ (.int .i64 x.n) q1
      have q3 := heap_setCell_same _ w.heap.size 2 _ _ (.slice ka x.rows.length kc) q2
      unfold put3
      simpa [Array.setIfInBounds] using q3
    · have := (ho.lt j hj).1
      rw [put3_other _ _ _ _ (by simp at this; omega)]
  unfold put3 at HR0
  clear hx1 ho hb1 HCL HST h00
  go_wp2_with fail
  go_loopw [12] (fun i wr => ∃ (k : Nat) (ka : Option Addr) (kc : Nat), k ≤ m ∧ i = .int .i64 (k : Int) ∧ Rn w (st k) (.slice ka (st k).rows.length kc) wr) (fun i _ => l.length - (intOf i).toNat)
  case atStart => exact ⟨0, _, _, Nat.zero_le _, rfl, unhide HR0⟩
  case round =>
    obtain ⟨k, ka, kc, hk, rfl, hrn⟩ := hrel
    clear c0 c1 c2 f0 HR0
    by_cases hlt : k < l.length
    · obtain ⟨b, off, rfl, hbl, e0, e1, e2, e3, e4, e5, e6⟩ := (unhide HROW).at k hlt
      have hlow := hrn.low
      rw [← hlow.cell (p := ⟨b, off + k * 7, none⟩) hbl] at e0
      rw [← hlow.cell (p := ⟨b, off + k * 7 + 1, none⟩) hbl] at e1
      rw [← hlow.cell (p := ⟨b, off + k * 7 + 2, none⟩) hbl] at e2
      rw [← hlow.cell (p := ⟨b, off + k * 7 + 3, none⟩) hbl] at e3
      rw [← hlow.cell (p := ⟨b, off + k * 7 + 4, none⟩) hbl] at e4
      rw [← hlow.cell (p := ⟨b, off + k * 7 + 5, none⟩) hbl] at e5
      rw [← hlow.cell (p := ⟨b, off + k * 7 + 6, none⟩) hbl] at e6
      have HLK := hide (unhide HLG k hlt)
      have HAK := hide (unhide HAP k hlt)
      have HL1 := hide (fun h : k < m => unhide HLE k hlt h)
      have HL2 : Hid (k = m → legal (st k) (l[k]'hlt).1 (l[k]'hlt).2 = false) := fun e => by subst e; exact unhide HSP hlt
      clear HLG HAP HLE HSP HROW
      generalize l[k]'hlt = q at *
      obtain ⟨⟨q1, q2, q3, q4⟩, ⟨q5, q6, q7⟩⟩ := q
      unfold mcV mrV at *
      dsimp only at *
      have hi0 : (0 : Int) ≤ (k : Int) := by omega
      have hi1 : (k : Int) < ((l.length : Nat) : Int) := by omega
      have hne : wr.heap.size ≠ b := by have := hlow.size; omega
      obtain ⟨W2, hW2⟩ : ∃ W2, wr.alloc (.cells #[.int .i64 q1, .string (S q2), .string (S q3), .int .i64 q4, .int .i64 q5, .string (S q6), .int .i64 q7] 60) = W2 := ⟨_, rfl⟩
      have hb2 : Below wr.heap.size wr W2 := by rw [← hW2]; exact under_box _
      have hc2 : W2.heap[wr.heap.size]? = some (.cells #[.int .i64 q1, .string (S q2), .string (S q3), .int .i64 q4, .int .i64 q5, .string (S q6), .int .i64 q7] 60 (0, 0)) := by rw [← hW2]; exact heap_alloc_new wr _
      have HN2 := hide (hrn.later hb2)
      have HC2 := hide hc2
      obtain ⟨p0, p1, p2, p3, p4, p5, p6⟩ := cells7 hc2
      obtain ⟨s0, s1, s2, _⟩ := cells3 (unhide HN2).st
      clear hrn hlow hb2 hc2
      go_upto_region 5 with fail
      try rw [hW2]
      clear hW2 e0 e1 e2 e3 e4 e5 e6
      go_wp2_with fail
      refine (unhide HLK _ _ (unhide HN2).low (unhide HN2)).mono ?_
      rintro e w3 ⟨rfl, hb3⟩
      have HN3 := hide ((unhide HN2).later hb3)
      have HC3 := hide ((hb3.block _ (block_lt (unhide HC2))).trans (unhide HC2))
      clear hb3 p0 p1 p2 p3 p4 p5 p6 s0 s1 s2 HN2 HC2 HLK
      obtain ⟨s0, s1, s2, fz⟩ := cells3 (unhide HN3).st
      by_cases hkm : k < m
      · rw [unhide HL1 hkm]
        obtain ⟨p0, p1, p2, p3, p4, p5, p6⟩ := cells7 (unhide HC3)
        have HKM := hide hkm
        clear HL1 HL2 hkm HC3
        go_wp2_with fail
        refine (unhide HAK _ _ (unhide HN3).low (unhide HN3)).mono ?_
        rintro e w4 ⟨v4, rfl, ⟨k4, rfl, ho4⟩, hb4⟩
        obtain ⟨za, zc, rfl, _⟩ := ownsRow_slice ho4
        have hn4 := (unhide HN3).later hb4
        clear s0 s1 s2 fz
        obtain ⟨s0, s1, s2, fz⟩ := cells3 hn4.st
        have HN5 := hide (hn4.put (ownsRow_less ho4 (by have := block_lt (unhide HN3).res; omega)))
        unfold put3 at HN5
        clear hn4 hb4 ho4 HAK HN3
        go_wp2_with fail
        go_roundw
        case rel => exact ⟨k + 1, _, _, by have := unhide HKM; omega, by go_num, unhide HN5⟩
        case measure => simp [intOf]; omega
      · have hke : k = m := by omega
        rw [unhide HL2 hke]
        obtain ⟨y0, y1, y2, fy⟩ := cells3 (unhide HN3).res
        obtain ⟨z0, z1, z2, zl, zo, _⟩ := give3 (unhide HN3).low (Nat.le_succ _) (unhide HN3).res (.int .i64 (st k).kind) (.int .i64 (st k).n) (.slice ka (st k).rows.length kc)
        have ZO := hide (zo _ _ _ _ _ _ (by omega) (unhide HN3).own)
        unfold put3 at z0 z1 z2 zl ZO
        have ZL := hide zl
        clear zl zo HN3 HC3 HAK HL1 HL2
        subst hke
        go_wp2_with fail
        exact bodyPost_ret (v := .tuple #[.agg #[.int .i64 (st k).kind, .int .i64 (st k).n, .slice ka (st k).rows.length kc], .int .i64 (k : Int)]) (by simp [results, Tryd.results25, go_sem, z0, z1, z2]) rfl ⟨_, rfl, ⟨_, rfl, unhide ZO⟩, unhide ZL⟩
    · have hke : k = m := by omega
      have hkl : l.length = m := by omega
      obtain ⟨s0, s1, s2, fz⟩ := cells3 hrn.st
      obtain ⟨y0, y1, y2, fy⟩ := cells3 hrn.res
      obtain ⟨z0, z1, z2, zl, zo, _⟩ := give3 hrn.low (Nat.le_succ _) hrn.res (.int .i64 (st k).kind) (.int .i64 (st k).n) (.slice ka (st k).rows.length kc)
      have ZO := hide (zo _ _ _ _ _ _ (by omega) hrn.own)
      unfold put3 at z0 z1 z2 zl ZO
      have ZL := hide zl
      clear zl zo hrn HLG HAP HLE HSP HROW
      subst hke
      have hi1 : ¬ (k : Int) < ((l.length : Nat) : Int) := by omega
      rw [hkl] at *
      clear hkl hlt hm hk
      go_wp2_with fail
      exact bodyPost_ret (v := .tuple #[.agg #[.int .i64 (st k).kind, .int .i64 (st k).n, .slice ka (st k).rows.length kc], .int .i64 (k : Int)]) (by simp [results, Tryd.results25, go_sem, z0, z1, z2]) rfl ⟨_, rfl, ⟨_, rfl, unhide ZO⟩, unhide ZL⟩
end Go.Proofs.YtadngcjchlpkaaaDoor
/- A raw row of calls, as a law is handed it; an answer whose code is turned is none of all answers. -/
namespace Go.Proofs.YtadngcjchlpkaaaDoor
open Go.RowKit Go.ChangeShapes Go.WideShapes
set_option linter.unusedVariables false
set_option maxRecDepth 100000

def RCall (w : World) (a : Option Addr) (i : Nat) (op : Int) (ca cb : ByteArray) (cn : Int) : Prop :=
  (∃ b off, a = some ⟨b, off, none⟩ ∧ b < w.heap.size ∧ w.cell? ⟨b, off + i * 4, none⟩ = some (.int .i64 op) ∧ w.cell? ⟨b, off + i * 4 + 1, none⟩ = some (.string ca) ∧ w.cell? ⟨b, off + i * 4 + 2, none⟩ = some (.string cb) ∧ w.cell? ⟨b, off + i * 4 + 3, none⟩ = some (.int .i64 cn)) ∧ I64 op ∧ I64 cn ∧ ca.size ≤ maxLen ∧ cb.size ≤ maxLen
def RCalls (w : World) (a : Option Addr) (len : Nat) : Prop := ∀ i, i < len → ∃ op ca cb cn, RCall w a i op ca cb cn
theorem open_calls {H : Type} {enc : TypeId × Value → H} {W : World} {base b0 : Nat} {spare : Nat → Bool} {held : Bool} {r : Reach} {v : Value} {d : DataW H} {p : List MemPlace}
    (hv : Value.okWide Tryd.prog W r b0 57 v) (hd : DataW.Trod enc Tryd.prog W base spare held 57 v d p) :
    ∃ a len cap, v = .slice a len cap ∧ (len : Int) ≤ 9223372036854775807 ∧ RCalls W a len := by
  obtain ⟨a, len, cap, rfl⟩ := okWide_slice Tryd.underlying57 hv
  obtain ⟨fuel, hf⟩ := hd
  have ce : Tryd.prog.cellsOf 27 = 4 := by kernel_rfl
  have hf' : DataW.trod enc Tryd.prog W base spare held fuel 57 [.slice a len cap] = some (d, p) := by simpa [Value.cells] using hf
  obtain ⟨hl, hm, hall⟩ := slice_structs Tryd.underlying57 (by rw [ce]; decide) hf'
  rw [ce] at hall
  unfold maxLen at hm
  refine ⟨a, len, cap, rfl, by omega, fun i hi => ?_⟩
  obtain ⟨b, off, cs, rfl, hlen, hcell, n, y, htr⟩ := hall i hi
  match cs, hlen with
  | [v0, v1, v2, v3], _ =>
    obtain ⟨y0, y1, y2, y3, m, _, _, t0, t1, t2, t3⟩ := Go.Joins.trod_struct4 Tryd.underlying27 htr
    have c0 := hcell 0 (by omega)
    have c1 := hcell 1 (by omega)
    have c2 := hcell 2 (by omega)
    have c3 := hcell 3 (by omega)
    simp at c0 c1 c2 c3
    have x25 : Tryd.prog.cellsOf 25 = 1 := by kernel_rfl
    have x9 : Tryd.prog.cellsOf 9 = 1 := by kernel_rfl
    have x2 : Tryd.prog.cellsOf 2 = 1 := by kernel_rfl
    simp [x25] at t0
    simp [x9] at t1 t2
    simp [x2] at t3
    obtain ⟨k0, e0, _, w0⟩ := DataW.trod_int Tryd.underlying25 t0
    obtain ⟨k1, e1, _, w1⟩ := DataW.trod_string Tryd.underlying9 t1
    obtain ⟨k2, e2, _, w2⟩ := DataW.trod_string Tryd.underlying9 t2
    obtain ⟨k3, e3, _, w3⟩ := DataW.trod_int Tryd.underlying2 t3
    simp only [List.cons.injEq, and_true] at e0 e1 e2 e3
    subst e0 e1 e2 e3
    exact ⟨k0, k1, k2, k3, ⟨b, off, rfl, cell_lt c0, c0, c1, c2, c3⟩, vwf_i64 w0, vwf_i64 w3, w1, w2⟩
theorem RCalls.later {w w' : World} {a : Option Addr} {len : Nat} (h : RCalls w a len) (hb : Below w.heap.size w w') : RCalls w' a len := fun i hi => by
  obtain ⟨op, ca, cb, cn, ⟨b, off, rfl, hlt, c0, c1, c2, c3⟩, h1⟩ := h i hi
  have hs := hb.size
  refine ⟨op, ca, cb, cn, ⟨b, off, rfl, by omega, ?_, ?_, ?_, ?_⟩, h1⟩
  · rw [hb.cell (p := ⟨b, off + i * 4, none⟩) hlt]; exact c0
  · rw [hb.cell (p := ⟨b, off + i * 4 + 1, none⟩) hlt]; exact c1
  · rw [hb.cell (p := ⟨b, off + i * 4 + 2, none⟩) hlt]; exact c2
  · rw [hb.cell (p := ⟨b, off + i * 4 + 3, none⟩) hlt]; exact c3
theorem tk_code (s : VS) : ∀ k r, r ∈ tk s k → r.code = 1
  | 0, r, h => by cases h
  | k + 1, r, h => by
    unfold tk at h
    rcases List.mem_append.mp h with h | h
    · exact tk_code s k r h
    · split at h
      · simp only [List.mem_singleton] at h
        rw [h]
      · cases h
theorem answers_code {s : VS} {c : MC} {q r : MR} (hq : q ∈ answers s c) (hr : r ∈ answers s c) : q.code = r.code := by
  unfold answers at hq hr
  split at hq
  · cases hq
  rename_i h0
  rw [if_neg h0] at hr
  have one {u : MR} (h1 : q ∈ [u]) (h2 : r ∈ [u]) : q.code = r.code := by
    rw [List.mem_singleton.mp h1, List.mem_singleton.mp h2]
  by_cases h1 : c.op = 1
  · rw [if_pos h1] at hq hr; exact one hq hr
  rw [if_neg h1] at hq hr
  by_cases h4 : c.op = 4 ∨ c.op = 7
  · rw [if_pos h4] at hq hr; exact one hq hr
  rw [if_neg h4] at hq hr
  by_cases h6 : c.op = 6
  · rw [if_pos h6] at hq hr; exact one hq hr
  rw [if_neg h6] at hq hr
  by_cases h8 : c.op = 8 ∨ c.op = 11
  · rw [if_pos h8] at hq hr; exact one hq hr
  rw [if_neg h8] at hq hr
  by_cases h9 : c.op = 9 ∨ c.op = 10 ∨ c.op = 12
  · rw [if_pos h9] at hq hr; exact one hq hr
  rw [if_neg h9] at hq hr
  by_cases h13 : c.op = 13
  · rw [if_pos h13] at hq hr; exact one hq hr
  rw [if_neg h13] at hq hr
  by_cases h15 : c.op = 15
  · rw [if_pos h15] at hq hr; exact one hq hr
  rw [if_neg h15] at hq hr
  by_cases h17 : c.op = 17
  · rw [if_pos h17] at hq hr
    unfold takes at hq hr
    split at hq
    · rename_i hl
      rw [if_pos hl] at hr
      exact one hq hr
    · rename_i hl
      rw [if_neg hl] at hr
      rw [tk_code s _ q hq, tk_code s _ r hr]
  · rw [if_neg h17] at hq hr; exact one hq hr
/- With another code it is not legal. -/
theorem bent_not {s : VS} {c : MC} {q : MR} (hq : q ∈ answers s c) (hc : q.code = 1 ∨ q.code = 2) : legal s c ⟨3 - q.code, q.text, q.n⟩ = false := by
  unfold legal
  refine decide_eq_false fun h => ?_
  have := answers_code hq h
  dsimp only at this
  omega
end Go.Proofs.YtadngcjchlpkaaaDoor
