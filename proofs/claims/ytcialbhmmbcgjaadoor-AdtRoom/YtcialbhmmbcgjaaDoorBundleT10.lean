/- Texts that this proof needs, one behind the other: TLegalW, TAnswW, TRoomW. -/
import Derived.Test.YtcialbhmmbcgjaaDoorBundleT9
import Derived.Test.YtcialbhmmbcgjaaDoorVLike
import Derived.Test.YtcialbhmmbcgjaaDoorMRes
import Derived.Test.YtcialbhmmbcgjaaDoorVOpen
import Derived.Test.YtcialbhmmbcgjaaDoorBundleT8
import Derived.Test.YtcialbhmmbcgjaaDoorVCheck2
/- The walk of AdtLegal. -/
namespace Go.Proofs.YtcialbhmmbcgjaaDoor
open Go.RowKit
set_option linter.unusedVariables false
set_option maxRecDepth 100000

/- All of a world is as it was. -/
def Fr (W w' : World) : Prop := Below W.heap.size W w'
theorem Fr.start (W : World) : Fr W W := Below.refl _ _
theorem Fr.drew {W w : World} (h : Fr W w) : Fr W w.drew := Below.drew h
theorem Fr.below {W w w' : World} (h : Fr W w) (hb : Below w.heap.size w w') : Fr W w' := Below.trans h (hb.mono (Below.size h))
theorem Fr.low {W w' : World} (h : Fr W w') : Below W.heap.size W w' := h
theorem Fr.cell3 {W : World} {N : Nat} {a b c : Value} {t : TypeId} (h : W.heap[N]? = some (.cells #[a, b, c] t (0, 0))) : (∀ w1, Fr W w1 → w1.cell? ⟨N, 0, none⟩ = some a) ∧ (∀ w1, Fr W w1 → w1.cell? ⟨N, 1, none⟩ = some b) ∧ (∀ w1, Fr W w1 → w1.cell? ⟨N, 2, none⟩ = some c) := by
  refine ⟨fun w1 hf => ?_, fun w1 hf => ?_, fun w1 hf => ?_⟩ <;> rw [block_cell ((Below.block hf _ (block_lt h)).trans h)] <;> rfl
theorem Fr.cell4 {W : World} {N : Nat} {a b c d : Value} {t : TypeId} (h : W.heap[N]? = some (.cells #[a, b, c, d] t (0, 0))) : (∀ w1, Fr W w1 → w1.cell? ⟨N, 0, none⟩ = some a) ∧ (∀ w1, Fr W w1 → w1.cell? ⟨N, 1, none⟩ = some b) ∧ (∀ w1, Fr W w1 → w1.cell? ⟨N, 2, none⟩ = some c) ∧ (∀ w1, Fr W w1 → w1.cell? ⟨N, 3, none⟩ = some d) := by
  refine ⟨fun w1 hf => ?_, fun w1 hf => ?_, fun w1 hf => ?_, fun w1 hf => ?_⟩ <;> rw [block_cell ((Below.block hf _ (block_lt h)).trans h)] <;> rfl
theorem may_b {V : MC} (h : V.may) : V.op ≠ 11 → V.b = [] := fun hne => by
  have h0 := h.1
  unfold MC.check at h0
  rw [if_neg (by simpa using MC.may_op h)] at h0
  split at h0
  · exact absurd h0 (by decide)
  · rename_i h2
    rcases List.eq_nil_or_concat V.b with e | ⟨x, y, e⟩
    · exact e
    · exact absurd (Or.inr (Or.inl ⟨by rw [e]; simp, by simp [hasB, hne]⟩)) h2
theorem may_small {x : VS} (h : x.may) : x.rows.length ≤ 8 := Nat.le_trans (VS.may_rows h).1 (VS.most_le x)

set_option maxHeartbeats 51200000 in
theorem tlegal_any {w : World} {v : Value} {s : VS} (hs : StAt w v s) (hsn : -9223372036854775808 ≤ s.n ∧ s.n ≤ 9223372036854775807) (hsz : ∀ i (h : i < s.rows.length), (s.rows[i]'h).1.length ≤ maxLen ∧ (s.rows[i]'h).2.length ≤ maxLen)
    (op : Int) (ca cb : ByteArray) (cn : Int) (hop : I64 op) (hn : I64 cn) (hca : ca.size ≤ maxLen) (hcb : cb.size ≤ maxLen) (r : MR) (hrt : r.text.length ≤ maxLen) (hw : MD w) :
    Calls Tryd.prog 4 #[v, .agg #[.int .i64 op, .string ca, .string cb, .int .i64 cn], mrV r] w fun e w' => e = .returned (.bool true) ∧ Below w.heap.size w w' := by
  have HTS := hide (fun (w1 : World) (hb : Below w.heap.size w w1) => tstate_any (hs.later hb) hsn hsz)
  have HOF := hide (fun (w1 : World) (v : Value) (x : VS) (h : StAt w1 v x) => of_any h op ca cb cn hop hn hca hcb)
  have HAW := hide (fun (w1 : World) (hb : Below w.heap.size w w1) => tawake_any (hw.later hb))
  have HCK := hide (fun (w1 : World) => mrcheck_any (w := w1) r hrt)
  have HMD := hide hw
  obtain ⟨k0, rfl, hr⟩ := hs
  obtain ⟨a, c, rfl, hc, hm⟩ := hr.shape
  obtain ⟨y1, y2, y3⟩ := r
  unfold mrV at *
  dsimp only at *
  obtain ⟨A, hA⟩ : ∃ A : Obj, A = .cells #[.int .i64 s.kind, .int .i64 s.n, .slice a s.rows.length c] 24 (0, 0) := ⟨_, rfl⟩
  obtain ⟨B, hB⟩ : ∃ B : Obj, B = .cells #[.int .i64 op, .string ca, .string cb, .int .i64 cn] 27 (0, 0) := ⟨_, rfl⟩
  obtain ⟨C, hC⟩ : ∃ C : Obj, C = .cells #[.int .i64 y1, .string (S y2), .int .i64 y3] 44 (0, 0) := ⟨_, rfl⟩
  obtain ⟨c0, c1, c2, k0, k1, k2, k3, r0, r1, r2⟩ := B3.scr (w := w) hA hB hC
  have HCB := hide hC
  have hst := B3.start w A B C
  clear hr hw hsn hsz hop hn hca hcb hrt
  go_enter Tryd.func4, Tryd.ntmps4
  go_wp2_with fail
  rw [← hA, ← hB, ← hC]
  clear hA hB hC
  refine (unhide HTS _ hst.low).mono ?_
  rintro e w1 ⟨v1, rfl, x, hmay, _, ⟨kx, rfl, hox⟩, hb1⟩
  obtain ⟨xa, xc, rfl, _⟩ := ownsRow_slice hox
  have hx1 := hst.below hb1
  have HMAY := hide hmay
  have hx1b : B3 w A B C (w1.alloc (.cells #[.int .i64 x.kind, .int .i64 x.n, .slice xa x.rows.length xc] 30)) := hx1.below (under_box _)
  have hxat : StAt (w1.alloc (.cells #[.int .i64 x.kind, .int .i64 x.n, .slice xa x.rows.length xc] 30)) (.agg #[.int .i64 x.kind, .int .i64 x.n, .slice xa x.rows.length xc]) x := ⟨_, rfl, Row2.of_own (hox.alloc _)⟩
  have HXAT := hide hxat
  have HXBOX := hide (heap_alloc_new w1 (.cells #[.int .i64 x.kind, .int .i64 x.n, .slice xa x.rows.length xc] 30))
  have HXB := hide hx1b
  clear hmay hox hb1 hx1 hxat hst HTS
  go_wp2_with fail
  refine (unhide HOF _ _ _ (unhide HXAT)).mono ?_
  rintro e w2 ⟨V, rfl, hV, hb2⟩
  have hx2 := (unhide HXB).below hb2
  have hx2b : B3 w A B C (w2.alloc (.cells #[.int .i64 V.op, .string (S V.a), .string (S V.b), .int .i64 V.n] 33)) := hx2.below (under_box _)
  have HXAT2 := hide ((unhide HXAT).later (hb2.trans ((under_box (.cells #[.int .i64 V.op, .string (S V.a), .string (S V.b), .int .i64 V.n] 33)).mono hb2.size)))
  have HXBOX2 := hide (((hb2.trans ((under_box (.cells #[.int .i64 V.op, .string (S V.a), .string (S V.b), .int .i64 V.n] 33)).mono hb2.size)).block w1.heap.size (by simp)).trans (unhide HXBOX))
  have HDBOX := hide (heap_alloc_new w2 (.cells #[.int .i64 V.op, .string (S V.a), .string (S V.b), .int .i64 V.n] 33))
  have HV := hide hV
  have HXB2 := hide hx2b
  clear hV hb2 hx2 hx1b HXAT HXBOX HXB HOF
  unfold mcV
  go_wp2_with fail
  refine (unhide HAW _ (unhide HXB2).low).mono ?_
  rintro e w3 ⟨rfl, hb3⟩
  have hx3 := (unhide HXB2).below hb3
  have HX3 := hide hx3
  have HXAT3 := hide ((unhide HXAT2).later hb3)
  have HXBOX3 := hide ((hb3.block w1.heap.size (block_lt (unhide HXBOX2))).trans (unhide HXBOX2))
  have HDBOX3 := hide ((hb3.block w2.heap.size (block_lt (unhide HDBOX))).trans (unhide HDBOX))
  clear hb3 hx2b HXAT2 HXBOX2 HDBOX HXB2
  go_wp2_with fail
  refine (unhide HCK _).mono ?_
  rintro e w4 ⟨rfl, hb4⟩
  have hx4 := (unhide HX3).below hb4
  have HX4 := hide hx4
  have HXAT4 := hide ((unhide HXAT3).later hb4)
  have HXBOX4 := hide ((hb4.block w1.heap.size (block_lt (unhide HXBOX3))).trans (unhide HXBOX3))
  have HDBOX4 := hide ((hb4.block w2.heap.size (block_lt (unhide HDBOX3))).trans (unhide HDBOX3))
  clear hb4 hx3 HXAT3 HXBOX3 HDBOX3 HX3 HCK
  by_cases hck : MR.check ⟨y1, y2, y3⟩ = 0
  · have e0 : (MR.check ⟨y1, y2, y3⟩ != 0) = false := by rw [hck]; rfl
    clear hck
    go_upto_region 5 with fail
    have HOWN := hide (fun (wz : World) (hb : Below w4.heap.size w4 wz) => own_any ((unhide HXAT4).later hb) (by have := may_small (unhide HMAY); omega))
    have HOWC : Hid (∀ wz : World, Calls Tryd.prog 12 #[.agg #[.int .i64 V.op, .string (S V.a), .string (S V.b), .int .i64 V.n]] wz fun e w' => e = .returned (.agg #[.int .i64 V.op, .string (S V.a), .string (S V.b), .int .i64 V.n]) ∧ Below wz.heap.size wz w') := fun wz => mown_any V
    refine two2_T 24 25 26 27 9 10 (.agg #[.int .i64 x.kind, .int .i64 x.n, .slice xa x.rows.length xc]) (.agg #[.int .i64 V.op, .string (S V.a), .string (S V.b), .int .i64 V.n]) (.int .i64 x.kind) (.int .i64 x.n) (.int .i64 V.op) (.string (S V.a)) (.string (S V.b)) (.int .i64 V.n) 70 24 27 x.rows.length (R9 x.rows) (by kernel_rfl) rfl (fun i hi => ?hlow) (by kernel_rfl) (by kernel_rfl) (by kernel_rfl) (by kernel_rfl) (by kernel_rfl) (by kernel_rfl) ?H0 ?H1 ?H2 ?H3 ?H4 ?H5 ?H6 ?H7 ?hend
    case hlow =>
      have hc : i = 0 ∨ i = 1 ∨ i = 2 ∨ i = 3 ∨ i = 4 ∨ i = 5 ∨ i = 6 ∨ i = 7 := by have : i < 8 := hi; omega
      rcases hc with rfl | rfl | rfl | rfl | rfl | rfl | rfl | rfl <;> decide +kernel
    case H0 =>
      intro x0 x1 x2 x3 x4 x5 wz K hb hK
      obtain ⟨d0, d1, d2, _⟩ := cell3 ((hb.block _ (block_lt (unhide HXBOX4))).trans (unhide HXBOX4))
      simp only [set6, List.setIfInBounds_toArray, List.set_cons_zero, List.set_cons_succ] at hK ⊢
      unfold wpOp
      simp only [List.getElem?_toArray, List.getElem?_cons_zero, Region.wanted, if_true]
      refine .inl ?_
      unfold Oper.wp execOp
      go_simp
      exact hK
    case H1 =>
      intro x1 x2 x3 x4 x5 wz K hb hK
      simp only [set6, List.setIfInBounds_toArray, List.set_cons_zero, List.set_cons_succ] at hK ⊢
      unfold wpOp
      simp only [List.getElem?_toArray, List.getElem?_cons_zero, List.getElem?_cons_succ, Region.wanted, if_true]
      refine .inl ?_
      unfold Oper.wp execOp
      go_simp
      refine (unhide HOWN _ hb).mono ?_
      rintro e w' ⟨v', rfl, ⟨kk, rfl, ho⟩, hb'⟩
      obtain ⟨ka, kc, rfl, _⟩ := ownsRow_slice ho
      exact hK _ ka kc hb' ho
    case H2 =>
      intro x0 x1 x2 x3 x4 x5 wz K hb hK
      obtain ⟨d0, d1, d2, d3, _⟩ := cell4 ((hb.block _ (block_lt (unhide HDBOX4))).trans (unhide HDBOX4))
      simp only [set6, List.setIfInBounds_toArray, List.set_cons_zero, List.set_cons_succ] at hK ⊢
      unfold wpOp
      simp only [List.getElem?_toArray, List.getElem?_cons_zero, List.getElem?_cons_succ, Region.wanted, if_true]
      refine .inl ?_
      unfold Oper.wp execOp
      go_simp
      exact hK
    case H3 =>
      intro x0 x1 x3 x4 x5 wz K hb hK
      simp only [set6, List.setIfInBounds_toArray, List.set_cons_zero, List.set_cons_succ] at hK ⊢
      unfold wpOp
      simp only [List.getElem?_toArray, List.getElem?_cons_zero, List.getElem?_cons_succ, Region.wanted, if_true]
      refine .inl ?_
      unfold Oper.wp execOp
      go_simp
      refine (unhide HOWC _).mono ?_
      rintro e w' ⟨rfl, hb'⟩
      exact hK _ hb'
    case H4 =>
      intro x0 x1 x2 x3 x4 x5 wz K
      refine ⟨.int .i64 0, .int .i64 0, .slice none 0 0, fun hK => ?_⟩
      unfold ptr at hK
      simp only [set6, List.setIfInBounds_toArray, List.set_cons_zero, List.set_cons_succ] at hK ⊢
      unfold wpOp
      simp only [List.getElem?_toArray, List.getElem?_cons_zero, List.getElem?_cons_succ, Region.wanted, if_true]
      refine .inl ?_
      unfold Oper.wp execOp
      go_simp
      exact hK
    case H5 =>
      intro x0 x1 x2 x3 x4 x5 wz K
      refine ⟨.int .i64 0, .string ⟨#[]⟩, .string ⟨#[]⟩, .int .i64 0, fun hK => ?_⟩
      unfold ptr at hK
      simp only [set6, List.setIfInBounds_toArray, List.set_cons_zero, List.set_cons_succ] at hK ⊢
      unfold wpOp
      simp only [List.getElem?_toArray, List.getElem?_cons_zero, List.getElem?_cons_succ, Region.wanted, if_true]
      refine .inl ?_
      unfold Oper.wp execOp
      go_simp
      exact hK
    case H6 =>
      intro x0 x2 x3 x5 wz K q ka kc y1 y2 y3 hq hK
      obtain ⟨d0, d1, d2, fz⟩ := cell3 hq
      unfold ptr put3 at *
      simp only [set6, List.setIfInBounds_toArray, List.set_cons_zero, List.set_cons_succ] at hK ⊢
      unfold wpOp
      simp only [List.getElem?_toArray, List.getElem?_cons_zero, List.getElem?_cons_succ, Region.wanted, if_true]
      refine .inl ?_
      unfold Oper.wp execOp
      go_simp
      exact hK
    case H7 =>
      intro x0 x1 x2 x4 wz K q y1 y2 y3 y4 hq hK
      obtain ⟨d0, d1, d2, d3, fz⟩ := cell4 hq
      unfold ptr put4c put3 at *
      simp only [set6, List.setIfInBounds_toArray, List.set_cons_zero, List.set_cons_succ] at hK ⊢
      unfold wpOp
      simp only [List.getElem?_toArray, List.getElem?_cons_zero, List.getElem?_cons_succ, Region.wanted, if_true]
      refine .inl ?_
      unfold Oper.wp execOp
      go_simp
      exact hK
    case hend =>
      intro w5 qA qB ka kc hb5 hqa hqb hqn hA5 hB5 hown
      unfold ptr
      simp only [set6, List.setIfInBounds_toArray, List.set_cons_zero, List.set_cons_succ]
      have hX5 := (hb5.block _ (block_lt (unhide HXBOX4))).trans (unhide HXBOX4)
      have hD5 := (hb5.block _ (block_lt (unhide HDBOX4))).trans (unhide HDBOX4)
      have hC5 := (hb5.block _ (block_lt hx4.heap.2.2)).trans hx4.heap.2.2
      rw [unhide HCB] at hC5
      obtain ⟨xc0, xc1, xc2⟩ := Fr.cell3 hX5
      obtain ⟨dc0, dc1, dc2, dc3⟩ := Fr.cell4 hD5
      obtain ⟨rc0, rc1, rc2⟩ := Fr.cell3 hC5
      obtain ⟨ac0, ac1, ac2⟩ := Fr.cell3 hA5
      obtain ⟨bc0, bc1, bc2, bc3⟩ := Fr.cell4 hB5
      have HL5 : Hid (Below w.heap.size w w5) := hx4.low.trans (hb5.mono hx4.low.size)
      have hso : StOwn w4.heap.size 70 w5 (.agg #[.int .i64 x.kind, .int .i64 x.n, .slice ka x.rows.length kc]) x := ⟨_, rfl, hown⟩
      have hxat5 := (unhide HXAT4).later hb5
      have hop := MC.may_op (unhide HV)
      have hsm : x.rows.length ≤ 1000 := by have := may_small (unhide HMAY); omega
      have hfit := VS.may.fit (unhide HMAY)
      obtain ⟨R, hR⟩ : ∃ R, legal x V ⟨y1, y2, y3⟩ = R := ⟨_, rfl⟩
      obtain ⟨Y, hY⟩ : ∃ Y, apply2 x V ⟨y1, y2, y3⟩ = Y := ⟨_, rfl⟩
      have hYl : Y.rows.length ≤ 1000 := by rw [← hY]; have := apply_len x V ⟨y1, y2, y3⟩; have := may_small (unhide HMAY); omega
      have hmd : ∀ wz, Fr w5 wz → MD wz := fun wz hf => (unhide HMD).later ((unhide HL5).trans (hf.low.mono (unhide HL5).size))
      have HLE : Hid (∀ wz, Fr w5 wz → Calls Tryd.prog 15 #[.agg #[.int .i64 x.kind, .int .i64 x.n, .slice ka x.rows.length kc], .agg #[.int .i64 V.op, .string (S V.a), .string (S V.b), .int .i64 V.n], .agg #[.int .i64 y1, .string (S y2), .int .i64 y3]] wz fun e w' => e = .returned (.bool R) ∧ Below wz.heap.size wz w') := fun wz hf => by rw [← hR]; exact alegal_any (c := V) (hso.at.later hf.low) hsm hop (hmd wz hf) ⟨y1, y2, y3⟩
      have HRL : Hid (∀ wz, Fr w5 wz → Calls Tryd.prog 21 #[.agg #[.int .i64 x.kind, .int .i64 x.n, .slice xa x.rows.length xc], .agg #[.int .i64 V.op, .string (S V.a), .string (S V.b), .int .i64 V.n], .agg #[.int .i64 y1, .string (S y2), .int .i64 y3]] wz fun e w' => e = .returned (.bool R) ∧ Below wz.heap.size wz w') := fun wz hf => by rw [← hR]; exact rlegal_any (c := V) (hxat5.later hf.low) hsm hop ⟨y1, y2, y3⟩
      have HAP : Hid (∀ wz, Fr w5 wz → Calls Tryd.prog 19 #[.agg #[.int .i64 x.kind, .int .i64 x.n, .slice ka x.rows.length kc], .agg #[.int .i64 V.op, .string (S V.a), .string (S V.b), .int .i64 V.n], .agg #[.int .i64 y1, .string (S y2), .int .i64 y3]] wz fun e w' => ∃ v', e = .returned v' ∧ StOwn wz.heap.size 70 w' v' Y ∧ Below wz.heap.size wz w') := fun wz hf => by rw [← hY, ← apply_same hfit]; exact aapply_any (c := V) (hso.later hf.low) hsm hop (hmd wz hf) ⟨y1, y2, y3⟩
      have HRA : Hid (∀ wz, Fr w5 wz → Calls Tryd.prog 20 #[.agg #[.int .i64 x.kind, .int .i64 x.n, .slice xa x.rows.length xc], .agg #[.int .i64 V.op, .string (S V.a), .string (S V.b), .int .i64 V.n], .agg #[.int .i64 y1, .string (S y2), .int .i64 y3]] wz fun e w' => ∃ v', e = .returned v' ∧ StAt w' v' Y ∧ Below wz.heap.size wz w') := fun wz hf => by rw [← hY]; exact rapply_any (c := V) (hxat5.later hf.low) hsm hop (may_b (unhide HV)) hfit ⟨y1, y2, y3⟩
      have HTO := hide (fun (wz : World) (v : Value) (h : StAt wz v Y) => told_any h hYl)
      have HLI : Hid (∀ (wz : World) (va vb : Value), StAt wz va Y → StAt wz vb Y → Calls Tryd.prog 17 #[va, vb] wz fun e w' => e = .returned (.bool true) ∧ Below wz.heap.size wz w') := fun wz va vb h1 h2 => by
        have := like_any h1 h2
        rw [show Y.alike Y = true by simp [VS.alike]] at this
        exact this
      have hst := Fr.start w5
      have hstd := hst.drew
      have hRR : (R == R) = true := by cases R <;> rfl
      clear hX5 hD5 hC5 hA5 hB5 hso hxat5 hop hsm hfit hYl hmd hR hY hown hb5 hqa hqb hqn hx4 c0 c1 c2 k0 k1 k2 k3 r0 r1 r2 e0 HOWN HOWC HAW HMD HCB HX4 HXAT4 HXBOX4 HDBOX4 HMAY HV
      go_wp2_with fail
      go_region_held3 (fun w' => Fr w5 w') (with_reducible (first | exact hstd | exact hst | (refine Fr.below ?_ (by assumption) <;> assumption)))
        (first | (go_at_call 15; refine (unhide HLE _ (by assumption)).mono ?_; rintro e wa ⟨rfl, hba⟩) | (go_at_call 21; refine (unhide HRL _ (by assumption)).mono ?_; rintro e wb ⟨rfl, hbb⟩) | (go_at_call 19; refine (unhide HAP _ (by assumption)).mono ?_; rintro e wc ⟨vc, rfl, hyc, hbc⟩; have HYC := hide hyc.at; obtain ⟨kc', rfl, hoc⟩ := hyc; obtain ⟨ya, yc, rfl, _⟩ := ownsRow_slice hoc; clear hoc) | (go_at_call 18; refine (unhide HTO _ _ (unhide HYC)).mono ?_; rintro e wd ⟨vd, rfl, hyd, hbd⟩; have HYD := hide hyd.at; obtain ⟨kd', rfl, hod⟩ := hyd; obtain ⟨za, zc, rfl, _⟩ := ownsRow_slice hod; clear hod) | (go_at_call 20; refine (unhide HRA _ (by assumption)).mono ?_; rintro e we ⟨ve, rfl, hye, hbe⟩; have HYD2 := hide ((unhide HYD).later hbe); have HYE := hide hye; obtain ⟨ke, rfl, hke⟩ := hye; obtain ⟨ua, uc, rfl, _, _⟩ := hke.shape; clear hke) | (go_at_call 17; refine (unhide HLI _ _ _ (unhide HYD2) (unhide HYE)).mono ?_; rintro e wf ⟨rfl, hbf⟩) | fail)
      have hx6 : Fr w5 wf := by assumption
      have HL6 := hide ((unhide HL5).trans (hx6.low.mono (unhide HL5).size))
      clear hx6 hbf
      go_wp2_with fail
      go_ret
      exact ⟨rfl, unhide HL6⟩
  · have e0 : (MR.check ⟨y1, y2, y3⟩ != 0) = true := by rw [bne_iff_ne]; exact hck
    clear hck
    go_wp2_with fail
    refine (unhide HAW _ (unhide HX4).low).mono ?_
    rintro e w5 ⟨rfl, hb5⟩
    have HL := hide ((unhide HX4).below hb5).low
    clear hb5
    go_wp2_with fail
    go_ret
    exact ⟨rfl, unhide HL⟩
theorem raw_text (t : ByteArray) (h : t.size ≤ maxLen) : ∃ y : List UInt8, t = S y ∧ y.length ≤ maxLen := by
  obtain ⟨a⟩ := t
  exact ⟨a.toList, by simp [S], by rw [Array.length_toList]; exact h⟩
theorem adtLegal_walk {H : Type} {enc : TypeId × Value → H} {base b0 : Nat} {spare : Nat → Bool} {held : Bool} {r : Reach} {v : Value} {d : DataW H} {p : List MemPlace} (w : World)
    (hv : Value.okWide Tryd.prog w r b0 24 v) (hd : DataW.Trod enc Tryd.prog w base spare held 24 v d p) (op : Int) (wop : (Lit.int .i64 op).wf = true) (ca : ByteArray) (wca : ca.size ≤ maxLen) (cb : ByteArray) (wcb : cb.size ≤ maxLen) (cn : Int) (wcn : (Lit.int .i64 cn).wf = true)
    (k : Int) (wk : (Lit.int .i64 k).wf = true) (t : ByteArray) (wt : t.size ≤ maxLen) (m : Int) (wm : (Lit.int .i64 m).wf = true) (hw : MD w) :
    Calls Tryd.prog 4 #[v, .agg #[.int .i64 op, .string ca, .string cb, .int .i64 cn], .agg #[.int .i64 k, .string t, .int .i64 m]] w fun e w' => e = .returned (.bool true) ∧ Below w.heap.size w w' := by
  obtain ⟨s, hs, _, hn, hz⟩ := open_state hv hd
  obtain ⟨y, rfl, hy⟩ := raw_text t wt
  exact tlegal_any hs hn hz op ca cb cn (vwf_i64 wop) (vwf_i64 wcn) wca wcb ⟨k, y, m⟩ hy hw
end Go.Proofs.YtcialbhmmbcgjaaDoor
/- The walk of AdtAnswers. -/
namespace Go.Proofs.YtcialbhmmbcgjaaDoor
open Go.RowKit
set_option linter.unusedVariables false
set_option maxRecDepth 100000

theorem Fr.one {W : World} {p : Addr} {v : Value} (hp : p.block < W.heap.size) (h : W.cell? p = some v) : ∀ w1, Fr W w1 → w1.cell? p = some v := fun w1 hf => (Below.cell hf hp).trans h
theorem cellsB {w : World} {N : Nat} {a b c d : Value} {t : TypeId} (h : w.heap[N]? = some (.cells #[a, b, c, d] t (0, 0))) : w.cell? ⟨N, 0, none⟩ = some a ∧ w.cell? ⟨N, 1, none⟩ = some b ∧ w.cell? ⟨N, 2, none⟩ = some c ∧ w.cell? ⟨N, 3, none⟩ = some d := by
  refine ⟨?_, ?_, ?_, ?_⟩ <;> rw [block_cell h] <;> rfl
theorem below_put4c {B : Nat} {w w' : World} (h : Below B w w') {N : Nat} (hN : B ≤ N) (a b c d : Value) : Below B w (put4c w' N a b c d) :=
  ⟨h.os, h.tape, h.output, by rw [put4c_size]; exact h.size, fun j hj => by rw [put4c_other _ _ _ _ _ (by omega)]; exact h.block j hj⟩
theorem check_len {r : MR} (h : r.check = 0) : r.text.length ≤ 24 := by
  unfold MR.check at h
  split at h
  · cases h
  · split at h
    · cases h
    · omega
theorem check_of {r : MR} (h1 : r.code = 1 ∨ r.code = 2) (h2 : r.text.length ≤ 24) (h3 : r.text = [] ∨ r.n = 0) : r.check = 0 := by
  unfold MR.check
  rw [if_neg (by omega), if_neg (by omega), if_neg]
  rintro ⟨a, b⟩
  rcases h3 with h3 | h3
  · exact a h3
  · exact b h3
theorem may_key {x : VS} (h : x.may) (k : Nat) : (x.key k).length ≤ 24 ∧ (x.val k).length ≤ 24 := by
  unfold VS.key VS.val
  by_cases hk : k < x.rows.length
  · have := VS.may_len h k hk
    simpa [List.getD, hk] using this
  · simp [List.getD, List.getElem?_eq_none (Nat.le_of_not_lt hk)]
theorem okR_check (b : Bool) : (okR b).check = 0 := by cases b <;> decide
theorem tk_check {x : VS} (h : x.may) : ∀ k r, r ∈ tk x k → r.check = 0
  | 0, r, hr => by cases hr
  | k + 1, r, hr => by
    unfold tk at hr
    rcases List.mem_append.mp hr with hr | hr
    · exact tk_check h k r hr
    · split at hr
      · simp only [List.mem_singleton] at hr
        subst hr
        exact check_of (Or.inl rfl) (may_key h k).1 (Or.inr rfl)
      · cases hr
theorem answers_check {x : VS} {c : MC} {r : MR} (h : x.may) (hr : r ∈ answers x c) : r.check = 0 := by
  unfold answers at hr
  split at hr
  · cases hr
  split at hr
  · simp only [List.mem_singleton] at hr; subst hr; exact check_of (Or.inl rfl) (may_key h 0).1 (Or.inr rfl)
  split at hr
  · simp only [List.mem_singleton] at hr; subst hr; exact check_of (Or.inl rfl) (by simp) (Or.inl rfl)
  split at hr
  · simp only [List.mem_singleton] at hr; subst hr; exact okR_check _
  split at hr
  · simp only [List.mem_singleton] at hr; subst hr; exact okR_check _
  split at hr
  · simp only [List.mem_singleton] at hr; subst hr; exact okR_check _
  split at hr
  · simp only [List.mem_singleton] at hr; subst hr
    unfold lookR
    split
    · exact check_of (Or.inl rfl) (may_key h _).2 (Or.inr rfl)
    · exact okR_check _
  split at hr
  · simp only [List.mem_singleton] at hr; subst hr
    unfold frontR
    split
    · exact okR_check _
    · exact check_of (Or.inl rfl) (may_key h 0).1 (Or.inr rfl)
  split at hr
  · unfold takes at hr
    split at hr
    · simp only [List.mem_singleton] at hr; subst hr; exact okR_check _
    · exact tk_check h _ r hr
  · simp only [List.mem_singleton] at hr; subst hr; exact okR_check _
theorem like_same {w : World} {va vb : Value} {s : VS} (ha : StAt w va s) (hb : StAt w vb s) : Calls Tryd.prog 17 #[va, vb] w fun e w' => e = .returned (.bool true) ∧ Below w.heap.size w w' := by
  have := like_any ha hb
  rw [show s.alike s = true by simp [VS.alike]] at this
  exact this

set_option maxHeartbeats 102400000 in
theorem tansw_no {w : World} {v : Value} {s : VS} (hs : StAt w v s) (hsn : -9223372036854775808 ≤ s.n ∧ s.n ≤ 9223372036854775807) (hsz : ∀ i (h : i < s.rows.length), (s.rows[i]'h).1.length ≤ maxLen ∧ (s.rows[i]'h).2.length ≤ maxLen)
    (op : Int) (ca cb : ByteArray) (cn : Int) (hop : I64 op) (hn : I64 cn) (hca : ca.size ≤ maxLen) (hcb : cb.size ≤ maxLen) (hw : MD w) :
    Calls Tryd.prog 3 #[v, .agg #[.int .i64 op, .string ca, .string cb, .int .i64 cn], .bool false] w fun e w' => e = .returned (.bool true) ∧ Below w.heap.size w w' := by
  have HTS := hide (fun (w1 : World) (hb : Below w.heap.size w w1) => tstate_any (hs.later hb) hsn hsz)
  have HTI := hide (fun (w1 : World) => mtidy_any (w := w1) op ca cb cn hop hn hca hcb)
  have HOF := hide (fun (w1 : World) (v : Value) (x : VS) (h : StAt w1 v x) => of_any h op ca cb cn hop hn hca hcb)
  have HAW := hide (fun (w1 : World) (hb : Below w.heap.size w w1) => tawake_any (hw.later hb))
  have HMD := hide hw
  obtain ⟨k0, rfl, hr⟩ := hs
  obtain ⟨a, c, rfl, hc, hm⟩ := hr.shape
  have hst := B2.start w (.cells #[.int .i64 s.kind, .int .i64 s.n, .slice a s.rows.length c] 24) (.cells #[.int .i64 op, .string ca, .string cb, .int .i64 cn] 27)
  clear hr hw hsn hsz hop hn hca hcb
  go_enter Tryd.func3, Tryd.ntmps3
  go_wp2_with fail
  refine (unhide HTS _ hst.low).mono ?_
  rintro e w1 ⟨v1, rfl, x, hmay, _, ⟨kx, rfl, hox⟩, hb1⟩
  obtain ⟨xa, xc, rfl, _⟩ := ownsRow_slice hox
  have hx1 := hst.on hb1
  have HMAY := hide hmay
  have HXB := hide (hx1.on (under_box (.cells #[.int .i64 x.kind, .int .i64 x.n, .slice xa x.rows.length xc] 30)))
  have HXAT : Hid (StAt (w1.alloc (.cells #[.int .i64 x.kind, .int .i64 x.n, .slice xa x.rows.length xc] 30)) (.agg #[.int .i64 x.kind, .int .i64 x.n, .slice xa x.rows.length xc]) x) := ⟨_, rfl, Row2.of_own (hox.alloc _)⟩
  have HXBOX := hide (heap_alloc_new w1 (.cells #[.int .i64 x.kind, .int .i64 x.n, .slice xa x.rows.length xc] 30))
  obtain ⟨k0, k1, k2, k3⟩ := cellsB (unhide HXB).heap.2
  clear hmay hox hb1 hx1 hst HTS
  go_wp2_with fail
  refine (unhide HTI _).mono ?_
  rintro e w2 ⟨V, rfl, hV0, hb2⟩
  unfold mcV
  have HV := hide hV0
  have hbw := hb2.trans ((under_box (.cells #[.int .i64 V.op, .string (S V.a), .string (S V.b), .int .i64 V.n] 33)).mono hb2.size)
  have HLW := hide ((unhide HXB).on hbw).low
  have HXAT2 := hide ((unhide HXAT).later hbw)
  have HXBOX2 := hide ((hbw.block w1.heap.size (by simp)).trans (unhide HXBOX))
  have HDBOX2 := hide (heap_alloc_new w2 (.cells #[.int .i64 V.op, .string (S V.a), .string (S V.b), .int .i64 V.n] 33))
  clear hV0 hb2 hbw HXAT HXBOX HXB k0 k1 k2 k3
  go_wp2_with fail
  refine (unhide HAW _ (unhide HLW)).mono ?_
  rintro e w4 ⟨rfl, hb4⟩
  have HXAT4 := hide ((unhide HXAT2).later hb4)
  have HXBOX4 := hide ((hb4.block w1.heap.size (block_lt (unhide HXBOX2))).trans (unhide HXBOX2))
  have HDBOX4 := hide ((hb4.block w2.heap.size (block_lt (unhide HDBOX2))).trans (unhide HDBOX2))
  have HL4 := hide ((unhide HLW).trans (hb4.mono (unhide HLW).size))
  clear hb4 HXAT2 HXBOX2 HDBOX2 HLW HAW
  go_upto_region 7 with fail
  have HOWN := hide (fun (wz : World) (hb : Below w4.heap.size w4 wz) => own_any ((unhide HXAT4).later hb) (by have := may_small (unhide HMAY); omega))
  have HOWC : Hid (∀ wz : World, Calls Tryd.prog 12 #[.agg #[.int .i64 V.op, .string (S V.a), .string (S V.b), .int .i64 V.n]] wz fun e w' => e = .returned (.agg #[.int .i64 V.op, .string (S V.a), .string (S V.b), .int .i64 V.n]) ∧ Below wz.heap.size wz w') := fun wz => mown_any V
  refine two2_T 25 26 27 28 9 10 (.agg #[.int .i64 x.kind, .int .i64 x.n, .slice xa x.rows.length xc]) (.agg #[.int .i64 V.op, .string (S V.a), .string (S V.b), .int .i64 V.n]) (.int .i64 x.kind) (.int .i64 x.n) (.int .i64 V.op) (.string (S V.a)) (.string (S V.b)) (.int .i64 V.n) 70 24 27 x.rows.length (R9 x.rows) (by kernel_rfl) rfl (fun i hi => ?hlow) (by kernel_rfl) (by kernel_rfl) (by kernel_rfl) (by kernel_rfl) (by kernel_rfl) (by kernel_rfl) ?H0 ?H1 ?H2 ?H3 ?H4 ?H5 ?H6 ?H7 ?hend
  case hlow =>
    have hc : i = 0 ∨ i = 1 ∨ i = 2 ∨ i = 3 ∨ i = 4 ∨ i = 5 ∨ i = 6 ∨ i = 7 := by have : i < 8 := hi; omega
    rcases hc with rfl | rfl | rfl | rfl | rfl | rfl | rfl | rfl <;> decide +kernel
  case H0 =>
    intro x0 x1 x2 x3 x4 x5 wz K hb hK
    obtain ⟨d0, d1, d2, _⟩ := cell3 ((hb.block _ (block_lt (unhide HXBOX4))).trans (unhide HXBOX4))
    simp only [set6, List.setIfInBounds_toArray, List.set_cons_zero, List.set_cons_succ] at hK ⊢
    unfold wpOp
    simp only [List.getElem?_toArray, List.getElem?_cons_zero, Region.wanted, if_true]
    refine .inl ?_
    unfold Oper.wp execOp
    go_simp
    exact hK
  case H1 =>
    intro x1 x2 x3 x4 x5 wz K hb hK
    simp only [set6, List.setIfInBounds_toArray, List.set_cons_zero, List.set_cons_succ] at hK ⊢
    unfold wpOp
    simp only [List.getElem?_toArray, List.getElem?_cons_zero, List.getElem?_cons_succ, Region.wanted, if_true]
    refine .inl ?_
    unfold Oper.wp execOp
    go_simp
    refine (unhide HOWN _ hb).mono ?_
    rintro e w' ⟨v', rfl, ⟨kk, rfl, ho⟩, hb'⟩
    obtain ⟨ka, kc, rfl, _⟩ := ownsRow_slice ho
    exact hK _ ka kc hb' ho
  case H2 =>
    intro x0 x1 x2 x3 x4 x5 wz K hb hK
    obtain ⟨d0, d1, d2, d3, _⟩ := cell4 ((hb.block _ (block_lt (unhide HDBOX4))).trans (unhide HDBOX4))
    simp only [set6, List.setIfInBounds_toArray, List.set_cons_zero, List.set_cons_succ] at hK ⊢
    unfold wpOp
    simp only [List.getElem?_toArray, List.getElem?_cons_zero, List.getElem?_cons_succ, Region.wanted, if_true]
    refine .inl ?_
    unfold Oper.wp execOp
    go_simp
    exact hK
  case H3 =>
    intro x0 x1 x3 x4 x5 wz K hb hK
    simp only [set6, List.setIfInBounds_toArray, List.set_cons_zero, List.set_cons_succ] at hK ⊢
    unfold wpOp
    simp only [List.getElem?_toArray, List.getElem?_cons_zero, List.getElem?_cons_succ, Region.wanted, if_true]
    refine .inl ?_
    unfold Oper.wp execOp
    go_simp
    refine (unhide HOWC _).mono ?_
    rintro e w' ⟨rfl, hb'⟩
    exact hK _ hb'
  case H4 =>
    intro x0 x1 x2 x3 x4 x5 wz K
    refine ⟨.int .i64 0, .int .i64 0, .slice none 0 0, fun hK => ?_⟩
    unfold ptr at hK
    simp only [set6, List.setIfInBounds_toArray, List.set_cons_zero, List.set_cons_succ] at hK ⊢
    unfold wpOp
    simp only [List.getElem?_toArray, List.getElem?_cons_zero, List.getElem?_cons_succ, Region.wanted, if_true]
    refine .inl ?_
    unfold Oper.wp execOp
    go_simp
    exact hK
  case H5 =>
    intro x0 x1 x2 x3 x4 x5 wz K
    refine ⟨.int .i64 0, .string ⟨#[]⟩, .string ⟨#[]⟩, .int .i64 0, fun hK => ?_⟩
    unfold ptr at hK
    simp only [set6, List.setIfInBounds_toArray, List.set_cons_zero, List.set_cons_succ] at hK ⊢
    unfold wpOp
    simp only [List.getElem?_toArray, List.getElem?_cons_zero, List.getElem?_cons_succ, Region.wanted, if_true]
    refine .inl ?_
    unfold Oper.wp execOp
    go_simp
    exact hK
  case H6 =>
    intro x0 x2 x3 x5 wz K q ka kc y1 y2 y3 hq hK
    obtain ⟨d0, d1, d2, fz⟩ := cell3 hq
    unfold ptr put3 at *
    simp only [set6, List.setIfInBounds_toArray, List.set_cons_zero, List.set_cons_succ] at hK ⊢
    unfold wpOp
    simp only [List.getElem?_toArray, List.getElem?_cons_zero, List.getElem?_cons_succ, Region.wanted, if_true]
    refine .inl ?_
    unfold Oper.wp execOp
    go_simp
    exact hK
  case H7 =>
    intro x0 x1 x2 x4 wz K q y1 y2 y3 y4 hq hK
    obtain ⟨d0, d1, d2, d3, fz⟩ := cell4 hq
    unfold ptr put4c put3 at *
    simp only [set6, List.setIfInBounds_toArray, List.set_cons_zero, List.set_cons_succ] at hK ⊢
    unfold wpOp
    simp only [List.getElem?_toArray, List.getElem?_cons_zero, List.getElem?_cons_succ, Region.wanted, if_true]
    refine .inl ?_
    unfold Oper.wp execOp
    go_simp
    exact hK
  case hend =>
    intro w5 qA qB ka kc hb5 hqa hqb hqn hA5 hB5 hown
    unfold ptr
    simp only [set6, List.setIfInBounds_toArray, List.set_cons_zero, List.set_cons_succ]
    have hX5 := (hb5.block _ (block_lt (unhide HXBOX4))).trans (unhide HXBOX4)
    have hD5 := (hb5.block _ (block_lt (unhide HDBOX4))).trans (unhide HDBOX4)
    obtain ⟨xc0, xc1, xc2⟩ := Fr.cell3 hX5
    obtain ⟨dc0, dc1, dc2, dc3⟩ := Fr.cell4 hD5
    obtain ⟨ac0, ac1, ac2⟩ := Fr.cell3 hA5
    obtain ⟨bc0, bc1, bc2, bc3⟩ := Fr.cell4 hB5
    have HX5 := hide hX5
    have HD5 := hide hD5
    have HA5 := hide hA5
    have HB5 := hide hB5
    have HL5 : Hid (Below w.heap.size w w5) := (unhide HL4).trans (hb5.mono (unhide HL4).size)
    have HSO5 : Hid (StOwn w4.heap.size 70 w5 (.agg #[.int .i64 x.kind, .int .i64 x.n, .slice ka x.rows.length kc]) x) := ⟨_, rfl, hown⟩
    have HXAT5 := hide ((unhide HXAT4).later hb5)
    have hop := MC.may_op (unhide HV)
    have hsm : x.rows.length ≤ 1000 := by have := may_small (unhide HMAY); omega
    obtain ⟨l, hl⟩ : ∃ l, answers x V = l := ⟨_, rfl⟩
    have HLA := hide hl
    have HCH7 : Hid (∀ r, r ∈ l → MR.check r = 0) := fun r hr => answers_check (unhide HMAY) (by rw [hl]; exact hr)
    have hmd : ∀ wz, Fr w5 wz → MD wz := fun wz hf => (unhide HMD).later ((unhide HL5).trans (hf.low.mono (unhide HL5).size))
    have HAN : Hid (∀ wz, Fr w5 wz → Calls Tryd.prog 13 #[.agg #[.int .i64 x.kind, .int .i64 x.n, .slice ka x.rows.length kc], .agg #[.int .i64 V.op, .string (S V.a), .string (S V.b), .int .i64 V.n]] wz fun e w' => ∃ v', e = .returned v' ∧ Row3 w' v' l ∧ Below wz.heap.size wz w') := fun wz hf => by rw [← hl]; exact aanswers_any (c := V) ((unhide HSO5).at.later hf.low) hsm hop (hmd wz hf)
    have HRN : Hid (∀ wz, Fr w5 wz → Calls Tryd.prog 14 #[.agg #[.int .i64 x.kind, .int .i64 x.n, .slice xa x.rows.length xc], .agg #[.int .i64 V.op, .string (S V.a), .string (S V.b), .int .i64 V.n]] wz fun e w' => ∃ v', e = .returned v' ∧ Row3 w' v' l ∧ Below wz.heap.size wz w') := fun wz hf => by rw [← hl]; exact ranswers_any (c := V) ((unhide HXAT5).later hf.low) hsm hop
    have hst := Fr.start w5
    have hstd := hst.drew
    clear hX5 hD5 hA5 hB5 hop hsm hmd hl hown hb5 hqa hqb hqn HOWN HOWC HXAT4 HXBOX4 HDBOX4 HL4
    go_wp2_with fail
    go_region_held3 (fun w' => Fr w5 w') (with_reducible (first | exact hstd | exact hst | (refine Fr.below ?_ (by assumption) <;> assumption)))
      (first | (go_at_call 13; refine (unhide HAN _ (by assumption)).mono ?_; rintro e wa ⟨va, rfl, hra, hba⟩; obtain ⟨sa, sc, rfl, _, _⟩ := hra.shape; have HRA0 := hide hra; clear hra) | (go_at_call 14; refine (unhide HRN _ (by assumption)).mono ?_; rintro e w7 ⟨vb, rfl, hrb, hbb⟩; obtain ⟨ta, tc, rfl, _, _⟩ := hrb.shape; have HRW7 := hide hrb; have HRL7 := hide ((unhide HRA0).later hbb); clear hrb HRA0) | fail)
    have h7 : Fr w5 w7 := by assumption
    have HX7 := hide ((h7.low.block _ (block_lt (unhide HX5))).trans (unhide HX5))
    have HD7 := hide ((h7.low.block _ (block_lt (unhide HD5))).trans (unhide HD5))
    have HA7 := hide ((h7.low.block _ (block_lt (unhide HA5))).trans (unhide HA5))
    have HB7 := hide ((h7.low.block _ (block_lt (unhide HB5))).trans (unhide HB5))
    have HL7 := hide ((unhide HL5).trans (h7.low.mono (unhide HL5).size))
    have HSO7 := hide ((unhide HSO5).later h7.low)
    have HXAT7 := hide ((unhide HXAT5).later h7.low)
    have hll : ((l.length : Nat) : Int) ≤ 9223372036854775807 := by
      obtain ⟨_, _, e, h1, h2, _⟩ := (unhide HRL7)
      unfold maxLen at h2
      omega
    clear h7 hst hstd hba hbb HAN HRN HX5 HD5 HA5 HB5 HL5 HSO5 HXAT5 xc0 xc1 xc2 dc0 dc1 dc2 dc3 ac0 ac1 ac2 bc0 bc1 bc2 bc3
    go_wp2_with fail
    go_loopw [42] (fun i wr => ∃ k : Nat, k ≤ l.length ∧ i = .int .i64 (k : Int) ∧ Fr w7 wr) (fun i _ => l.length - (intOf i).toNat)
    case atStart => exact ⟨0, Nat.zero_le _, rfl, Fr.start _⟩
    case round =>
      obtain ⟨k, hk, rfl, hfr⟩ := hrel
      by_cases hlt : k < l.length
      · obtain ⟨bl, ol, rfl, hbl, e1, e2, e3⟩ := (unhide HRL7).at k hlt
        obtain ⟨bw, ow, rfl, hbw, g1, g2, g3⟩ := (unhide HRW7).at k hlt
        have HIN := hide (List.getElem_mem hlt)
        have HCHK := hide (unhide HCH7 _ (List.getElem_mem hlt))
        rw [← (Fr.low hfr).cell (p := ⟨bl, ol + k * 3, none⟩) hbl] at e1
        rw [← (Fr.low hfr).cell (p := ⟨bl, ol + k * 3 + 1, none⟩) hbl] at e2
        rw [← (Fr.low hfr).cell (p := ⟨bl, ol + k * 3 + 2, none⟩) hbl] at e3
        rw [← (Fr.low hfr).cell (p := ⟨bw, ow + k * 3, none⟩) hbw] at g1
        rw [← (Fr.low hfr).cell (p := ⟨bw, ow + k * 3 + 1, none⟩) hbw] at g2
        rw [← (Fr.low hfr).cell (p := ⟨bw, ow + k * 3 + 2, none⟩) hbw] at g3
        generalize l[k]'hlt = q at *
        obtain ⟨y1, y2, y3⟩ := q
        dsimp only at *
        have hi0 : (0 : Int) ≤ (k : Int) := by omega
        have hi1 : (k : Int) < ((l.length : Nat) : Int) := by omega
        have hne : wr.heap.size ≠ bl := by have := (Fr.low hfr).size; omega
        obtain ⟨C, hC⟩ : ∃ C : Obj, C = .cells #[.int .i64 y1, .string (S y2), .int .i64 y3] 44 (0, 0) := ⟨_, rfl⟩
        obtain ⟨W8, hW8⟩ : ∃ W8, wr.alloc C = W8 := ⟨_, rfl⟩
        have hb8 : Below wr.heap.size wr W8 := by rw [← hW8]; exact under_box _
        have hf8 : Below w7.heap.size w7 W8 := (Fr.low hfr).trans (hb8.mono (Fr.low hfr).size)
        have hc8 : W8.heap[wr.heap.size]? = some (.cells #[.int .i64 y1, .string (S y2), .int .i64 y3] 44 (0, 0)) := by rw [← hW8, ← hC]; exact heap_alloc_new wr C
        obtain ⟨rc0, rc1, rc2⟩ := Fr.cell3 hc8
        obtain ⟨xc0, xc1, xc2⟩ := Fr.cell3 ((hf8.block _ (block_lt (unhide HX7))).trans (unhide HX7))
        obtain ⟨dc0, dc1, dc2, dc3⟩ := Fr.cell4 ((hf8.block _ (block_lt (unhide HD7))).trans (unhide HD7))
        obtain ⟨ac0, ac1, ac2⟩ := Fr.cell3 ((hf8.block _ (block_lt (unhide HA7))).trans (unhide HA7))
        obtain ⟨bc0, bc1, bc2, bc3⟩ := Fr.cell4 ((hf8.block _ (block_lt (unhide HB7))).trans (unhide HB7))
        have hbwr : bw < wr.heap.size := by have := (Fr.low hfr).size; omega
        have wc0 := Fr.one (W := W8) (p := ⟨bw, ow + k * 3, none⟩) (by have := hb8.size; show bw < _; omega) ((hb8.cell (p := ⟨bw, ow + k * 3, none⟩) hbwr).trans g1)
        have wc1 := Fr.one (W := W8) (p := ⟨bw, ow + k * 3 + 1, none⟩) (by have := hb8.size; show bw < _; omega) ((hb8.cell (p := ⟨bw, ow + k * 3 + 1, none⟩) hbwr).trans g2)
        have wc2 := Fr.one (W := W8) (p := ⟨bw, ow + k * 3 + 2, none⟩) (by have := hb8.size; show bw < _; omega) ((hb8.cell (p := ⟨bw, ow + k * 3 + 2, none⟩) hbwr).trans g3)
        have HF8 := hide hf8
        have hop := MC.may_op (unhide HV)
        have hsm : x.rows.length ≤ 1000 := by have := may_small (unhide HMAY); omega
        have hfit := VS.may.fit (unhide HMAY)
        have hso8 := (unhide HSO7).later hf8
        have hxat8 := (unhide HXAT7).later hf8
        have hchk : MR.check ⟨y1, y2, y3⟩ = 0 := unhide HCHK
        have hyl : y2.length ≤ maxLen := Nat.le_trans (check_len hchk) (by unfold maxLen; decide)
        have hlg : legal x V ⟨y1, y2, y3⟩ = true := by unfold legal; have := unhide HIN; rw [← unhide HLA] at this; exact decide_eq_true this
        obtain ⟨Y, hY⟩ : ∃ Y, apply2 x V ⟨y1, y2, y3⟩ = Y := ⟨_, rfl⟩
        have hYl : Y.rows.length ≤ 1000 := by rw [← hY]; have := apply_len x V ⟨y1, y2, y3⟩; have := may_small (unhide HMAY); omega
        have hL8 : Below w.heap.size w W8 := (unhide HL7).trans (hf8.mono (unhide HL7).size)
        have hmd : ∀ wz, Fr W8 wz → MD wz := fun wz hf => (unhide HMD).later (hL8.trans (hf.low.mono hL8.size))
        have HLE : Hid (∀ wz, Fr W8 wz → Calls Tryd.prog 15 #[.agg #[.int .i64 x.kind, .int .i64 x.n, .slice ka x.rows.length kc], .agg #[.int .i64 V.op, .string (S V.a), .string (S V.b), .int .i64 V.n], .agg #[.int .i64 y1, .string (S y2), .int .i64 y3]] wz fun e w' => e = .returned (.bool true) ∧ Below wz.heap.size wz w') := fun wz hf => by rw [← hlg]; exact alegal_any (c := V) (hso8.at.later hf.low) hsm hop (hmd wz hf) ⟨y1, y2, y3⟩
        have HCK : Hid (∀ wz, Calls Tryd.prog 16 #[.agg #[.int .i64 y1, .string (S y2), .int .i64 y3]] wz fun e w' => e = .returned (.int .i64 0) ∧ Below wz.heap.size wz w') := fun wz => by rw [← hchk]; exact mrcheck_any ⟨y1, y2, y3⟩ hyl
        have HAP : Hid (∀ wz, Fr W8 wz → Calls Tryd.prog 19 #[.agg #[.int .i64 x.kind, .int .i64 x.n, .slice ka x.rows.length kc], .agg #[.int .i64 V.op, .string (S V.a), .string (S V.b), .int .i64 V.n], .agg #[.int .i64 y1, .string (S y2), .int .i64 y3]] wz fun e w' => ∃ v', e = .returned v' ∧ StOwn wz.heap.size 70 w' v' Y ∧ Below wz.heap.size wz w') := fun wz hf => by rw [← hY, ← apply_same hfit]; exact aapply_any (c := V) (hso8.later hf.low) hsm hop (hmd wz hf) ⟨y1, y2, y3⟩
        have HRA : Hid (∀ wz, Fr W8 wz → Calls Tryd.prog 20 #[.agg #[.int .i64 x.kind, .int .i64 x.n, .slice xa x.rows.length xc], .agg #[.int .i64 V.op, .string (S V.a), .string (S V.b), .int .i64 V.n], .agg #[.int .i64 y1, .string (S y2), .int .i64 y3]] wz fun e w' => ∃ v', e = .returned v' ∧ StAt w' v' Y ∧ Below wz.heap.size wz w') := fun wz hf => by rw [← hY]; exact rapply_any (c := V) (hxat8.later hf.low) hsm hop (may_b (unhide HV)) hfit ⟨y1, y2, y3⟩
        have HTO := hide (fun (wz : World) (v : Value) (h : StAt wz v Y) => told_any h hYl)
        have HT2 := hide (fun (wz : World) (hf : Fr W8 wz) => told_any (hso8.at.later hf.low) hsm)
        have HXF := hide (fun (wz : World) (hf : Fr W8 wz) => hxat8.later hf.low)
        have HLI := hide (fun (wz : World) (va vb : Value) (h1 : StAt wz va Y) (h2 : StAt wz vb Y) => like_same h1 h2)
        have HL2 := hide (fun (wz : World) (va vb : Value) (h1 : StAt wz va x) (h2 : StAt wz vb x) => like_same h1 h2)
        have hst := Fr.start W8
        have hstd := hst.drew
        have HFR8 : Hid (∀ wz, Fr W8 wz → Fr w7 wz) := fun wz hf => (unhide HF8).trans (hf.low.mono (unhide HF8).size)
        clear hop hsm hfit hso8 hxat8 hchk hyl hlg hY hYl hL8 hmd hf8 hc8 hb8 hfr g1 g2 g3 HIN HCHK
        go_upto_region 14 with fail
        rw [← hC, hW8]
        clear hC hW8 e1 e2 e3
        go_region_held3 (fun w' => Fr W8 w') (with_reducible (first | exact hstd | exact hst | (refine Fr.below ?_ (by assumption) <;> assumption)))
          (first | (go_at_call 15; refine (unhide HLE _ (by assumption)).mono ?_; rintro e wa ⟨rfl, hba⟩) | (go_at_call 16; refine (unhide HCK _).mono ?_; rintro e wb ⟨rfl, hbb⟩) | fail)
        have hsb : Fr W8 wb := by assumption
        have hsbd := hsb.drew
        clear hst hstd hba hbb HLE HCK
        go_wp2_with fail
        go_region_held3 (fun w' => Fr W8 w') (with_reducible (first | exact hsbd | exact hsb | (refine Fr.below ?_ (by assumption) <;> assumption)))
          (first | (go_at_call 19; refine (unhide HAP _ (by assumption)).mono ?_; rintro e wc ⟨vc, rfl, hyc, hbc⟩; have HYC := hide hyc.at; obtain ⟨kc', rfl, hoc⟩ := hyc; obtain ⟨ya, yc, rfl, _⟩ := ownsRow_slice hoc; clear hoc) | (go_at_call 18; first | (have hq := HYD; clear hq; refine (unhide HT2 _ (by assumption)).mono ?_; rintro e wg ⟨vg, rfl, hyg, hbg⟩; have HYG := hide hyg.at; obtain ⟨kg', rfl, hog⟩ := hyg; obtain ⟨pa, pc, rfl, _⟩ := ownsRow_slice hog; clear hog) | (refine (unhide HTO _ _ (unhide HYC)).mono ?_; rintro e wd ⟨vd, rfl, hyd, hbd⟩; have HYD := hide hyd.at; obtain ⟨kd', rfl, hod⟩ := hyd; obtain ⟨za, zc, rfl, _⟩ := ownsRow_slice hod; clear hod)) | (go_at_call 20; refine (unhide HRA _ (by assumption)).mono ?_; rintro e we ⟨ve, rfl, hye, hbe⟩; have HYD2 := hide ((unhide HYD).later hbe); have HYE := hide hye; obtain ⟨ke, rfl, hke⟩ := hye; obtain ⟨ua, uc, rfl, _, _⟩ := hke.shape; clear hke) | (go_at_call 17; first | (have hq := HYG; clear hq; refine (unhide HL2 _ _ _ (unhide HYG) (unhide HXF _ (by assumption))).mono ?_; rintro e wh ⟨rfl, hbh⟩) | (refine (unhide HLI _ _ _ (unhide HYD2) (unhide HYE)).mono ?_; rintro e wf ⟨rfl, hbf⟩)) | fail)
        have HSH := hide (unhide HFR8 wh (by assumption))
        go_wp2_with fail
        go_roundw
        case rel => exact ⟨k + 1, by omega, by go_num, unhide HSH⟩
        case measure => simp [intOf]; omega
      · have HL := hide ((unhide HL7).trans ((Fr.low hfr).mono (unhide HL7).size))
        have hkn : k = l.length := by omega
        subst hkn
        clear hfr
        go_wp2_with fail
        go_ret
        exact ⟨rfl, unhide HL⟩
set_option maxHeartbeats 102400000 in
theorem tansw_yes {w : World} {v : Value} {s : VS} (hs : StAt w v s) (hsn : -9223372036854775808 ≤ s.n ∧ s.n ≤ 9223372036854775807) (hsz : ∀ i (h : i < s.rows.length), (s.rows[i]'h).1.length ≤ maxLen ∧ (s.rows[i]'h).2.length ≤ maxLen)
    (op : Int) (ca cb : ByteArray) (cn : Int) (hop : I64 op) (hn : I64 cn) (hca : ca.size ≤ maxLen) (hcb : cb.size ≤ maxLen) (hw : MD w) :
    Calls Tryd.prog 3 #[v, .agg #[.int .i64 op, .string ca, .string cb, .int .i64 cn], .bool true] w fun e w' => e = .returned (.bool true) ∧ Below w.heap.size w w' := by
  have HTS := hide (fun (w1 : World) (hb : Below w.heap.size w w1) => tstate_any (hs.later hb) hsn hsz)
  have HTI := hide (fun (w1 : World) => mtidy_any (w := w1) op ca cb cn hop hn hca hcb)
  have HOF := hide (fun (w1 : World) (v : Value) (x : VS) (h : StAt w1 v x) => of_any h op ca cb cn hop hn hca hcb)
  have HAW := hide (fun (w1 : World) (hb : Below w.heap.size w w1) => tawake_any (hw.later hb))
  have HMD := hide hw
  obtain ⟨k0, rfl, hr⟩ := hs
  obtain ⟨a, c, rfl, hc, hm⟩ := hr.shape
  have hst := B2.start w (.cells #[.int .i64 s.kind, .int .i64 s.n, .slice a s.rows.length c] 24) (.cells #[.int .i64 op, .string ca, .string cb, .int .i64 cn] 27)
  clear hr hw hsn hsz hop hn hca hcb
  go_enter Tryd.func3, Tryd.ntmps3
  go_wp2_with fail
  refine (unhide HTS _ hst.low).mono ?_
  rintro e w1 ⟨v1, rfl, x, hmay, _, ⟨kx, rfl, hox⟩, hb1⟩
  obtain ⟨xa, xc, rfl, _⟩ := ownsRow_slice hox
  have hx1 := hst.on hb1
  have HMAY := hide hmay
  have HXB := hide (hx1.on (under_box (.cells #[.int .i64 x.kind, .int .i64 x.n, .slice xa x.rows.length xc] 30)))
  have HXAT : Hid (StAt (w1.alloc (.cells #[.int .i64 x.kind, .int .i64 x.n, .slice xa x.rows.length xc] 30)) (.agg #[.int .i64 x.kind, .int .i64 x.n, .slice xa x.rows.length xc]) x) := ⟨_, rfl, Row2.of_own (hox.alloc _)⟩
  have HXBOX := hide (heap_alloc_new w1 (.cells #[.int .i64 x.kind, .int .i64 x.n, .slice xa x.rows.length xc] 30))
  obtain ⟨k0, k1, k2, k3⟩ := cellsB (unhide HXB).heap.2
  clear hmay hox hb1 hx1 hst HTS
  go_wp2_with fail
  refine (unhide HTI _).mono ?_
  rintro e w2 ⟨V0, rfl, hV0, hb2⟩
  unfold mcV
  have hbw := hb2.trans ((under_box (.cells #[.int .i64 V0.op, .string (S V0.a), .string (S V0.b), .int .i64 V0.n] 33)).mono hb2.size)
  have HXB2 := hide ((unhide HXB).on hbw)
  have HXAT1 := hide ((unhide HXAT).later hbw)
  have HXBOX1 := hide ((hbw.block w1.heap.size (by simp)).trans (unhide HXBOX))
  have HDBOX1 := hide (heap_alloc_new w2 (.cells #[.int .i64 V0.op, .string (S V0.a), .string (S V0.b), .int .i64 V0.n] 33))
  have HBW := hide hbw
  have HN := hide hb2.size
  clear k0 k1 k2 k3
  obtain ⟨k0, k1, k2, k3⟩ := cellsB (unhide HXB2).heap.2
  obtain ⟨d0, d1, d2, _⟩ := cell3 (unhide HXBOX1)
  clear hV0 hb2 hbw
  go_wp2_with fail
  refine (unhide HOF _ _ _ (unhide HXAT1)).mono ?_
  rintro e wq ⟨V, rfl, hV, hbq⟩
  have HV := hide hV
  have HDBOXq := hide ((hbq.block w2.heap.size (block_lt (unhide HDBOX1))).trans (unhide HDBOX1))
  have hb3p := below_put4c ((unhide HBW).trans (hbq.mono (unhide HBW).size)) (unhide HN) (.int .i64 V.op) (.string (S V.a)) (.string (S V.b)) (.int .i64 V.n)
  have HLW := hide ((unhide HXB).on hb3p).low
  have HXAT2 := hide ((unhide HXAT).later hb3p)
  have HXBOX2 := hide ((hb3p.block w1.heap.size (by simp)).trans (unhide HXBOX))
  have HDBOX2 := hide (put4c_cells (unhide HDBOXq) (.int .i64 V.op) (.string (S V.a)) (.string (S V.b)) (.int .i64 V.n))
  obtain ⟨q0, q1, q2, q3, fq⟩ := cell4 (unhide HDBOXq)
  unfold put4c put3 at HLW HXAT2 HXBOX2 HDBOX2
  clear hV hbq hb3p HXB2 HXAT1 HXBOX1 HDBOX1 HDBOXq HBW HN HXAT HXBOX HXB k0 k1 k2 k3 d0 d1 d2 HOF
  unfold mcV
  go_wp2_with fail
  refine (unhide HAW _ (unhide HLW)).mono ?_
  rintro e w4 ⟨rfl, hb4⟩
  have HXAT4 := hide ((unhide HXAT2).later hb4)
  have HXBOX4 := hide ((hb4.block w1.heap.size (block_lt (unhide HXBOX2))).trans (unhide HXBOX2))
  have HDBOX4 := hide ((hb4.block w2.heap.size (block_lt (unhide HDBOX2))).trans (unhide HDBOX2))
  have HL4 := hide ((unhide HLW).trans (hb4.mono (unhide HLW).size))
  clear hb4 HXAT2 HXBOX2 HDBOX2 HLW HAW
  go_upto_region 7 with fail
  have HOWN := hide (fun (wz : World) (hb : Below w4.heap.size w4 wz) => own_any ((unhide HXAT4).later hb) (by have := may_small (unhide HMAY); omega))
  have HOWC : Hid (∀ wz : World, Calls Tryd.prog 12 #[.agg #[.int .i64 V.op, .string (S V.a), .string (S V.b), .int .i64 V.n]] wz fun e w' => e = .returned (.agg #[.int .i64 V.op, .string (S V.a), .string (S V.b), .int .i64 V.n]) ∧ Below wz.heap.size wz w') := fun wz => mown_any V
  refine two2_T 25 26 27 28 9 10 (.agg #[.int .i64 x.kind, .int .i64 x.n, .slice xa x.rows.length xc]) (.agg #[.int .i64 V.op, .string (S V.a), .string (S V.b), .int .i64 V.n]) (.int .i64 x.kind) (.int .i64 x.n) (.int .i64 V.op) (.string (S V.a)) (.string (S V.b)) (.int .i64 V.n) 70 24 27 x.rows.length (R9 x.rows) (by kernel_rfl) rfl (fun i hi => ?hlow) (by kernel_rfl) (by kernel_rfl) (by kernel_rfl) (by kernel_rfl) (by kernel_rfl) (by kernel_rfl) ?H0 ?H1 ?H2 ?H3 ?H4 ?H5 ?H6 ?H7 ?hend
  case hlow =>
    have hc : i = 0 ∨ i = 1 ∨ i = 2 ∨ i = 3 ∨ i = 4 ∨ i = 5 ∨ i = 6 ∨ i = 7 := by have : i < 8 := hi; omega
    rcases hc with rfl | rfl | rfl | rfl | rfl | rfl | rfl | rfl <;> decide +kernel
  case H0 =>
    intro x0 x1 x2 x3 x4 x5 wz K hb hK
    obtain ⟨d0, d1, d2, _⟩ := cell3 ((hb.block _ (block_lt (unhide HXBOX4))).trans (unhide HXBOX4))
    simp only [set6, List.setIfInBounds_toArray, List.set_cons_zero, List.set_cons_succ] at hK ⊢
    unfold wpOp
    simp only [List.getElem?_toArray, List.getElem?_cons_zero, Region.wanted, if_true]
    refine .inl ?_
    unfold Oper.wp execOp
    go_simp
    exact hK
  case H1 =>
    intro x1 x2 x3 x4 x5 wz K hb hK
    simp only [set6, List.setIfInBounds_toArray, List.set_cons_zero, List.set_cons_succ] at hK ⊢
    unfold wpOp
    simp only [List.getElem?_toArray, List.getElem?_cons_zero, List.getElem?_cons_succ, Region.wanted, if_true]
    refine .inl ?_
    unfold Oper.wp execOp
    go_simp
    refine (unhide HOWN _ hb).mono ?_
    rintro e w' ⟨v', rfl, ⟨kk, rfl, ho⟩, hb'⟩
    obtain ⟨ka, kc, rfl, _⟩ := ownsRow_slice ho
    exact hK _ ka kc hb' ho
  case H2 =>
    intro x0 x1 x2 x3 x4 x5 wz K hb hK
    obtain ⟨d0, d1, d2, d3, _⟩ := cell4 ((hb.block _ (block_lt (unhide HDBOX4))).trans (unhide HDBOX4))
    simp only [set6, List.setIfInBounds_toArray, List.set_cons_zero, List.set_cons_succ] at hK ⊢
    unfold wpOp
    simp only [List.getElem?_toArray, List.getElem?_cons_zero, List.getElem?_cons_succ, Region.wanted, if_true]
    refine .inl ?_
    unfold Oper.wp execOp
    go_simp
    exact hK
  case H3 =>
    intro x0 x1 x3 x4 x5 wz K hb hK
    simp only [set6, List.setIfInBounds_toArray, List.set_cons_zero, List.set_cons_succ] at hK ⊢
    unfold wpOp
    simp only [List.getElem?_toArray, List.getElem?_cons_zero, List.getElem?_cons_succ, Region.wanted, if_true]
    refine .inl ?_
    unfold Oper.wp execOp
    go_simp
    refine (unhide HOWC _).mono ?_
    rintro e w' ⟨rfl, hb'⟩
    exact hK _ hb'
  case H4 =>
    intro x0 x1 x2 x3 x4 x5 wz K
    refine ⟨.int .i64 0, .int .i64 0, .slice none 0 0, fun hK => ?_⟩
    unfold ptr at hK
    simp only [set6, List.setIfInBounds_toArray, List.set_cons_zero, List.set_cons_succ] at hK ⊢
    unfold wpOp
    simp only [List.getElem?_toArray, List.getElem?_cons_zero, List.getElem?_cons_succ, Region.wanted, if_true]
    refine .inl ?_
    unfold Oper.wp execOp
    go_simp
    exact hK
  case H5 =>
    intro x0 x1 x2 x3 x4 x5 wz K
    refine ⟨.int .i64 0, .string ⟨#[]⟩, .string ⟨#[]⟩, .int .i64 0, fun hK => ?_⟩
    unfold ptr at hK
    simp only [set6, List.setIfInBounds_toArray, List.set_cons_zero, List.set_cons_succ] at hK ⊢
    unfold wpOp
    simp only [List.getElem?_toArray, List.getElem?_cons_zero, List.getElem?_cons_succ, Region.wanted, if_true]
    refine .inl ?_
    unfold Oper.wp execOp
    go_simp
    exact hK
  case H6 =>
    intro x0 x2 x3 x5 wz K q ka kc y1 y2 y3 hq hK
    obtain ⟨d0, d1, d2, fz⟩ := cell3 hq
    unfold ptr put3 at *
    simp only [set6, List.setIfInBounds_toArray, List.set_cons_zero, List.set_cons_succ] at hK ⊢
    unfold wpOp
    simp only [List.getElem?_toArray, List.getElem?_cons_zero, List.getElem?_cons_succ, Region.wanted, if_true]
    refine .inl ?_
    unfold Oper.wp execOp
    go_simp
    exact hK
  case H7 =>
    intro x0 x1 x2 x4 wz K q y1 y2 y3 y4 hq hK
    obtain ⟨d0, d1, d2, d3, fz⟩ := cell4 hq
    unfold ptr put4c put3 at *
    simp only [set6, List.setIfInBounds_toArray, List.set_cons_zero, List.set_cons_succ] at hK ⊢
    unfold wpOp
    simp only [List.getElem?_toArray, List.getElem?_cons_zero, List.getElem?_cons_succ, Region.wanted, if_true]
    refine .inl ?_
    unfold Oper.wp execOp
    go_simp
    exact hK
  case hend =>
    intro w5 qA qB ka kc hb5 hqa hqb hqn hA5 hB5 hown
    unfold ptr
    simp only [set6, List.setIfInBounds_toArray, List.set_cons_zero, List.set_cons_succ]
    have hX5 := (hb5.block _ (block_lt (unhide HXBOX4))).trans (unhide HXBOX4)
    have hD5 := (hb5.block _ (block_lt (unhide HDBOX4))).trans (unhide HDBOX4)
    obtain ⟨xc0, xc1, xc2⟩ := Fr.cell3 hX5
    obtain ⟨dc0, dc1, dc2, dc3⟩ := Fr.cell4 hD5
    obtain ⟨ac0, ac1, ac2⟩ := Fr.cell3 hA5
    obtain ⟨bc0, bc1, bc2, bc3⟩ := Fr.cell4 hB5
    have HX5 := hide hX5
    have HD5 := hide hD5
    have HA5 := hide hA5
    have HB5 := hide hB5
    have HL5 : Hid (Below w.heap.size w w5) := (unhide HL4).trans (hb5.mono (unhide HL4).size)
    have HSO5 : Hid (StOwn w4.heap.size 70 w5 (.agg #[.int .i64 x.kind, .int .i64 x.n, .slice ka x.rows.length kc]) x) := ⟨_, rfl, hown⟩
    have HXAT5 := hide ((unhide HXAT4).later hb5)
    have hop := MC.may_op (unhide HV)
    have hsm : x.rows.length ≤ 1000 := by have := may_small (unhide HMAY); omega
    obtain ⟨l, hl⟩ : ∃ l, answers x V = l := ⟨_, rfl⟩
    have HLA := hide hl
    have HCH7 : Hid (∀ r, r ∈ l → MR.check r = 0) := fun r hr => answers_check (unhide HMAY) (by rw [hl]; exact hr)
    have hmd : ∀ wz, Fr w5 wz → MD wz := fun wz hf => (unhide HMD).later ((unhide HL5).trans (hf.low.mono (unhide HL5).size))
    have HAN : Hid (∀ wz, Fr w5 wz → Calls Tryd.prog 13 #[.agg #[.int .i64 x.kind, .int .i64 x.n, .slice ka x.rows.length kc], .agg #[.int .i64 V.op, .string (S V.a), .string (S V.b), .int .i64 V.n]] wz fun e w' => ∃ v', e = .returned v' ∧ Row3 w' v' l ∧ Below wz.heap.size wz w') := fun wz hf => by rw [← hl]; exact aanswers_any (c := V) ((unhide HSO5).at.later hf.low) hsm hop (hmd wz hf)
    have HRN : Hid (∀ wz, Fr w5 wz → Calls Tryd.prog 14 #[.agg #[.int .i64 x.kind, .int .i64 x.n, .slice xa x.rows.length xc], .agg #[.int .i64 V.op, .string (S V.a), .string (S V.b), .int .i64 V.n]] wz fun e w' => ∃ v', e = .returned v' ∧ Row3 w' v' l ∧ Below wz.heap.size wz w') := fun wz hf => by rw [← hl]; exact ranswers_any (c := V) ((unhide HXAT5).later hf.low) hsm hop
    have hst := Fr.start w5
    have hstd := hst.drew
    clear hX5 hD5 hA5 hB5 hop hsm hmd hl hown hb5 hqa hqb hqn HOWN HOWC HXAT4 HXBOX4 HDBOX4 HL4
    go_wp2_with fail
    go_region_held3 (fun w' => Fr w5 w') (with_reducible (first | exact hstd | exact hst | (refine Fr.below ?_ (by assumption) <;> assumption)))
      (first | (go_at_call 13; refine (unhide HAN _ (by assumption)).mono ?_; rintro e wa ⟨va, rfl, hra, hba⟩; obtain ⟨sa, sc, rfl, _, _⟩ := hra.shape; have HRA0 := hide hra; clear hra) | (go_at_call 14; refine (unhide HRN _ (by assumption)).mono ?_; rintro e w7 ⟨vb, rfl, hrb, hbb⟩; obtain ⟨ta, tc, rfl, _, _⟩ := hrb.shape; have HRW7 := hide hrb; have HRL7 := hide ((unhide HRA0).later hbb); clear hrb HRA0) | fail)
    have h7 : Fr w5 w7 := by assumption
    have HX7 := hide ((h7.low.block _ (block_lt (unhide HX5))).trans (unhide HX5))
    have HD7 := hide ((h7.low.block _ (block_lt (unhide HD5))).trans (unhide HD5))
    have HA7 := hide ((h7.low.block _ (block_lt (unhide HA5))).trans (unhide HA5))
    have HB7 := hide ((h7.low.block _ (block_lt (unhide HB5))).trans (unhide HB5))
    have HL7 := hide ((unhide HL5).trans (h7.low.mono (unhide HL5).size))
    have HSO7 := hide ((unhide HSO5).later h7.low)
    have HXAT7 := hide ((unhide HXAT5).later h7.low)
    have hll : ((l.length : Nat) : Int) ≤ 9223372036854775807 := by
      obtain ⟨_, _, e, h1, h2, _⟩ := (unhide HRL7)
      unfold maxLen at h2
      omega
    clear h7 hst hstd hba hbb HAN HRN HX5 HD5 HA5 HB5 HL5 HSO5 HXAT5 xc0 xc1 xc2 dc0 dc1 dc2 dc3 ac0 ac1 ac2 bc0 bc1 bc2 bc3
    go_wp2_with fail
    go_loopw [42] (fun i wr => ∃ k : Nat, k ≤ l.length ∧ i = .int .i64 (k : Int) ∧ Fr w7 wr) (fun i _ => l.length - (intOf i).toNat)
    case atStart => exact ⟨0, Nat.zero_le _, rfl, Fr.start _⟩
    case round =>
      obtain ⟨k, hk, rfl, hfr⟩ := hrel
      by_cases hlt : k < l.length
      · obtain ⟨bl, ol, rfl, hbl, e1, e2, e3⟩ := (unhide HRL7).at k hlt
        obtain ⟨bw, ow, rfl, hbw, g1, g2, g3⟩ := (unhide HRW7).at k hlt
        have HIN := hide (List.getElem_mem hlt)
        have HCHK := hide (unhide HCH7 _ (List.getElem_mem hlt))
        rw [← (Fr.low hfr).cell (p := ⟨bl, ol + k * 3, none⟩) hbl] at e1
        rw [← (Fr.low hfr).cell (p := ⟨bl, ol + k * 3 + 1, none⟩) hbl] at e2
        rw [← (Fr.low hfr).cell (p := ⟨bl, ol + k * 3 + 2, none⟩) hbl] at e3
        rw [← (Fr.low hfr).cell (p := ⟨bw, ow + k * 3, none⟩) hbw] at g1
        rw [← (Fr.low hfr).cell (p := ⟨bw, ow + k * 3 + 1, none⟩) hbw] at g2
        rw [← (Fr.low hfr).cell (p := ⟨bw, ow + k * 3 + 2, none⟩) hbw] at g3
        generalize l[k]'hlt = q at *
        obtain ⟨y1, y2, y3⟩ := q
        dsimp only at *
        have hi0 : (0 : Int) ≤ (k : Int) := by omega
        have hi1 : (k : Int) < ((l.length : Nat) : Int) := by omega
        have hne : wr.heap.size ≠ bl := by have := (Fr.low hfr).size; omega
        obtain ⟨C, hC⟩ : ∃ C : Obj, C = .cells #[.int .i64 y1, .string (S y2), .int .i64 y3] 44 (0, 0) := ⟨_, rfl⟩
        obtain ⟨W8, hW8⟩ : ∃ W8, wr.alloc C = W8 := ⟨_, rfl⟩
        have hb8 : Below wr.heap.size wr W8 := by rw [← hW8]; exact under_box _
        have hf8 : Below w7.heap.size w7 W8 := (Fr.low hfr).trans (hb8.mono (Fr.low hfr).size)
        have hc8 : W8.heap[wr.heap.size]? = some (.cells #[.int .i64 y1, .string (S y2), .int .i64 y3] 44 (0, 0)) := by rw [← hW8, ← hC]; exact heap_alloc_new wr C
        obtain ⟨rc0, rc1, rc2⟩ := Fr.cell3 hc8
        obtain ⟨xc0, xc1, xc2⟩ := Fr.cell3 ((hf8.block _ (block_lt (unhide HX7))).trans (unhide HX7))
        obtain ⟨dc0, dc1, dc2, dc3⟩ := Fr.cell4 ((hf8.block _ (block_lt (unhide HD7))).trans (unhide HD7))
        obtain ⟨ac0, ac1, ac2⟩ := Fr.cell3 ((hf8.block _ (block_lt (unhide HA7))).trans (unhide HA7))
        obtain ⟨bc0, bc1, bc2, bc3⟩ := Fr.cell4 ((hf8.block _ (block_lt (unhide HB7))).trans (unhide HB7))
        have hbwr : bw < wr.heap.size := by have := (Fr.low hfr).size; omega
        have wc0 := Fr.one (W := W8) (p := ⟨bw, ow + k * 3, none⟩) (by have := hb8.size; show bw < _; omega) ((hb8.cell (p := ⟨bw, ow + k * 3, none⟩) hbwr).trans g1)
        have wc1 := Fr.one (W := W8) (p := ⟨bw, ow + k * 3 + 1, none⟩) (by have := hb8.size; show bw < _; omega) ((hb8.cell (p := ⟨bw, ow + k * 3 + 1, none⟩) hbwr).trans g2)
        have wc2 := Fr.one (W := W8) (p := ⟨bw, ow + k * 3 + 2, none⟩) (by have := hb8.size; show bw < _; omega) ((hb8.cell (p := ⟨bw, ow + k * 3 + 2, none⟩) hbwr).trans g3)
        have HF8 := hide hf8
        have hop := MC.may_op (unhide HV)
        have hsm : x.rows.length ≤ 1000 := by have := may_small (unhide HMAY); omega
        have hfit := VS.may.fit (unhide HMAY)
        have hso8 := (unhide HSO7).later hf8
        have hxat8 := (unhide HXAT7).later hf8
        have hchk : MR.check ⟨y1, y2, y3⟩ = 0 := unhide HCHK
        have hyl : y2.length ≤ maxLen := Nat.le_trans (check_len hchk) (by unfold maxLen; decide)
        have hlg : legal x V ⟨y1, y2, y3⟩ = true := by unfold legal; have := unhide HIN; rw [← unhide HLA] at this; exact decide_eq_true this
        obtain ⟨Y, hY⟩ : ∃ Y, apply2 x V ⟨y1, y2, y3⟩ = Y := ⟨_, rfl⟩
        have hYl : Y.rows.length ≤ 1000 := by rw [← hY]; have := apply_len x V ⟨y1, y2, y3⟩; have := may_small (unhide HMAY); omega
        have hL8 : Below w.heap.size w W8 := (unhide HL7).trans (hf8.mono (unhide HL7).size)
        have hmd : ∀ wz, Fr W8 wz → MD wz := fun wz hf => (unhide HMD).later (hL8.trans (hf.low.mono hL8.size))
        have HLE : Hid (∀ wz, Fr W8 wz → Calls Tryd.prog 15 #[.agg #[.int .i64 x.kind, .int .i64 x.n, .slice ka x.rows.length kc], .agg #[.int .i64 V.op, .string (S V.a), .string (S V.b), .int .i64 V.n], .agg #[.int .i64 y1, .string (S y2), .int .i64 y3]] wz fun e w' => e = .returned (.bool true) ∧ Below wz.heap.size wz w') := fun wz hf => by rw [← hlg]; exact alegal_any (c := V) (hso8.at.later hf.low) hsm hop (hmd wz hf) ⟨y1, y2, y3⟩
        have HCK : Hid (∀ wz, Calls Tryd.prog 16 #[.agg #[.int .i64 y1, .string (S y2), .int .i64 y3]] wz fun e w' => e = .returned (.int .i64 0) ∧ Below wz.heap.size wz w') := fun wz => by rw [← hchk]; exact mrcheck_any ⟨y1, y2, y3⟩ hyl
        have HAP : Hid (∀ wz, Fr W8 wz → Calls Tryd.prog 19 #[.agg #[.int .i64 x.kind, .int .i64 x.n, .slice ka x.rows.length kc], .agg #[.int .i64 V.op, .string (S V.a), .string (S V.b), .int .i64 V.n], .agg #[.int .i64 y1, .string (S y2), .int .i64 y3]] wz fun e w' => ∃ v', e = .returned v' ∧ StOwn wz.heap.size 70 w' v' Y ∧ Below wz.heap.size wz w') := fun wz hf => by rw [← hY, ← apply_same hfit]; exact aapply_any (c := V) (hso8.later hf.low) hsm hop (hmd wz hf) ⟨y1, y2, y3⟩
        have HRA : Hid (∀ wz, Fr W8 wz → Calls Tryd.prog 20 #[.agg #[.int .i64 x.kind, .int .i64 x.n, .slice xa x.rows.length xc], .agg #[.int .i64 V.op, .string (S V.a), .string (S V.b), .int .i64 V.n], .agg #[.int .i64 y1, .string (S y2), .int .i64 y3]] wz fun e w' => ∃ v', e = .returned v' ∧ StAt w' v' Y ∧ Below wz.heap.size wz w') := fun wz hf => by rw [← hY]; exact rapply_any (c := V) (hxat8.later hf.low) hsm hop (may_b (unhide HV)) hfit ⟨y1, y2, y3⟩
        have HTO := hide (fun (wz : World) (v : Value) (h : StAt wz v Y) => told_any h hYl)
        have HT2 := hide (fun (wz : World) (hf : Fr W8 wz) => told_any (hso8.at.later hf.low) hsm)
        have HXF := hide (fun (wz : World) (hf : Fr W8 wz) => hxat8.later hf.low)
        have HLI := hide (fun (wz : World) (va vb : Value) (h1 : StAt wz va Y) (h2 : StAt wz vb Y) => like_same h1 h2)
        have HL2 := hide (fun (wz : World) (va vb : Value) (h1 : StAt wz va x) (h2 : StAt wz vb x) => like_same h1 h2)
        have hst := Fr.start W8
        have hstd := hst.drew
        have HFR8 : Hid (∀ wz, Fr W8 wz → Fr w7 wz) := fun wz hf => (unhide HF8).trans (hf.low.mono (unhide HF8).size)
        clear hop hsm hfit hso8 hxat8 hchk hyl hlg hY hYl hL8 hmd hf8 hc8 hb8 hfr g1 g2 g3 HIN HCHK
        go_upto_region 14 with fail
        rw [← hC, hW8]
        clear hC hW8 e1 e2 e3
        go_region_held3 (fun w' => Fr W8 w') (with_reducible (first | exact hstd | exact hst | (refine Fr.below ?_ (by assumption) <;> assumption)))
          (first | (go_at_call 15; refine (unhide HLE _ (by assumption)).mono ?_; rintro e wa ⟨rfl, hba⟩) | (go_at_call 16; refine (unhide HCK _).mono ?_; rintro e wb ⟨rfl, hbb⟩) | fail)
        have hsb : Fr W8 wb := by assumption
        have hsbd := hsb.drew
        clear hst hstd hba hbb HLE HCK
        go_wp2_with fail
        go_region_held3 (fun w' => Fr W8 w') (with_reducible (first | exact hsbd | exact hsb | (refine Fr.below ?_ (by assumption) <;> assumption)))
          (first | (go_at_call 19; refine (unhide HAP _ (by assumption)).mono ?_; rintro e wc ⟨vc, rfl, hyc, hbc⟩; have HYC := hide hyc.at; obtain ⟨kc', rfl, hoc⟩ := hyc; obtain ⟨ya, yc, rfl, _⟩ := ownsRow_slice hoc; clear hoc) | (go_at_call 18; first | (have hq := HYD; clear hq; refine (unhide HT2 _ (by assumption)).mono ?_; rintro e wg ⟨vg, rfl, hyg, hbg⟩; have HYG := hide hyg.at; obtain ⟨kg', rfl, hog⟩ := hyg; obtain ⟨pa, pc, rfl, _⟩ := ownsRow_slice hog; clear hog) | (refine (unhide HTO _ _ (unhide HYC)).mono ?_; rintro e wd ⟨vd, rfl, hyd, hbd⟩; have HYD := hide hyd.at; obtain ⟨kd', rfl, hod⟩ := hyd; obtain ⟨za, zc, rfl, _⟩ := ownsRow_slice hod; clear hod)) | (go_at_call 20; refine (unhide HRA _ (by assumption)).mono ?_; rintro e we ⟨ve, rfl, hye, hbe⟩; have HYD2 := hide ((unhide HYD).later hbe); have HYE := hide hye; obtain ⟨ke, rfl, hke⟩ := hye; obtain ⟨ua, uc, rfl, _, _⟩ := hke.shape; clear hke) | (go_at_call 17; first | (have hq := HYG; clear hq; refine (unhide HL2 _ _ _ (unhide HYG) (unhide HXF _ (by assumption))).mono ?_; rintro e wh ⟨rfl, hbh⟩) | (refine (unhide HLI _ _ _ (unhide HYD2) (unhide HYE)).mono ?_; rintro e wf ⟨rfl, hbf⟩)) | fail)
        have HSH := hide (unhide HFR8 wh (by assumption))
        go_wp2_with fail
        go_roundw
        case rel => exact ⟨k + 1, by omega, by go_num, unhide HSH⟩
        case measure => simp [intOf]; omega
      · have HL := hide ((unhide HL7).trans ((Fr.low hfr).mono (unhide HL7).size))
        have hkn : k = l.length := by omega
        subst hkn
        clear hfr
        go_wp2_with fail
        go_ret
        exact ⟨rfl, unhide HL⟩
theorem adtAnswers_walk {H : Type} {enc : TypeId × Value → H} {base b0 : Nat} {spare : Nat → Bool} {held : Bool} {r : Reach} {v : Value} {d : DataW H} {p : List MemPlace} (w : World)
    (hv : Value.okWide Tryd.prog w r b0 24 v) (hd : DataW.Trod enc Tryd.prog w base spare held 24 v d p) (op : Int) (wop : (Lit.int .i64 op).wf = true) (ca : ByteArray) (wca : ca.size ≤ maxLen) (cb : ByteArray) (wcb : cb.size ≤ maxLen) (cn : Int) (wcn : (Lit.int .i64 cn).wf = true)
    (td : Bool) (hw : MD w) :
    Calls Tryd.prog 3 #[v, .agg #[.int .i64 op, .string ca, .string cb, .int .i64 cn], .bool td] w fun e w' => e = .returned (.bool true) ∧ Below w.heap.size w w' := by
  obtain ⟨s, hs, _, hn, hz⟩ := open_state hv hd
  cases td
  · exact tansw_no hs hn hz op ca cb cn (vwf_i64 wop) (vwf_i64 wcn) wca wcb hw
  · exact tansw_yes hs hn hz op ca cb cn (vwf_i64 wop) (vwf_i64 wcn) wca wcb hw
end Go.Proofs.YtcialbhmmbcgjaaDoor
/- The walk of AdtRoom. -/
namespace Go.Proofs.YtcialbhmmbcgjaaDoor
open Go.RowKit
set_option linter.unusedVariables false
set_option maxRecDepth 100000

theorem grow_three (op n code : Int) : mgrowth op n code = 1 ∨ mgrowth op n code ≤ 0 := by
  unfold mgrowth
  repeat' split
  all_goals first | exact Or.inl rfl | exact Or.inr (by decide)
theorem mask3 (n : Int) : bits .and .i64 n 7 = n % 8 := by
  have h := pl_and_mask n 3 7 (by decide) (by decide)
  rw [h]
  rfl
theorem mask49 (n : Int) : bits .and .i64 n 562949953421311 = n % 562949953421312 := by
  have h := pl_and_mask n 49 562949953421311 (by decide) (by decide)
  rw [h]
  rfl
set_option maxHeartbeats 102400000 in
theorem troom_any {w : World} {v : Value} {s : VS} (hs : StAt w v s) (hsn : -9223372036854775808 ≤ s.n ∧ s.n ≤ 9223372036854775807) (hsz : ∀ i (h : i < s.rows.length), (s.rows[i]'h).1.length ≤ maxLen ∧ (s.rows[i]'h).2.length ≤ maxLen)
    (op : Int) (ca cb : ByteArray) (cn : Int) (hop : I64 op) (hn : I64 cn) (hca : ca.size ≤ maxLen) (hcb : cb.size ≤ maxLen) (rows money : Int) (hw : MD w) (hwd : WD w) :
    Calls Tryd.prog 5 #[v, .agg #[.int .i64 op, .string ca, .string cb, .int .i64 cn], .int .i64 rows, .int .i64 money] w fun e w' => e = .returned (.bool true) ∧ Below w.heap.size w w' := by
  have HTS := hide (fun (w1 : World) (hb : Below w.heap.size w w1) => tstate_any (hs.later hb) hsn hsz)
  have HOF := hide (fun (w1 : World) (v : Value) (x : VS) (h : StAt w1 v x) => of_any h op ca cb cn hop hn hca hcb)
  have HAW := hide (fun (w1 : World) (hb : Below w.heap.size w w1) => tawake_any (hw.later hb))
  have HMD := hide hw
  have HWD := hide hwd
  have hm3 := mask3 rows
  have hm49 := mask49 money
  obtain ⟨rw', hrw⟩ : ∃ q, rows % 8 = q := ⟨_, rfl⟩
  obtain ⟨mo, hmo⟩ : ∃ q, money % 562949953421312 = q := ⟨_, rfl⟩
  have HRW : Hid (0 ≤ rw' ∧ rw' ≤ 7) := by show _ ∧ _; omega
  have HMO : Hid (0 ≤ mo ∧ mo < 562949953421312) := by show _ ∧ _; omega
  rw [hrw] at hm3
  rw [hmo] at hm49
  obtain ⟨k0, rfl, hr⟩ := hs
  obtain ⟨a, c, rfl, hc, hm⟩ := hr.shape
  have hst := B2.start w (.cells #[.int .i64 s.kind, .int .i64 s.n, .slice a s.rows.length c] 24) (.cells #[.int .i64 op, .string ca, .string cb, .int .i64 cn] 27)
  clear hr hw hwd hsn hsz hop hn hca hcb hrw hmo
  go_enter Tryd.func5, Tryd.ntmps5
  go_wp2_with fail
  refine (unhide HTS _ hst.low).mono ?_
  rintro e w1 ⟨v1, rfl, x, hmay, hmask, ⟨kx, rfl, hox⟩, hb1⟩
  obtain ⟨xa, xc, rfl, _⟩ := ownsRow_slice hox
  have hx1 := hst.on hb1
  have HMAY := hide hmay
  have HMASK := hide hmask
  have HXB := hide (hx1.on (under_box (.cells #[.int .i64 x.kind, .int .i64 x.n, .slice xa x.rows.length xc] 30)))
  have HXAT : Hid (StAt (w1.alloc (.cells #[.int .i64 x.kind, .int .i64 x.n, .slice xa x.rows.length xc] 30)) (.agg #[.int .i64 x.kind, .int .i64 x.n, .slice xa x.rows.length xc]) x) := ⟨_, rfl, Row2.of_own (hox.alloc _)⟩
  have HXBOX := hide (heap_alloc_new w1 (.cells #[.int .i64 x.kind, .int .i64 x.n, .slice xa x.rows.length xc] 30))
  obtain ⟨k0, k1, k2, k3⟩ := cellsB (unhide HXB).heap.2
  clear hmay hmask hox hb1 hx1 hst HTS
  go_wp2_with fail
  refine (unhide HOF _ _ _ (unhide HXAT)).mono ?_
  rintro e w2 ⟨V, rfl, hV, hb2⟩
  have HV := hide hV
  have hbw := hb2.trans ((under_box (.cells #[.int .i64 V.op, .string (S V.a), .string (S V.b), .int .i64 V.n] 33)).mono hb2.size)
  have HLW := hide ((unhide HXB).on hbw).low
  have HXAT2 := hide ((unhide HXAT).later hbw)
  have HXBOX2 := hide ((hbw.block w1.heap.size (by simp)).trans (unhide HXBOX))
  have HDBOX2 := hide (heap_alloc_new w2 (.cells #[.int .i64 V.op, .string (S V.a), .string (S V.b), .int .i64 V.n] 33))
  clear hV hb2 hbw HXAT HXBOX HXB k0 k1 k2 k3 HOF
  unfold mcV
  go_wp2_with fail
  refine (unhide HAW _ (unhide HLW)).mono ?_
  rintro e w4 ⟨rfl, hb4⟩
  have HXAT4 := hide ((unhide HXAT2).later hb4)
  have HXBOX4 := hide ((hb4.block w1.heap.size (block_lt (unhide HXBOX2))).trans (unhide HXBOX2))
  have HDBOX4 := hide ((hb4.block w2.heap.size (block_lt (unhide HDBOX2))).trans (unhide HDBOX2))
  have HL4 := hide ((unhide HLW).trans (hb4.mono (unhide HLW).size))
  clear hb4 HXAT2 HXBOX2 HDBOX2 HLW HAW
  go_upto_region 6 with fail
  have HOWN := hide (fun (wz : World) (hb : Below w4.heap.size w4 wz) => own_any ((unhide HXAT4).later hb) (by have := may_small (unhide HMAY); omega))
  have HOWC : Hid (∀ wz : World, Calls Tryd.prog 12 #[.agg #[.int .i64 V.op, .string (S V.a), .string (S V.b), .int .i64 V.n]] wz fun e w' => e = .returned (.agg #[.int .i64 V.op, .string (S V.a), .string (S V.b), .int .i64 V.n]) ∧ Below wz.heap.size wz w') := fun wz => mown_any V
  refine two2_T 29 30 31 32 11 12 (.agg #[.int .i64 x.kind, .int .i64 x.n, .slice xa x.rows.length xc]) (.agg #[.int .i64 V.op, .string (S V.a), .string (S V.b), .int .i64 V.n]) (.int .i64 x.kind) (.int .i64 x.n) (.int .i64 V.op) (.string (S V.a)) (.string (S V.b)) (.int .i64 V.n) 70 24 27 x.rows.length (R9 x.rows) (by kernel_rfl) rfl (fun i hi => ?hlow) (by kernel_rfl) (by kernel_rfl) (by kernel_rfl) (by kernel_rfl) (by kernel_rfl) (by kernel_rfl) ?H0 ?H1 ?H2 ?H3 ?H4 ?H5 ?H6 ?H7 ?hend
  case hlow =>
    have hc : i = 0 ∨ i = 1 ∨ i = 2 ∨ i = 3 ∨ i = 4 ∨ i = 5 ∨ i = 6 ∨ i = 7 := by have : i < 8 := hi; omega
    rcases hc with rfl | rfl | rfl | rfl | rfl | rfl | rfl | rfl <;> decide +kernel
  case H0 =>
    intro x0 x1 x2 x3 x4 x5 wz K hb hK
    obtain ⟨d0, d1, d2, _⟩ := cell3 ((hb.block _ (block_lt (unhide HXBOX4))).trans (unhide HXBOX4))
    simp only [set6, List.setIfInBounds_toArray, List.set_cons_zero, List.set_cons_succ] at hK ⊢
    unfold wpOp
    simp only [List.getElem?_toArray, List.getElem?_cons_zero, Region.wanted, if_true]
    refine .inl ?_
    unfold Oper.wp execOp
    go_simp
    exact hK
  case H1 =>
    intro x1 x2 x3 x4 x5 wz K hb hK
    simp only [set6, List.setIfInBounds_toArray, List.set_cons_zero, List.set_cons_succ] at hK ⊢
    unfold wpOp
    simp only [List.getElem?_toArray, List.getElem?_cons_zero, List.getElem?_cons_succ, Region.wanted, if_true]
    refine .inl ?_
    unfold Oper.wp execOp
    go_simp
    refine (unhide HOWN _ hb).mono ?_
    rintro e w' ⟨v', rfl, ⟨kk, rfl, ho⟩, hb'⟩
    obtain ⟨ka, kc, rfl, _⟩ := ownsRow_slice ho
    exact hK _ ka kc hb' ho
  case H2 =>
    intro x0 x1 x2 x3 x4 x5 wz K hb hK
    obtain ⟨d0, d1, d2, d3, _⟩ := cell4 ((hb.block _ (block_lt (unhide HDBOX4))).trans (unhide HDBOX4))
    simp only [set6, List.setIfInBounds_toArray, List.set_cons_zero, List.set_cons_succ] at hK ⊢
    unfold wpOp
    simp only [List.getElem?_toArray, List.getElem?_cons_zero, List.getElem?_cons_succ, Region.wanted, if_true]
    refine .inl ?_
    unfold Oper.wp execOp
    go_simp
    exact hK
  case H3 =>
    intro x0 x1 x3 x4 x5 wz K hb hK
    simp only [set6, List.setIfInBounds_toArray, List.set_cons_zero, List.set_cons_succ] at hK ⊢
    unfold wpOp
    simp only [List.getElem?_toArray, List.getElem?_cons_zero, List.getElem?_cons_succ, Region.wanted, if_true]
    refine .inl ?_
    unfold Oper.wp execOp
    go_simp
    refine (unhide HOWC _).mono ?_
    rintro e w' ⟨rfl, hb'⟩
    exact hK _ hb'
  case H4 =>
    intro x0 x1 x2 x3 x4 x5 wz K
    refine ⟨.int .i64 0, .int .i64 0, .slice none 0 0, fun hK => ?_⟩
    unfold ptr at hK
    simp only [set6, List.setIfInBounds_toArray, List.set_cons_zero, List.set_cons_succ] at hK ⊢
    unfold wpOp
    simp only [List.getElem?_toArray, List.getElem?_cons_zero, List.getElem?_cons_succ, Region.wanted, if_true]
    refine .inl ?_
    unfold Oper.wp execOp
    go_simp
    exact hK
  case H5 =>
    intro x0 x1 x2 x3 x4 x5 wz K
    refine ⟨.int .i64 0, .string ⟨#[]⟩, .string ⟨#[]⟩, .int .i64 0, fun hK => ?_⟩
    unfold ptr at hK
    simp only [set6, List.setIfInBounds_toArray, List.set_cons_zero, List.set_cons_succ] at hK ⊢
    unfold wpOp
    simp only [List.getElem?_toArray, List.getElem?_cons_zero, List.getElem?_cons_succ, Region.wanted, if_true]
    refine .inl ?_
    unfold Oper.wp execOp
    go_simp
    exact hK
  case H6 =>
    intro x0 x2 x3 x5 wz K q ka kc y1 y2 y3 hq hK
    obtain ⟨d0, d1, d2, fz⟩ := cell3 hq
    unfold ptr put3 at *
    simp only [set6, List.setIfInBounds_toArray, List.set_cons_zero, List.set_cons_succ] at hK ⊢
    unfold wpOp
    simp only [List.getElem?_toArray, List.getElem?_cons_zero, List.getElem?_cons_succ, Region.wanted, if_true]
    refine .inl ?_
    unfold Oper.wp execOp
    go_simp
    exact hK
  case H7 =>
    intro x0 x1 x2 x4 wz K q y1 y2 y3 y4 hq hK
    obtain ⟨d0, d1, d2, d3, fz⟩ := cell4 hq
    unfold ptr put4c put3 at *
    simp only [set6, List.setIfInBounds_toArray, List.set_cons_zero, List.set_cons_succ] at hK ⊢
    unfold wpOp
    simp only [List.getElem?_toArray, List.getElem?_cons_zero, List.getElem?_cons_succ, Region.wanted, if_true]
    refine .inl ?_
    unfold Oper.wp execOp
    go_simp
    exact hK
  case hend =>
    intro w5 qA qB ka kc hb5 hqa hqb hqn hA5 hB5 hown
    unfold ptr
    simp only [set6, List.setIfInBounds_toArray, List.set_cons_zero, List.set_cons_succ]
    have hX5 := (hb5.block _ (block_lt (unhide HXBOX4))).trans (unhide HXBOX4)
    have hD5 := (hb5.block _ (block_lt (unhide HDBOX4))).trans (unhide HDBOX4)
    obtain ⟨ac0, ac1, ac2, _⟩ := cell3 hA5
    obtain ⟨bc0, bc1, bc2, bc3⟩ := cellsB hB5
    have HX5 := hide hX5
    have HD5 := hide hD5
    have HA5 := hide hA5
    have HB5 := hide hB5
    have HL5 : Hid (Below w.heap.size w w5) := (unhide HL4).trans (hb5.mono (unhide HL4).size)
    have HSO5 : Hid (StOwn w4.heap.size 70 w5 (.agg #[.int .i64 x.kind, .int .i64 x.n, .slice ka x.rows.length kc]) x) := ⟨_, rfl, hown⟩
    obtain ⟨l, hl⟩ : ∃ l, answers x V = l := ⟨_, rfl⟩
    have HLA := hide hl
    have HAN : Hid (Calls Tryd.prog 13 #[.agg #[.int .i64 x.kind, .int .i64 x.n, .slice ka x.rows.length kc], .agg #[.int .i64 V.op, .string (S V.a), .string (S V.b), .int .i64 V.n]] w5 fun e w' => ∃ v', e = .returned v' ∧ Row3 w' v' l ∧ Below w5.heap.size w5 w') := by
      show Calls _ _ _ _ _
      rw [← hl]
      exact aanswers_any (c := V) (unhide HSO5).at (by have := may_small (unhide HMAY); omega) (MC.may_op (unhide HV)) ((unhide HMD).later (unhide HL5))
    clear hX5 hD5 hA5 hB5 hl hown hb5 hqa hqb hqn HOWN HOWC HXAT4 HXBOX4 HDBOX4 HL4
    go_wp2_with fail
    refine (unhide HAN).mono ?_
    rintro e w7 ⟨va, rfl, hra, hba⟩
    obtain ⟨sa, sc, rfl, _, hsc⟩ := hra.shape
    unfold maxLen at hsc
    have HRL7 := hide hra
    have HX7 := hide ((hba.block _ (block_lt (unhide HX5))).trans (unhide HX5))
    have HD7 := hide ((hba.block _ (block_lt (unhide HD5))).trans (unhide HD5))
    have HA7 := hide ((hba.block _ (block_lt (unhide HA5))).trans (unhide HA5))
    have HB7 := hide ((hba.block _ (block_lt (unhide HB5))).trans (unhide HB5))
    have HL7 := hide ((unhide HL5).trans (hba.mono (unhide HL5).size))
    have HSO7 := hide ((unhide HSO5).later hba)
    clear hra hba HAN HX5 HD5 HA5 HB5 HL5 HSO5 ac0 ac1 ac2 bc0 bc1 bc2 bc3
    go_wp2_with fail
    go_loopw [37] (fun i wr => ∃ k : Nat, k ≤ l.length ∧ i = .int .i64 (k : Int) ∧ Fr w7 wr) (fun i _ => l.length - (intOf i).toNat)
    case atStart => exact ⟨0, Nat.zero_le _, rfl, Fr.start _⟩
    case round =>
      obtain ⟨k, hk, rfl, hfr⟩ := hrel
      by_cases hlt : k < l.length
      · obtain ⟨bl, ol, rfl, hbl, e1, e2, e3⟩ := (unhide HRL7).at k hlt
        have HIN := hide (List.getElem_mem hlt)
        rw [← (Fr.low hfr).cell (p := ⟨bl, ol + k * 3, none⟩) hbl] at e1
        rw [← (Fr.low hfr).cell (p := ⟨bl, ol + k * 3 + 1, none⟩) hbl] at e2
        rw [← (Fr.low hfr).cell (p := ⟨bl, ol + k * 3 + 2, none⟩) hbl] at e3
        generalize l[k]'hlt = q at *
        obtain ⟨y1, y2, y3⟩ := q
        dsimp only at *
        have hi0 : (0 : Int) ≤ (k : Int) := by omega
        have hi1 : (k : Int) < ((l.length : Nat) : Int) := by omega
        have hne : wr.heap.size ≠ bl := by have := (Fr.low hfr).size; omega
        obtain ⟨C, hC⟩ : ∃ C : Obj, C = .cells #[.int .i64 y1, .string (S y2), .int .i64 y3] 44 (0, 0) := ⟨_, rfl⟩
        obtain ⟨W8, hW8⟩ : ∃ W8, wr.alloc C = W8 := ⟨_, rfl⟩
        have hb8 : Below wr.heap.size wr W8 := by rw [← hW8]; exact under_box _
        have hf8 : Below w7.heap.size w7 W8 := (Fr.low hfr).trans (hb8.mono (Fr.low hfr).size)
        have hc8 : W8.heap[wr.heap.size]? = some (.cells #[.int .i64 y1, .string (S y2), .int .i64 y3] 44 (0, 0)) := by rw [← hW8, ← hC]; exact heap_alloc_new wr C
        obtain ⟨rc0, rc1, rc2⟩ := Fr.cell3 hc8
        obtain ⟨xc0, xc1, xc2⟩ := Fr.cell3 ((hf8.block _ (block_lt (unhide HX7))).trans (unhide HX7))
        obtain ⟨dc0, dc1, dc2, dc3⟩ := Fr.cell4 ((hf8.block _ (block_lt (unhide HD7))).trans (unhide HD7))
        obtain ⟨ac0, ac1, ac2⟩ := Fr.cell3 ((hf8.block _ (block_lt (unhide HA7))).trans (unhide HA7))
        obtain ⟨bc0, bc1, bc2, bc3⟩ := Fr.cell4 ((hf8.block _ (block_lt (unhide HB7))).trans (unhide HB7))
        have HF8 := hide hf8
        have HSO8 := hide ((unhide HSO7).later hf8)
        have hL8 : Below w.heap.size w W8 := (unhide HL7).trans (hf8.mono (unhide HL7).size)
        have HMD8 : Hid (∀ wz, Fr W8 wz → MD wz) := fun wz hf => (unhide HMD).later (hL8.trans (hf.low.mono hL8.size))
        have HWD8 : Hid (∀ wz, Fr W8 wz → WD wz) := fun wz hf => (unhide HWD).later (hL8.trans (hf.low.mono hL8.size))
        have HFR8 : Hid (∀ wz, Fr W8 wz → Fr w7 wz) := fun wz hf => (unhide HF8).trans (hf.low.mono (unhide HF8).size)
        have HINA : Hid ((⟨y1, y2, y3⟩ : MR) ∈ answers x V) := by show _ ∈ _; rw [unhide HLA]; exact unhide HIN
        have HC5 : Hid (V.op = 5 → (0 ≤ x.n ∧ x.n < 1125899906842624) ∧ 1 ≤ V.n ∧ V.n ≤ 1048576) := fun e => ⟨unhide HMASK (by have := answers_kind (unhide HINA); rw [e] at this; rw [← this]; decide), may_money (unhide HV) (Or.inl e)⟩
        obtain ⟨Y, hY⟩ : ∃ Y, apply2 x V ⟨y1, y2, y3⟩ = Y := ⟨_, rfl⟩
        have hst := Fr.start W8
        obtain ⟨G, hGG⟩ : ∃ G, mgrowth V.op V.n y1 = G := ⟨_, rfl⟩
        have HGW : Hid (∀ wz, Calls Tryd.prog 22 #[.agg #[.int .i64 V.op, .string (S V.a), .string (S V.b), .int .i64 V.n], .agg #[.int .i64 y1, .string (S y2), .int .i64 y3]] wz fun e w' => e = .returned (.int .i64 G) ∧ Below wz.heap.size wz w') := fun wz => by rw [← hGG]; exact rgrowth_any V ⟨y1, y2, y3⟩
        have HG5 : Hid (V.op = 5 → G ≠ 1) := fun e => by rw [← hGG, e]; exact grow_five _ _
        have HGL : Hid (G = 1 ∨ G ≤ 0) := by show _ ∨ _; rw [← hGG]; exact grow_three _ _ _
        have HGG := hide hGG
        clear hGG
        clear hL8 hf8 hc8 hb8 hfr HIN
        go_upto_region 10 with fail
        rw [← hC, hW8]
        clear hC hW8 e1 e2 e3
        go_wp2_with fail
        refine (unhide HGW _).mono ?_
        rintro e w9 ⟨rfl, hb9⟩
        have hf9 := hst.below hb9
        clear hst hb9 HGW
        have HSM := hide (may_small (unhide HMAY))
        by_cases hG : G = 1
        · subst hG
          have h5 : V.op ≠ 5 := fun e => unhide HG5 e rfl
          have e5 : (V.op == 5) = false := by rw [beq_eq_false_iff_ne]; exact h5
          obtain ⟨p1, hp1⟩ : ∃ p : Int, ((x.rows.length : Nat) : Int) + rw' = p := ⟨_, rfl⟩
          obtain ⟨p2, hp2⟩ : ∃ p : Int, p1 + 1 = p := ⟨_, rfl⟩
          have hwp1 : IntKind.i64.wrap (((x.rows.length : Nat) : Int) + rw') = p1 := by have := unhide HSM; have := unhide HRW; rw [IntKind.wrap_i64]; omega
          have hwp2 : IntKind.i64.wrap (p1 + 1) = p2 := by have := unhide HSM; have := unhide HRW; rw [IntKind.wrap_i64]; omega
          by_cases hf : 8 < p2
          · have hfl : full x V ⟨y1, y2, y3⟩ rw' mo = true := by
              unfold full
              dsimp only
              rw [unhide HGG, decide_eq_true (show (1 : Int) = 1 from rfl), decide_eq_true (show 8 < ((x.rows.length : Nat) : Int) + rw' + 1 by omega)]; rfl
            have HRM : Hid (∀ wz, Fr W8 wz → Calls Tryd.prog 23 #[.agg #[.int .i64 x.kind, .int .i64 x.n, .slice ka x.rows.length kc], .agg #[.int .i64 V.op, .string (S V.a), .string (S V.b), .int .i64 V.n], .agg #[.int .i64 y1, .string (S y2), .int .i64 y3], .int .i64 rw', .int .i64 mo] wz fun e w' => e = .returned (.int .i64 7) ∧ Below wz.heap.size wz w') := fun wz hf => by
              have := aroom_any (c := V) ((unhide HSO8).at.later hf.low) (may_small (unhide HMAY)) ⟨y1, y2, y3⟩ rw' mo (unhide HRW) (unhide HMO) (unhide HC5)
              rw [hfl, if_pos rfl] at this
              exact this
            clear hfl hY HSO8 HMD8 HWD8 HC5 HINA
            clear hp1 hp2 h5 HG5 HGL HGG HSM
            go_wp2_with fail
            refine (unhide HRM _ hf9).mono ?_
            rintro e wb ⟨rfl, hbb⟩
            have hfb := hf9.below hbb
            clear hbb HRM hf9
            go_wp2_with fail
            go_roundw
            case rel => exact ⟨k + 1, by omega, by go_num, unhide HFR8 _ hfb⟩
            case measure => simp [intOf]; omega
          · have hfl : full x V ⟨y1, y2, y3⟩ rw' mo = false := by
              unfold full
              dsimp only
              rw [unhide HGG, decide_eq_false (show ¬ 8 < ((x.rows.length : Nat) : Int) + rw' + 1 by omega), decide_eq_false h5]; simp
            have HRM : Hid (∀ wz, Fr W8 wz → Calls Tryd.prog 23 #[.agg #[.int .i64 x.kind, .int .i64 x.n, .slice ka x.rows.length kc], .agg #[.int .i64 V.op, .string (S V.a), .string (S V.b), .int .i64 V.n], .agg #[.int .i64 y1, .string (S y2), .int .i64 y3], .int .i64 rw', .int .i64 mo] wz fun e w' => e = .returned (.int .i64 0) ∧ Below wz.heap.size wz w') := fun wz hf => by
              have := aroom_any (c := V) ((unhide HSO8).at.later hf.low) (may_small (unhide HMAY)) ⟨y1, y2, y3⟩ rw' mo (unhide HRW) (unhide HMO) (unhide HC5)
              rw [hfl, if_neg (by simp)] at this
              exact this
            have hyc0 : Y.check = 0 := by rw [← hY]; exact room_check (unhide HMAY) (unhide HMASK) (unhide HV) (may_b (unhide HV)) (unhide HINA) (fun e => by have := unhide HRW; omega)
            have HAP : Hid (∀ wz, Fr W8 wz → Calls Tryd.prog 19 #[.agg #[.int .i64 x.kind, .int .i64 x.n, .slice ka x.rows.length kc], .agg #[.int .i64 V.op, .string (S V.a), .string (S V.b), .int .i64 V.n], .agg #[.int .i64 y1, .string (S y2), .int .i64 y3]] wz fun e w' => ∃ v', e = .returned v' ∧ StOwn wz.heap.size 70 w' v' Y ∧ Below wz.heap.size wz w') := fun wz hf => by rw [← hY, ← apply_same (VS.may.fit (unhide HMAY))]; exact aapply_any (c := V) ((unhide HSO8).later hf.low) (by have := may_small (unhide HMAY); omega) (MC.may_op (unhide HV)) (unhide HMD8 wz hf) ⟨y1, y2, y3⟩
            have HCV : Hid (∀ wz v, StAt wz v Y → Fr W8 wz → Calls Tryd.prog 24 #[v] wz fun e w' => e = .returned (.int .i64 0) ∧ Below wz.heap.size wz w') := fun wz v h hf => by rw [← hyc0]; exact vcheck_any h (unhide HWD8 wz hf)
            clear hyc0
            clear hfl hY HSO8 HMD8 HWD8 HC5 HINA
            clear hp1 hp2 h5 HG5 HGL HGG HSM
            go_wp2_with fail
            refine (unhide HRM _ hf9).mono ?_
            rintro e wb ⟨rfl, hbb⟩
            have hfb := hf9.below hbb
            clear hbb HRM hf9
            go_wp2_with fail
            refine (unhide HAP _ hfb).mono ?_
            rintro e wc ⟨vc, rfl, hyc, hbc⟩
            have hfc := hfb.below hbc
            have HYC := hide hyc.at
            clear hyc hbc HAP hfb
            go_wp2_with fail
            refine (unhide HCV _ _ (unhide HYC) hfc).mono ?_
            rintro e wd ⟨rfl, hbd⟩
            have hfd := hfc.below hbd
            clear hbd HCV hfc HYC
            go_wp2_with fail
            go_roundw
            case rel => exact ⟨k + 1, by omega, by go_num, unhide HFR8 _ hfd⟩
            case measure => simp [intOf]; omega
        · have hG0 : ¬ 0 < G := by have := unhide HGL; omega
          have HGN := hide hG
          by_cases h5 : V.op = 5
          · have e5 : (V.op == 5) = true := by rw [h5]; rfl
            obtain ⟨p1, hp1⟩ : ∃ p : Int, x.n + mo = p := ⟨_, rfl⟩
            obtain ⟨p2, hp2⟩ : ∃ p : Int, p1 + V.n = p := ⟨_, rfl⟩
            have hwp1 : IntKind.i64.wrap (x.n + mo) = p1 := by have := unhide HC5 h5; have := unhide HMO; rw [IntKind.wrap_i64]; omega
            have hwp2 : IntKind.i64.wrap (p1 + V.n) = p2 := by have := unhide HC5 h5; have := unhide HMO; rw [IntKind.wrap_i64]; omega
            by_cases hf : 1125899906842624 < p2
            · have hfl : full x V ⟨y1, y2, y3⟩ rw' mo = true := by
                unfold full
                dsimp only
                rw [unhide HGG, decide_eq_false hG, decide_eq_true h5, decide_eq_true (show 1125899906842624 < x.n + mo + V.n by omega)]; rfl
              have HRM : Hid (∀ wz, Fr W8 wz → Calls Tryd.prog 23 #[.agg #[.int .i64 x.kind, .int .i64 x.n, .slice ka x.rows.length kc], .agg #[.int .i64 V.op, .string (S V.a), .string (S V.b), .int .i64 V.n], .agg #[.int .i64 y1, .string (S y2), .int .i64 y3], .int .i64 rw', .int .i64 mo] wz fun e w' => e = .returned (.int .i64 7) ∧ Below wz.heap.size wz w') := fun wz hf => by
                have := aroom_any (c := V) ((unhide HSO8).at.later hf.low) (may_small (unhide HMAY)) ⟨y1, y2, y3⟩ rw' mo (unhide HRW) (unhide HMO) (unhide HC5)
                rw [hfl, if_pos rfl] at this
                exact this
              clear hfl hY HSO8 HMD8 HWD8 HC5 HINA
              clear hp1 hp2 h5 HG5 HGL HGG HSM hG HGN
              go_wp2_with fail
              refine (unhide HRM _ hf9).mono ?_
              rintro e wb ⟨rfl, hbb⟩
              have hfb := hf9.below hbb
              clear hbb HRM hf9
              go_wp2_with fail
              go_roundw
              case rel => exact ⟨k + 1, by omega, by go_num, unhide HFR8 _ hfb⟩
              case measure => simp [intOf]; omega
            · have hfl : full x V ⟨y1, y2, y3⟩ rw' mo = false := by
                unfold full
                dsimp only
                rw [unhide HGG, decide_eq_false hG, decide_eq_false (show ¬ 1125899906842624 < x.n + mo + V.n by omega)]; simp
              have HRM : Hid (∀ wz, Fr W8 wz → Calls Tryd.prog 23 #[.agg #[.int .i64 x.kind, .int .i64 x.n, .slice ka x.rows.length kc], .agg #[.int .i64 V.op, .string (S V.a), .string (S V.b), .int .i64 V.n], .agg #[.int .i64 y1, .string (S y2), .int .i64 y3], .int .i64 rw', .int .i64 mo] wz fun e w' => e = .returned (.int .i64 0) ∧ Below wz.heap.size wz w') := fun wz hf => by
                have := aroom_any (c := V) ((unhide HSO8).at.later hf.low) (may_small (unhide HMAY)) ⟨y1, y2, y3⟩ rw' mo (unhide HRW) (unhide HMO) (unhide HC5)
                rw [hfl, if_neg (by simp)] at this
                exact this
              have hyc0 : Y.check = 0 := by rw [← hY]; exact room_check (unhide HMAY) (unhide HMASK) (unhide HV) (may_b (unhide HV)) (unhide HINA) (fun e => absurd ((unhide HGG).symm.trans e) (unhide HGN))
              have HAP : Hid (∀ wz, Fr W8 wz → Calls Tryd.prog 19 #[.agg #[.int .i64 x.kind, .int .i64 x.n, .slice ka x.rows.length kc], .agg #[.int .i64 V.op, .string (S V.a), .string (S V.b), .int .i64 V.n], .agg #[.int .i64 y1, .string (S y2), .int .i64 y3]] wz fun e w' => ∃ v', e = .returned v' ∧ StOwn wz.heap.size 70 w' v' Y ∧ Below wz.heap.size wz w') := fun wz hf => by rw [← hY, ← apply_same (VS.may.fit (unhide HMAY))]; exact aapply_any (c := V) ((unhide HSO8).later hf.low) (by have := may_small (unhide HMAY); omega) (MC.may_op (unhide HV)) (unhide HMD8 wz hf) ⟨y1, y2, y3⟩
              have HCV : Hid (∀ wz v, StAt wz v Y → Fr W8 wz → Calls Tryd.prog 24 #[v] wz fun e w' => e = .returned (.int .i64 0) ∧ Below wz.heap.size wz w') := fun wz v h hf => by rw [← hyc0]; exact vcheck_any h (unhide HWD8 wz hf)
              clear hyc0
              clear hfl hY HSO8 HMD8 HWD8 HC5 HINA
              clear hp1 hp2 h5 HG5 HGL HGG HSM hG HGN
              go_wp2_with fail
              refine (unhide HRM _ hf9).mono ?_
              rintro e wb ⟨rfl, hbb⟩
              have hfb := hf9.below hbb
              clear hbb HRM hf9
              go_wp2_with fail
              refine (unhide HAP _ hfb).mono ?_
              rintro e wc ⟨vc, rfl, hyc, hbc⟩
              have hfc := hfb.below hbc
              have HYC := hide hyc.at
              clear hyc hbc HAP hfb
              go_wp2_with fail
              refine (unhide HCV _ _ (unhide HYC) hfc).mono ?_
              rintro e wd ⟨rfl, hbd⟩
              have hfd := hfc.below hbd
              clear hbd HCV hfc HYC
              go_wp2_with fail
              go_roundw
              case rel => exact ⟨k + 1, by omega, by go_num, unhide HFR8 _ hfd⟩
              case measure => simp [intOf]; omega
          · have e5 : (V.op == 5) = false := by rw [beq_eq_false_iff_ne]; exact h5
            have hfl : full x V ⟨y1, y2, y3⟩ rw' mo = false := by
              unfold full
              dsimp only
              rw [unhide HGG, decide_eq_false hG, decide_eq_false h5]; simp
            have HRM : Hid (∀ wz, Fr W8 wz → Calls Tryd.prog 23 #[.agg #[.int .i64 x.kind, .int .i64 x.n, .slice ka x.rows.length kc], .agg #[.int .i64 V.op, .string (S V.a), .string (S V.b), .int .i64 V.n], .agg #[.int .i64 y1, .string (S y2), .int .i64 y3], .int .i64 rw', .int .i64 mo] wz fun e w' => e = .returned (.int .i64 0) ∧ Below wz.heap.size wz w') := fun wz hf => by
              have := aroom_any (c := V) ((unhide HSO8).at.later hf.low) (may_small (unhide HMAY)) ⟨y1, y2, y3⟩ rw' mo (unhide HRW) (unhide HMO) (unhide HC5)
              rw [hfl, if_neg (by simp)] at this
              exact this
            have hyc0 : Y.check = 0 := by rw [← hY]; exact room_check (unhide HMAY) (unhide HMASK) (unhide HV) (may_b (unhide HV)) (unhide HINA) (fun e => absurd ((unhide HGG).symm.trans e) (unhide HGN))
            have HAP : Hid (∀ wz, Fr W8 wz → Calls Tryd.prog 19 #[.agg #[.int .i64 x.kind, .int .i64 x.n, .slice ka x.rows.length kc], .agg #[.int .i64 V.op, .string (S V.a), .string (S V.b), .int .i64 V.n], .agg #[.int .i64 y1, .string (S y2), .int .i64 y3]] wz fun e w' => ∃ v', e = .returned v' ∧ StOwn wz.heap.size 70 w' v' Y ∧ Below wz.heap.size wz w') := fun wz hf => by rw [← hY, ← apply_same (VS.may.fit (unhide HMAY))]; exact aapply_any (c := V) ((unhide HSO8).later hf.low) (by have := may_small (unhide HMAY); omega) (MC.may_op (unhide HV)) (unhide HMD8 wz hf) ⟨y1, y2, y3⟩
            have HCV : Hid (∀ wz v, StAt wz v Y → Fr W8 wz → Calls Tryd.prog 24 #[v] wz fun e w' => e = .returned (.int .i64 0) ∧ Below wz.heap.size wz w') := fun wz v h hf => by rw [← hyc0]; exact vcheck_any h (unhide HWD8 wz hf)
            clear hyc0
            clear hfl hY HSO8 HMD8 HWD8 HC5 HINA
            clear h5 HG5 HGL HGG HSM hG HGN
            go_wp2_with fail
            refine (unhide HRM _ hf9).mono ?_
            rintro e wb ⟨rfl, hbb⟩
            have hfb := hf9.below hbb
            clear hbb HRM hf9
            go_wp2_with fail
            refine (unhide HAP _ hfb).mono ?_
            rintro e wc ⟨vc, rfl, hyc, hbc⟩
            have hfc := hfb.below hbc
            have HYC := hide hyc.at
            clear hyc hbc HAP hfb
            go_wp2_with fail
            refine (unhide HCV _ _ (unhide HYC) hfc).mono ?_
            rintro e wd ⟨rfl, hbd⟩
            have hfd := hfc.below hbd
            clear hbd HCV hfc HYC
            go_wp2_with fail
            go_roundw
            case rel => exact ⟨k + 1, by omega, by go_num, unhide HFR8 _ hfd⟩
            case measure => simp [intOf]; omega
      · have HL := hide ((unhide HL7).trans ((Fr.low hfr).mono (unhide HL7).size))
        have hkn : k = l.length := by omega
        subst hkn
        clear hfr
        go_wp2_with fail
        go_ret
        exact ⟨rfl, unhide HL⟩
theorem adtRoom_walk {H : Type} {enc : TypeId × Value → H} {base b0 : Nat} {spare : Nat → Bool} {held : Bool} {r : Reach} {v : Value} {d : DataW H} {p : List MemPlace} (w : World)
    (hv : Value.okWide Tryd.prog w r b0 24 v) (hd : DataW.Trod enc Tryd.prog w base spare held 24 v d p) (op : Int) (wop : (Lit.int .i64 op).wf = true) (ca : ByteArray) (wca : ca.size ≤ maxLen) (cb : ByteArray) (wcb : cb.size ≤ maxLen) (cn : Int) (wcn : (Lit.int .i64 cn).wf = true)
    (rows : Int) (wrows : (Lit.int .i64 rows).wf = true) (money : Int) (wmoney : (Lit.int .i64 money).wf = true) (hw : MD w ∧ WD w) :
    Calls Tryd.prog 5 #[v, .agg #[.int .i64 op, .string ca, .string cb, .int .i64 cn], .int .i64 rows, .int .i64 money] w fun e w' => e = .returned (.bool true) ∧ Below w.heap.size w w' := by
  obtain ⟨s, hs, _, hn, hz⟩ := open_state hv hd
  exact troom_any hs hn hz op ca cb cn (vwf_i64 wop) (vwf_i64 wcn) wca wcb rows money hw.1 hw.2
end Go.Proofs.YtcialbhmmbcgjaaDoor
