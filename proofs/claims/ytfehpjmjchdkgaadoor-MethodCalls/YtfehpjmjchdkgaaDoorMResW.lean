/- The walk of MethodResults. -/
import Derived.Test.YtfehpjmjchdkgaaDoorMRead
import Derived.Test.YtfehpjmjchdkgaaDoorMText
import Derived.Test.YtfehpjmjchdkgaaDoorMAwake
import Derived.Test.YtfehpjmjchdkgaaDoorCCut
import Derived.Deep.DeepCutAuto
import Derived.Deep.CutBlock
namespace Go.Proofs.YtfehpjmjchdkgaaDoor
open Go.RowKit
set_option linter.unusedVariables false
set_option maxRecDepth 100000

theorem fail_none (s : Codec.St) : Codec.fail 0 s = s := by
  unfold Codec.fail
  rw [if_neg (fun h => h.2 rfl)]
theorem end_empty : Codec.endOf ([], 0) = ([], 0) := rfl
theorem rr_back {r : MR} (h : r.check = 0) (hn : I64 r.n) : rrS (r.bytes, 0) = ([], 0) ∧ rrR (r.bytes, 0) = r := by
  obtain ⟨h1, h2⟩ := rr_bytes h hn []
  rw [List.append_nil] at h1 h2
  have e : rrS (r.bytes, 0) = ([], 0) := by rw [rrS, h1, h2, h]; exact fail_none _
  refine ⟨e, ?_⟩
  rw [rrR, e, if_neg (by simp), h1]
theorem rc_back {c : MC} (h : c.check = 0) (hn : I64 c.n) : rcS (c.text, 0) = ([], 0) ∧ rcC (c.text, 0) = c := by
  obtain ⟨h1, h2⟩ := rc_text h hn []
  rw [List.append_nil] at h1 h2
  have e : rcS (c.text, 0) = ([], 0) := by rw [rcS, h1, h2, h]; exact fail_none _
  refine ⟨e, ?_⟩
  rw [rcC, e, if_neg (by simp), h1]
theorem mr_short {r : MR} (h : r.check = 0) : r.text.length ≤ 24 := by
  unfold MR.check at h
  split at h
  · exact absurd h (by decide)
  · split at h
    · exact absurd h (by decide)
    · omega
theorem mr_bytes_len {r : MR} (h : r.check = 0) (hc : I64 r.code) (hn : I64 r.n) : r.bytes.length ≤ 200 := by
  have h1 := mr_short h
  have h2 := Codec.enc_short (max r.code 0).toNat (by have := hc.2; omega)
  have h3 := Codec.enc_short r.text.length (by omega)
  have h4 := Codec.enc_short (Codec.fold r.n) (Codec.fold_lt r.n hn.1 hn.2)
  simp only [MR.bytes, Codec.encS, List.length_append]
  omega

/- Behind a world: of all that it had, the In at q alone may be otherwise, and is st. -/
structure Mn (W : World) (q : Nat) (st : Codec.St) (w' : World) : Prop where
  but : But q W.heap.size W w'
  inn : InAt w' q st
section
variable {W w w' : World} {q : Nat} {st st' : Codec.St}
theorem Mn.start (h : InAt W q st) : Mn W q st W.drew := ⟨(But.refl _ _ _).drew, ⟨h.lt, h.c0, h.c1, h.f0, h.f1, h.len⟩⟩
theorem Mn.below (h : Mn W q st w) (hb : Below w.heap.size w w') : Mn W q st w' := ⟨h.but.trans (But.of_below (hb.mono h.but.size)), h.inn.later hb⟩
theorem Mn.step (h : Mn W q st w) (hb : But q w.heap.size w w') (hi : InAt w' q st) : Mn W q st w' := ⟨h.but.trans (hb.mono h.but.size), hi⟩
theorem Mn.heap (h : Mn W q st w) {k : Nat} {o : Obj} (hk : W.heap[k]? = some o) (hq : k ≠ q) : w.heap[k]? = some o := (h.but.block k (block_lt hk) hq).trans hk
end

set_option maxHeartbeats 12800000 in
theorem methodResults_walk (a : Int) (wa : (Lit.int .i64 a).wf = true) (t : ByteArray) (wt : t.size ≤ maxLen) (n : Int) (wn : (Lit.int .i64 n).wf = true) (w : World) (hw : MD w) :
    Calls Tryd.prog 4 #[.agg #[.int .i64 a, .string t, .int .i64 n]] w fun e w' => e = .returned (.bool true) ∧ Below w.heap.size w w' := by
  have ha : I64 a := bounds_i64 wa
  have hn : I64 n := bounds_i64 wn
  have hp := hw.pos
  have HCU := hide (fun (wy : World) => cut_any t 28 wy wt)
  have e28 : ((28 : Nat) : Int) = 28 := rfl
  rw [e28] at HCU
  obtain ⟨x, hx⟩ : ∃ x, t.data.toList.take 28 = x := ⟨_, rfl⟩
  have hxl : x.length ≤ 28 := by rw [← hx]; simp; omega
  rw [hx] at HCU
  obtain ⟨V, hV⟩ : ∃ V : MR, V = ⟨a, x, n⟩ := ⟨_, rfl⟩
  have HAW := hide (fun (w1 : World) (hb : Below w.heap.size w w1) => mawake_any (hw.later hb))
  have hvl : V.text.length ≤ maxLen := by rw [hV]; unfold maxLen; dsimp only; omega
  have HCK := hide (fun (w1 : World) => mrcheck_any (w := w1) V hvl)
  have HRK := hide (fun (w1 : World) => rrcheck_any (w := w1) V hvl)
  have HPU0 : Hid (V.check = 0 → ∀ (w1 : World) (q : Nat), OutAt w1 q [] → Calls Tryd.prog 21 #[mrV V, .pointer (some ⟨q, 0, none⟩)] w1 fun e w' => e = .returned (.tuple #[]) ∧ OutAt w' q V.bytes ∧ Step q w1 w') := fun h w1 q ho => by
    have := mrput_any V ho (by simp) (by rw [hV]; exact ha) (by rw [hV]; exact hn) (by have := mr_short h; omega)
    rwa [List.nil_append] at this
  have HTX0 : Hid (V.check = 0 → ∀ (w1 : World), Calls Tryd.prog 23 #[mrV V] w1 fun e w' => e = .returned (.string (S V.bytes)) ∧ Below w1.heap.size w1 w') := fun h w1 => rbytes12_any V (by rw [hV]; exact ha) (by rw [hV]; exact hn) (by have := mr_short h; omega)
  have HRE0 : Hid (V.check = 0 → ∀ (w1 : World) (q : Nat), MD w1 → InAt w1 q (V.bytes, 0) → q ≠ 0 → q < w1.heap.size → Calls Tryd.prog 22 #[.pointer (some ⟨q, 0, none⟩)] w1 fun e w' => e = .returned (mrV V) ∧ InAt w' q ([], 0) ∧ But q w1.heap.size w1 w') := fun h w1 q h1 h2 h3 h4 => by
    have := mrread_any h1 h2 h3 h4
    have hb := rr_back h (by rw [hV]; exact hn)
    rwa [hb.1, hb.2] at this
  have HEN := hide (fun (w1 : World) (q : Nat) (h1 : InAt w1 q ([], 0)) => end_any q ([], 0) w1 h1)
  simp only [end_empty] at HEN
  have HBL0 : Hid (V.check = 0 → V.bytes.length ≤ 1099511627776) := fun h => by
    have := mr_bytes_len h (by rw [hV]; exact ha) (by rw [hV]; exact hn)
    omega
  have HVA : Hid (mrV V = .agg #[.int .i64 a, .string (S x), .int .i64 n]) := by show _ = _; rw [hV]; rfl
  rw [unhide HVA] at HCK HRK HPU0 HTX0 HRE0
  generalize V.check = ck at *
  have hee : (ck == ck) = true := by simp
  have hne : (ck != ck) = false := by simp
  have HMD := hide (fun (w1 : World) (hb : Below w.heap.size w w1) => hw.later hb)
  obtain ⟨W, hW⟩ : ∃ W, w.alloc (.cells #[.int .i64 a, .string (S x), .int .i64 n] 46) = W := ⟨_, rfl⟩
  have hWq : W.heap[w.heap.size]? = some (.cells #[.int .i64 a, .string (S x), .int .i64 n] 46 (0, 0)) := by
    rw [← hW]; exact heap_alloc_new w _
  have hWl : Below w.heap.size w W := by rw [← hW]; exact under_box _
  have p0 : ∀ w1, Bm W w1 → w1.cell? ⟨w.heap.size, 0, none⟩ = some (.int .i64 a) := fun w1 h => (h.cells3 hWq).1
  have p1 : ∀ w1, Bm W w1 → w1.cell? ⟨w.heap.size, 1, none⟩ = some (.string (S x)) := fun w1 h => (h.cells3 hWq).2.1
  have p2 : ∀ w1, Bm W w1 → w1.cell? ⟨w.heap.size, 2, none⟩ = some (.int .i64 n) := fun w1 h => (h.cells3 hWq).2.2
  have hst : Bm W W.drew := (Below.refl _ _).drew
  have HLOW : Hid (∀ w1, Bm W w1 → Below w.heap.size w w1) := fun w1 h => hWl.trans (h.low.mono hWl.size)
  have HWQ := hide hWq
  have HWW := hide hW
  have HP := hide hp
  clear hW hWq hWl hV hx hvl hw e28 wa wn wt ha hn hp
  go_enter Tryd.func4, Tryd.ntmps4
  go_wp2_with fail
  refine (unhide HCU _).mono ?_
  rintro e wc ⟨rfl, hww⟩
  subst hww
  go_wp2_with fail
  rw [unhide HWW]
  clear HWW HCU
  go_region_held3 (fun w' => Bm W w') (with_reducible (first | exact hst | (refine Bm.below ?_ (by assumption) <;> assumption)))
    (first
      | (go_at_call 9; refine (unhide HAW _ (unhide HLOW _ (by assumption))).mono ?_; rintro e wa ⟨rfl, hba⟩)
      | (go_at_call 19; refine (unhide HCK _).mono ?_; rintro e wb ⟨rfl, hbb⟩)
      | (go_at_call 20; refine (unhide HRK _).mono ?_; rintro e wd ⟨rfl, hbd⟩)
      | fail)
  all_goals
    have hbm : Bm W wd := by assumption
    have HBM := hide hbm
    have a0 := p0 _ hbm
    have a1 := p1 _ hbm
    have a2 := p2 _ hbm
    clear hst hbm p0 p1 p2
    clear hba hbb hbd
    by_cases hck : ck = 0
    · subst hck
      have HPU := hide (unhide HPU0 rfl)
      have HTX := hide (unhide HTX0 rfl)
      have HRE := hide (unhide HRE0 rfl)
      have HBL := hide (unhide HBL0 rfl)
      clear HPU0 HTX0 HRE0 HBL0 hee hne
      generalize V.bytes = B at *
      have hss : ((S B).toList == (S B).toList) = true := by simp
      go_wp2_with fail
      refine (unhide HCK _).mono ?_
      rintro e we ⟨rfl, hbe⟩
      have HB5 := hide ((unhide HBM).below hbe)
      clear hbe a0 a1 a2 HCK HRK
      have hq5 := ((unhide HB5).low.block _ (block_lt (unhide HWQ))).trans (unhide HWQ)
      obtain ⟨a0, a1, a2⟩ := heap_cells3 hq5
      have HQ5 := hide hq5
      have hlt5 := block_lt hq5
      have HOA := hide (OutAt.new we)
      have HPU1 := hide (unhide HPU _ _ (unhide HOA))
      clear hq5 HPU
      go_wp2_with fail
      refine (unhide HPU1).mono ?_
      rintro e w7 ⟨rfl, ho7, hs7⟩
      have hb57 : Below we.heap.size we w7 := (under_box _).trans (hs7.below (unhide HOA) (Nat.le_refl _))
      have HB7 := hide ((unhide HB5).below hb57)
      have HQ7 := hide ((hb57.block _ (block_lt (unhide HQ5))).trans (unhide HQ5))
      have HO7 := hide ho7
      have HT7 := hide (text_any _ _ w7 ho7)
      have HRD := hide (read_any B w7 (unhide HBL))
      clear hb57 hs7 ho7 HQ5 HOA HPU1 a0 a1 a2 hlt5
      go_wp2_with fail
      refine (unhide HT7).mono ?_
      rintro e wt ⟨rfl, hwt⟩
      subst hwt
      go_wp2_with fail
      refine (unhide HRD).mono ?_
      rintro e w8 ⟨rfl, hi8, hb8, hz8⟩
      obtain ⟨q, hq⟩ : ∃ q, wt.heap.size = q := ⟨_, rfl⟩
      have HB8 := hide ((unhide HB7).below hb8)
      have HQL : Hid (q < w8.heap.size ∧ q ≠ 0) := ⟨by omega, by have h1 := (unhide HLOW _ (unhide HB7)).size; have h2 := unhide HP; omega⟩
      rw [hq] at hi8
      have HRE8 := hide (unhide HRE w8 q (unhide HMD _ (unhide HLOW _ (unhide HB8))) hi8 (unhide HQL).2 (unhide HQL).1)
      have HB78 : Hid (Below wt.heap.size wt w8) := hb8
      rw [hq]
      have HQQ := hide hq
      clear hi8 hb8 hz8 HRE HRD HT7 hq
      go_wp2_with fail
      refine (unhide HRE8).mono ?_
      rintro e w9 ⟨rfl, hi9, hb9⟩
      obtain ⟨X, hX⟩ : ∃ X : Obj, X = .cells #[.int .i64 a, .string (S x), .int .i64 n] 46 (0, 0) := ⟨_, rfl⟩
      obtain ⟨W2, hW2⟩ : ∃ W2, w9.alloc X = W2 := ⟨_, rfl⟩
      have hX2 : W2.heap[w9.heap.size]? = some X := by rw [← hW2]; exact heap_alloc_new w9 X
      rw [hX] at hX2
      have hi2 : InAt W2 q ([], 0) := by rw [← hW2]; exact hi9.later (under_box X)
      have hqn : w9.heap.size ≠ q := by have := hi9.lt; omega
      have HB72 : Hid (Below wt.heap.size wt W2) := ((unhide HB78).trans (hb9.below (by have := unhide HQQ; omega) (unhide HB78).size)).trans (by rw [← hW2]; exact (under_box X).mono (by have h1 := (unhide HB78).size; have h2 := hb9.size; omega))
      have HALL : Hid (∀ w1, Mn W2 q ([], 0) w1 → Below wt.heap.size wt w1) := fun w1 h => (unhide HB72).trans (h.but.below (by have := unhide HQQ; omega) (unhide HB72).size)
      have q0 : ∀ w1, Mn W2 q ([], 0) w1 → w1.cell? ⟨w.heap.size, 0, none⟩ = some (.int .i64 a) := fun w1 h => (heap_cells3 (((unhide HALL _ h).block _ (block_lt (unhide HQ7))).trans (unhide HQ7))).1
      have q1 : ∀ w1, Mn W2 q ([], 0) w1 → w1.cell? ⟨w.heap.size, 1, none⟩ = some (.string (S x)) := fun w1 h => (heap_cells3 (((unhide HALL _ h).block _ (block_lt (unhide HQ7))).trans (unhide HQ7))).2.1
      have q2 : ∀ w1, Mn W2 q ([], 0) w1 → w1.cell? ⟨w.heap.size, 2, none⟩ = some (.int .i64 n) := fun w1 h => (heap_cells3 (((unhide HALL _ h).block _ (block_lt (unhide HQ7))).trans (unhide HQ7))).2.2
      have x0 : ∀ w1, Mn W2 q ([], 0) w1 → w1.cell? ⟨w9.heap.size, 0, none⟩ = some (.int .i64 a) := fun w1 h => (heap_cells3 (h.heap hX2 hqn)).1
      have x1 : ∀ w1, Mn W2 q ([], 0) w1 → w1.cell? ⟨w9.heap.size, 1, none⟩ = some (.string (S x)) := fun w1 h => (heap_cells3 (h.heap hX2 hqn)).2.1
      have x2 : ∀ w1, Mn W2 q ([], 0) w1 → w1.cell? ⟨w9.heap.size, 2, none⟩ = some (.int .i64 n) := fun w1 h => (heap_cells3 (h.heap hX2 hqn)).2.2
      have HTT : Hid (∀ w1, Mn W2 q ([], 0) w1 → Calls Tryd.prog 15 #[.pointer (some ⟨we.heap.size, 0, none⟩)] w1 fun e w' => e = .returned (.string (S B)) ∧ w' = w1) := fun w1 h => text_any _ _ w1 ((unhide HO7).later (unhide HALL _ h)).1
      have HEE : Hid (∀ w1, Mn W2 q ([], 0) w1 → Calls Tryd.prog 18 #[.pointer (some ⟨q, 0, none⟩)] w1 fun e w' => e = .returned (.int .i64 0) ∧ InAt w' q ([], 0) ∧ But q w1.heap.size w1 w') := fun w1 h => unhide HEN w1 q h.inn
      have hst2 : Mn W2 q ([], 0) W2.drew := Mn.start hi2
      have HFIN0 : Hid (∀ w1, Mn W2 q ([], 0) w1 → Below w.heap.size w w1) := fun w1 h => (unhide HLOW _ (unhide HB7)).trans ((unhide HALL _ h).mono (unhide HLOW _ (unhide HB7)).size)
      have HW2 := hide hW2
      have HX := hide hX
      clear hX hW2 hX2 hi2 hqn HB72 HALL HRE8 HB78 hi9 hb9 HB8 HB7 HQ7 HO7 HEN HQL HBM HB5 HWQ HP HAW
      go_wp2_with fail
      rw [← unhide HX, unhide HW2]
      clear HX HW2
      go_region_held3 (fun w' => Mn W2 q ([], 0) w') (with_reducible (first | exact hst2 | (refine Mn.below ?_ (by assumption) <;> assumption) | (refine Mn.step ?_ (by assumption) (by assumption) <;> assumption) | assumption))
        (first
          | (go_at_call 15; refine (unhide HTT _ (by assumption)).mono ?_; rintro e wx ⟨rfl, hwx⟩; subst hwx)
          | (go_at_call 23; refine (unhide HTX _).mono ?_; rintro e wy ⟨rfl, hby⟩)
          | (go_at_call 18; refine (unhide HEE _ (by assumption)).mono ?_; rintro e wz ⟨rfl, hiz, hbz⟩)
          | fail)
      all_goals
        have HFIN := hide (unhide HFIN0 _ (by assumption))
        go_wp2_with fail
        go_ret
        exact ⟨rfl, unhide HFIN⟩
    · have ec : (ck != 0) = true := by rw [bne_iff_ne]; exact hck
      clear hck HPU0 HTX0 HRE0 HBL0
      go_wp2_with fail
      refine (unhide HCK _).mono ?_
      rintro e we ⟨rfl, hbe⟩
      have HB5 := hide (unhide HLOW _ ((unhide HBM).below hbe))
      clear hbe
      go_wp2_with fail
      go_ret
      exact ⟨rfl, unhide HB5⟩
end Go.Proofs.YtfehpjmjchdkgaaDoor
