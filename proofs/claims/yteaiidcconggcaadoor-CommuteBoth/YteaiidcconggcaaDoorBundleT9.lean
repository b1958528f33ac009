/- Texts that this proof needs, one behind the other: TPlus, TRGone, TApply. -/
import Derived.Test.YteaiidcconggcaaDoorBundleT7
import Derived.Test.YteaiidcconggcaaDoorVRefWith
import Derived.Test.YteaiidcconggcaaDoorMChange
/- The contracts of adt's without, written, plus. -/
namespace Go.Proofs.YteaiidcconggcaaDoor
open Go.RowKit
set_option linter.unusedVariables false
set_option maxRecDepth 100000

theorem awithout_any {base : Nat} {w : World} {v : Value} {s : VS} (h : StOwn base 82 w v s) (hs : s.rows.length ≤ 1000) (key : List UInt8) :
    Calls Tryd.prog 64 #[v, .string (S key)] w fun e w' => ∃ v', e = .returned v' ∧ StOwn w.heap.size 82 w' v' (s.gone key) ∧ Below w.heap.size w w' := by
  have HF := hide (fun (w1 : World) (hb : Below w.heap.size w w1) => vfind_any (h.at.later hb) key)
  have HC := hide (fun (w1 : World) (hb : Below w.heap.size w w1) => vclone_any (h.later hb) hs)
  have HW := hide (fun (w1 : World) (hb : Below w.heap.size w w1) (hP : hits key s.rows < s.rows.length) => vwithout_any (h.later hb) hs _ hP)
  have HG := hide (fun (hP : ¬ hits key s.rows < s.rows.length) => VS.gone_no hP)
  rw [show s.without (hits key s.rows) = s.gone key from rfl] at HW
  obtain ⟨k0, rfl, hr⟩ := h
  obtain ⟨a, c, rfl, _⟩ := ownsRow_slice hr
  have HST := hide (B2.start w (.cells #[.int .i64 s.kind, .int .i64 s.n, .slice a s.rows.length c] 47) (.cells #[.int .i64 0, .int .i64 0, .slice none 0 0] 47))
  unfold VS.has at *
  by_cases hl : hits key s.rows < s.rows.length
  · rw [decide_eq_true hl, if_pos rfl] at HF
    have HW2 := hide (fun (w1 : World) (hb : Below w.heap.size w w1) => unhide HW w1 hb hl)
    generalize s.gone key = y at *
    generalize hits key s.rows = P at *
    obtain ⟨kd, n, rows⟩ := s
    dsimp only at *
    clear hr hl HW HG HC
    go_enter Tryd.func64, Tryd.ntmps64
    go_wp2_with fail
    refine (unhide HF _ (unhide HST).low).mono ?_
    rintro e w1 ⟨rfl, hb⟩
    have HX1 := hide ((unhide HST).on hb)
    obtain ⟨⟨c0, c1, c2⟩, _⟩ := (unhide HX1).facts
    clear hb HF HST
    go_wp2_with fail
    refine (unhide HW2 _ (unhide HX1).low).mono ?_
    rintro e w2 ⟨v2, rfl, ⟨k2, rfl, ho⟩, hb⟩
    obtain ⟨ka, kc, rfl, _⟩ := ownsRow_slice ho
    have hx2 := (unhide HX1).on hb
    obtain ⟨z0, z1, z2, zl, zo, y0, y1, y2, f1⟩ := give3 hx2.low (by omega) hx2.blocks.2.1 (.int .i64 y.kind) (.int .i64 y.n) (.slice ka y.rows.length kc)
    have ZO := hide (zo _ _ _ _ _ _ (by have := (unhide HX1).blocks.2.2; omega) ho)
    unfold put3 at z0 z1 z2 zl ZO
    have ZL := hide zl
    clear hx2 hb ho zo zl HW2 HX1 c0 c1 c2
    go_wp2_with fail
    exact bodyPost_ret (v := .agg #[.int .i64 y.kind, .int .i64 y.n, .slice ka y.rows.length kc]) (by simp [results, Tryd.results64, go_sem, z0, z1, z2]) rfl ⟨_, rfl, ⟨_, rfl, unhide ZO⟩, unhide ZL⟩
  · rw [decide_eq_false hl] at HF
    rw [if_neg (by simp)] at HF
    rw [unhide HG hl]
    generalize hits key s.rows = P at *
    obtain ⟨kd, n, rows⟩ := s
    dsimp only at *
    clear hr hl HW HG
    go_enter Tryd.func64, Tryd.ntmps64
    go_wp2_with fail
    refine (unhide HF _ (unhide HST).low).mono ?_
    rintro e w1 ⟨rfl, hb⟩
    have HX1 := hide ((unhide HST).on hb)
    obtain ⟨⟨c0, c1, c2⟩, _⟩ := (unhide HX1).facts
    clear hb HF HST
    go_wp2_with fail
    refine (unhide HC _ (unhide HX1).low).mono ?_
    rintro e w2 ⟨v2, rfl, ⟨k2, rfl, ho⟩, hb⟩
    obtain ⟨ka, kc, rfl, _⟩ := ownsRow_slice ho
    have hx2 := (unhide HX1).on hb
    obtain ⟨z0, z1, z2, zl, zo, y0, y1, y2, f1⟩ := give3 hx2.low (by omega) hx2.blocks.2.1 (.int .i64 kd) (.int .i64 n) (.slice ka rows.length kc)
    have ZO := hide (zo _ _ _ _ _ _ (by have := (unhide HX1).blocks.2.2; omega) ho)
    unfold put3 at z0 z1 z2 zl ZO
    have ZL := hide zl
    clear hx2 hb ho zo zl HC HX1 c0 c1 c2
    go_wp2_with fail
    exact bodyPost_ret (v := .agg #[.int .i64 kd, .int .i64 n, .slice ka rows.length kc]) (by simp [results, Tryd.results64, go_sem, z0, z1, z2]) rfl ⟨_, rfl, ⟨_, rfl, unhide ZO⟩, unhide ZL⟩

set_option maxHeartbeats 6400000 in
theorem awritten_any {base : Nat} {w : World} {v : Value} {s : VS} (h : StOwn base 82 w v s) (t : List UInt8) :
    Calls Tryd.prog 61 #[v, .string (S t)] w fun e w' => ∃ v', e = .returned v' ∧ StOwn w.heap.size 82 w' v' (if t = [] then ⟨s.kind, s.n, []⟩ else VS.with ⟨s.kind, s.n, []⟩ (t, [])) ∧ Below w.heap.size w w' := by
  obtain ⟨k0, rfl, hr⟩ := h
  obtain ⟨a, c, rfl, _⟩ := ownsRow_slice hr
  have HST := hide (B2.start w (.cells #[.int .i64 s.kind, .int .i64 s.n, .slice none 0 0] 47) (.cells #[.int .i64 0, .int .i64 0, .slice none 0 0] 47))
  obtain ⟨kd, n, rows⟩ := s
  dsimp only at *
  clear hr
  by_cases ht : t = []
  · subst ht
    rw [if_pos rfl]
    have he : (S []).toList.isEmpty = true := by rw [S_isEmpty]; rfl
    clear HST
    go_enter Tryd.func61, Tryd.ntmps61
    go_wp2_with fail
    exact bodyPost_ret (v := .agg #[.int .i64 kd, .int .i64 n, .slice none 0 0]) (by simp [results, Tryd.results61, go_sem]) rfl ⟨_, rfl, ⟨_, rfl, World.ownsRow_nil _ _ _ _⟩, under_two _ _ _⟩
  · rw [if_neg ht]
    have HWI : Hid (∀ w1 : World, Calls Tryd.prog 63 #[.agg #[.int .i64 kd, .int .i64 n, .slice none 0 0], .agg #[.string (S t), .string ⟨#[]⟩]] w1 fun e w' => ∃ v', e = .returned v' ∧ StOwn w1.heap.size 82 w' v' (VS.with ⟨kd, n, []⟩ (t, [])) ∧ Below w1.heap.size w1 w') := fun w1 => with_any (s := ⟨kd, n, []⟩) ⟨_, rfl, Row2.nil w1⟩ (by simp) (t, [])
    generalize VS.with ⟨kd, n, []⟩ (t, []) = y at *
    have he : (S t).toList.isEmpty = false := by rw [S_isEmpty]; cases t <;> simp_all
    have het : t.isEmpty = false := by cases t <;> simp_all
    clear ht
    go_enter Tryd.func61, Tryd.ntmps61
    go_wp2_with fail
    refine (unhide HWI _).mono ?_
    rintro e w2 ⟨v2, rfl, ⟨k2, rfl, ho⟩, hb⟩
    obtain ⟨ka, kc, rfl, _⟩ := ownsRow_slice ho
    have hx2 := (unhide HST).on hb
    obtain ⟨z0, z1, z2, zl, zo, y0, y1, y2, f1⟩ := give3 hx2.low (by omega) hx2.blocks.2.1 (.int .i64 y.kind) (.int .i64 y.n) (.slice ka y.rows.length kc)
    have ZO := hide (zo _ _ _ _ _ _ (by simp) ho)
    unfold put3 at z0 z1 z2 zl ZO
    have ZL := hide zl
    clear hx2 hb ho zo zl HWI HST
    go_wp2_with fail
    exact bodyPost_ret (v := .agg #[.int .i64 y.kind, .int .i64 y.n, .slice ka y.rows.length kc]) (by simp [results, Tryd.results61, go_sem, z0, z1, z2]) rfl ⟨_, rfl, ⟨_, rfl, unhide ZO⟩, unhide ZL⟩

theorem wrap_eq {x q : Int} (h : wrap64 x = q) : IntKind.i64.wrap x = q := by rw [← h, IntKind.wrap_i64]; unfold wrap64; omega
def putN (w2 : World) (N : Nat) (x y z q : Value) : World := (put3 w2 N x y z).setCell ⟨N, 1, none⟩ q
theorem putN_other (w2 : World) {N : Nat} (x y z q : Value) {j : Nat} (hj : j ≠ N) : (putN w2 N x y z q).heap[j]? = w2.heap[j]? := by
  unfold putN
  rw [heap_setCell_other _ ⟨N, 1, none⟩ j _ hj, put3_other _ _ _ _ hj]
theorem putN_size (w2 : World) (N : Nat) (x y z q : Value) : (putN w2 N x y z q).heap.size = w2.heap.size := by
  unfold putN
  simp [put3_size]
theorem putN_below {w w2 : World} {N : Nat} (hl : Below w.heap.size w w2) (hN : w.heap.size ≤ N) (x y z q : Value) : Below w.heap.size w (putN w2 N x y z q) :=
  ⟨hl.os, hl.tape, hl.output, by rw [putN_size]; exact hl.size, fun j hj => by rw [putN_other _ _ _ _ _ (by omega)]; exact hl.block j hj⟩
theorem putN_own {w2 : World} {N : Nat} (x y z q : Value) {base k nn : Nat} {u : Value} {xs : List Value} {e : TypeId} (hb : N < base) (hu : w2.ownsRow base e k u nn xs) : (putN w2 N x y z q).ownsRow base e k u nn xs :=
  ownsRow_same hu fun j hj => by
    have := (hu.lt j hj).1
    rw [putN_other _ _ _ _ _ (by omega)]
theorem putN_cells {w2 : World} {N : Nat} {a b c : Value} {t : TypeId} (h : w2.heap[N]? = some (.cells #[a, b, c] t (0, 0))) (x y z q : Value) :
    (putN w2 N x y z q).cell? ⟨N, 0, none⟩ = some x ∧ (putN w2 N x y z q).cell? ⟨N, 1, none⟩ = some q ∧ (putN w2 N x y z q).cell? ⟨N, 2, none⟩ = some z := by
  have h1 := heap_setCell_same w2 N 0 _ _ x h
  have h2 := heap_setCell_same _ N 1 _ _ y h1
  have h3 := heap_setCell_same _ N 2 _ _ z h2
  have h4 := heap_setCell_same _ N 1 _ _ q h3
  have h5 : (putN w2 N x y z q).heap[N]? = some (.cells #[x, q, z] t (0, 0)) := by
    unfold putN put3
    simpa [Array.setIfInBounds] using h4
  refine ⟨?_, ?_, ?_⟩ <;> rw [block_cell h5] <;> rfl
set_option maxHeartbeats 6400000 in
theorem aplus_any {base : Nat} {w : World} {v : Value} {s : VS} (h : StOwn base 82 w v s) (hs : s.rows.length ≤ 1000) (m : Int) :
    Calls Tryd.prog 62 #[v, .int .i64 m] w fun e w' => ∃ v', e = .returned v' ∧ StOwn w.heap.size 82 w' v' ⟨s.kind, wrap64 (s.n + m), s.rows⟩ ∧ Below w.heap.size w w' := by
  have HC := hide (fun (w1 : World) (hb : Below w.heap.size w w1) => vclone_any (h.later hb) hs)
  obtain ⟨k0, rfl, hr⟩ := h
  obtain ⟨a, c, rfl, _⟩ := ownsRow_slice hr
  have HST := hide (B2.start w (.cells #[.int .i64 s.kind, .int .i64 s.n, .slice a s.rows.length c] 47) (.cells #[.int .i64 0, .int .i64 0, .slice none 0 0] 47))
  obtain ⟨kd, n, rows⟩ := s
  dsimp only at *
  obtain ⟨q, hq⟩ : ∃ q, wrap64 (n + m) = q := ⟨_, rfl⟩
  have HQW : Hid (IntKind.i64.wrap (n + m) = q) := wrap_eq hq
  rw [hq]
  clear hr hq
  go_enter Tryd.func62, Tryd.ntmps62
  go_wp2_with fail
  refine (unhide HC _ (unhide HST).low).mono ?_
  rintro e w2 ⟨v2, rfl, ⟨k2, rfl, ho⟩, hb⟩
  obtain ⟨ka, kc, rfl, _⟩ := ownsRow_slice ho
  dsimp only at ho
  have hx2 := (unhide HST).on hb
  obtain ⟨h1, h2, hs2⟩ := hx2.blocks
  obtain ⟨⟨c0, c1, c2⟩, ⟨d0, d1, d2⟩, f0, f1⟩ := hx2.facts
  obtain ⟨u0, u1, u2⟩ := putN_cells h1 (.int .i64 kd) (.int .i64 n) (.slice ka rows.length kc) (.int .i64 q)
  obtain ⟨z0, z1, z2, zl, zo, y0, y1, y2, f2⟩ := give3 (N := w.heap.size + 1) (putN_below hx2.low (Nat.le_refl _) (.int .i64 kd) (.int .i64 n) (.slice ka rows.length kc) (.int .i64 q)) (Nat.le_succ _) ((putN_other _ _ _ _ _ (Nat.succ_ne_self _)).trans h2) (.int .i64 kd) (.int .i64 q) (.slice ka rows.length kc)
  have ZO := hide (zo _ _ _ _ _ _ (by simp) (putN_own _ _ _ _ (by simp; omega) ho))
  have ZL := hide zl
  have Z0 := hide z0
  have Z1 := hide z1
  have Z2 := hide z2
  have U := hide (And.intro u0 (And.intro u1 (And.intro u2 (And.intro y0 (And.intro y1 (And.intro y2 f2))))))
  clear hx2 hb ho zo zl HC HST h1 h2 hs2 u0 u1 u2 y0 y1 y2 f2 z0 z1 z2 d0 d1 d2 f1
  have hw := unhide HQW
  clear HQW
  go_upto_region 3 with fail
  unfold putN put3 at Z0 Z1 Z2 ZL ZO U
  obtain ⟨W3, hW3⟩ : ∃ W3, ((((w2.setCell ⟨w.heap.size, 0, none⟩ (.int .i64 kd)).setCell ⟨w.heap.size, 1, none⟩ (.int .i64 n)).setCell ⟨w.heap.size, 2, none⟩ (.slice ka rows.length kc)).setCell ⟨w.heap.size, 1, none⟩ (.int .i64 q)) = W3 := ⟨_, rfl⟩
  rw [hW3] at Z0 Z1 Z2 ZL ZO U ⊢
  obtain ⟨u0, u1, u2, y0, y1, y2, f2⟩ := unhide U
  have z0 := unhide Z0
  have z1 := unhide Z1
  have z2 := unhide Z2
  clear hW3 U Z0 Z1 Z2 c0 c1 c2 f0
  go_wp2_with fail
  exact bodyPost_ret (v := .agg #[.int .i64 kd, .int .i64 q, .slice ka rows.length kc]) (by simp [results, Tryd.results62, go_sem, z0, z1, z2]) rfl ⟨_, rfl, ⟨_, rfl, unhide ZO⟩, unhide ZL⟩
end Go.Proofs.YteaiidcconggcaaDoor
/- The contracts of the document's Without and gone. -/
namespace Go.Proofs.YteaiidcconggcaaDoor
open Go.RowKit
set_option linter.unusedVariables false
set_option maxRecDepth 100000

theorem erase_step (rows : List (List UInt8 × List UInt8)) (P k : Nat) (hk : k < rows.length) : (rows.take (k + 1)).eraseIdx P = if k = P then (rows.take k).eraseIdx P else (rows.take k).eraseIdx P ++ [rows[k]'hk] := by
  have hl : (rows.take k).length = k := by simp; omega
  rw [List.take_succ_eq_append_getElem hk]
  by_cases h : P < k
  · rw [if_neg (by omega), List.eraseIdx_append_of_lt_length (by rw [hl]; exact h)]
  · rw [List.eraseIdx_append_of_length_le (by rw [hl]; omega), hl, List.eraseIdx_of_length_le (l := rows.take k) (by rw [hl]; omega)]
    by_cases h2 : k = P
    · subst h2
      rw [if_pos rfl, Nat.sub_self]; simp
    · rw [if_neg h2, List.eraseIdx_of_length_le (by simp; omega)]
theorem erase_len (rows : List (List UInt8 × List UInt8)) (P k : Nat) : ((rows.take k).eraseIdx P).length ≤ k := by
  have := (List.eraseIdx_sublist (rows.take k) P).length_le
  simp at this ⊢
  omega

set_option maxHeartbeats 6400000 in
theorem rwithout_any {w : World} {v : Value} {s : VS} (h : StAt w v s) (hs : s.rows.length ≤ 1000) (P : Nat) :
    Calls Tryd.prog 66 #[v, .int .i64 (P : Int)] w fun e w' => ∃ v', e = .returned v' ∧ StOwn w.heap.size 77 w' v' (s.without P) ∧ Below w.heap.size w w' := by
  obtain ⟨i0, hi, hz0, hz1, hz2⟩ := info_parts info_rrow
  obtain ⟨k0, rfl, hr⟩ := h
  obtain ⟨a, c, rfl, hc, hm⟩ := hr.shape
  unfold maxLen at hm
  obtain ⟨kd, n, rows⟩ := s
  unfold VS.without
  dsimp only at *
  have HROW := hide hr
  have HER := hide (fun (k : Nat) (hk : k < rows.length) => erase_step rows P k hk)
  have HLE := hide (fun (k : Nat) => erase_len rows P k)
  obtain ⟨ef, hef⟩ : ∃ ef : Nat → List (List UInt8 × List UInt8), (fun k => (rows.take k).eraseIdx P) = ef := ⟨_, rfl⟩
  have hef' : ∀ k, (rows.take k).eraseIdx P = ef k := fun k => by rw [← hef]
  simp only [hef'] at HER HLE
  have hend : rows.eraseIdx P = ef rows.length := by rw [← hef', List.take_length]
  have he0 : ef 0 = [] := by rw [← hef']; simp
  rw [hend]
  clear hend hef hef'
  have HST := hide (B2.start w (.cells #[.int .i64 kd, .int .i64 n, .slice a rows.length c] 38) (.cells #[.int .i64 0, .int .i64 0, .slice none 0 0] 38))
  clear hr
  go_enter Tryd.func66, Tryd.ntmps66
  go_wp2_with fail
  go_loopw [5, 12] (fun o i wr => ∃ k : Nat, k ≤ rows.length ∧ i = .int .i64 (k : Int) ∧ wr.ownsRow (w.heap.size + 1 + 1) 77 2 o (ef k).length (R9 (ef k)) ∧ B2 w (.cells #[.int .i64 kd, .int .i64 n, .slice a rows.length c] 38 (0, 0)) (.cells #[.int .i64 0, .int .i64 0, .slice none 0 0] 38 (0, 0)) wr) (fun _ i _ => rows.length - (intOf i).toNat)
  case atStart => exact ⟨0, Nat.zero_le _, rfl, by rw [he0]; exact own_none _ _ _ (by simp) (by simp), (unhide HST).on (under_box _)⟩
  case round =>
    obtain ⟨k, hk, rfl, hown, hbx⟩ := hrel
    obtain ⟨oa, oc, rfl, _⟩ := ownsRow_slice hown
    have hlow := hbx.low
    have HOW := hide hown
    have HBX := hide hbx
    have HSZ : Hid (w.heap.size + 1 + 1 ≤ wr.heap.size) := hbx.blocks.2.2
    have HLK := hide (unhide HLE k)
    by_cases hlt : k < rows.length
    · obtain ⟨b, off, rfl, hbl, e1, e2⟩ := (unhide HROW).at k hlt
      rw [← hlow.cell (p := ⟨b, off + k * 2, none⟩) hbl] at e1
      rw [← hlow.cell (p := ⟨b, off + k * 2 + 1, none⟩) hbl] at e2
      have hne : wr.heap.size ≠ b := by have := hlow.size; omega
      have HKN := hide (unhide HER k hlt)
      generalize rows[k]'hlt = r at *
      obtain ⟨x, y⟩ := r
      dsimp only at *
      have hi0 : (0 : Int) ≤ (k : Int) := by omega
      have hi1 : (k : Int) < ((rows.length : Nat) : Int) := by omega
      clear hown hbx hlow HER HLE HST HROW
      by_cases hkp : k = P
      · have z0 : ((k : Int) != (P : Int)) = false := by rw [hkp]; simp
        have HK2 : Hid (ef (k + 1) = ef k) := by show _ = _; rw [unhide HKN, if_pos hkp]
        clear HKN hkp
        go_wp2_with fail
        go_roundw
        case rel => exact ⟨k + 1, by omega, by go_num, by rw [unhide HK2]; exact ownsRow_below (unhide HOW) (under_box _), (unhide HBX).on (under_box _)⟩
        case measure => simp [intOf]; omega
      · have z0 : ((k : Int) != (P : Int)) = true := by rw [bne_iff_ne]; omega
        have HK2 : Hid (ef (k + 1) = ef k ++ [(x, y)]) := by show _ = _; rw [unhide HKN, if_neg hkp]
        clear HKN hkp
        go_wp2_with (first | (at_builtin; refine wpList_append_fresh rfl _ _ 36 rfl (w.heap.size + 1 + 1) 77 i0 (.agg #[.string ⟨#[]⟩, .string ⟨#[]⟩]) 2 32 under_rrows hi hz0 hz1 hz2 rfl (by decide) _ _ _ rfl (((unhide HOW).alloc _).alloc _) ⟨wr.heap.size + 1, 0, none⟩ 1 1 [.string (S x), .string (S y)] rfl rfl (by have := pair_new (wr.alloc (.cells #[.string (S x), .string (S y)] 77)) (.string (S x)) (.string (S y)) 77; first | exact this | rwa [World.size_alloc] at this) ?c2 ?c3 ?c4 ?c5 ?_) | fail)
        case c2 => intro u hu; simp at hu; rcases hu with rfl | rfl <;> rfl
        case c3 => have := unhide HLK; unfold maxLen; omega
        case c4 => have := unhide HLK; omega
        case c5 => have := unhide HSZ; simp; omega
        intro v' w2 hown' hgrow _
        obtain ⟨va, vc, rfl, _⟩ := ownsRow_slice hown'
        have hb2 : Below (w.heap.size + 1 + 1) wr w2 := (((Below.refl (w.heap.size + 1 + 1) wr).alloc (unhide HSZ) _).alloc (by have := unhide HSZ; simp; omega) _).grown hgrow (by have := unhide HSZ; simp; omega) (fun j hj => ((unhide HOW).lt j hj).1)
        have HB2 : Hid (B2 w (.cells #[.int .i64 kd, .int .i64 n, .slice (some ⟨b, off, none⟩) rows.length c] 38 (0, 0)) (.cells #[.int .i64 0, .int .i64 0, .slice none 0 0] 38 (0, 0)) w2) := Below.trans (unhide HBX) hb2
        have HN : Hid (w2.ownsRow (w.heap.size + 1 + 1) 77 2 (.slice va ((ef k).length + 1) vc) (ef (k + 1)).length (R9 (ef (k + 1)))) := by
          show World.ownsRow _ _ _ _ _ _ _
          rw [unhide HK2, List.length_append, R9_append]
          exact hown'
        clear hown' hgrow hb2
        go_wp2_with fail
        go_roundw
        case rel => exact ⟨k + 1, by omega, by go_num, unhide HN, unhide HB2⟩
        case measure => simp [intOf]; omega
    · have hkn : k = rows.length := by omega
      subst hkn
      obtain ⟨⟨c0, c1, c2⟩, _⟩ := hbx.facts
      obtain ⟨z0, z1, z2, zl, zo, y0, y1, y2, f1⟩ := give3 hbx.low (by omega) hbx.blocks.2.1 (.int .i64 kd) (.int .i64 n) (.slice oa (ef rows.length).length oc)
      have ZO := hide (zo _ _ _ _ _ _ (by omega) hown)
      unfold put3 at z0 z1 z2 zl ZO
      have ZL := hide zl
      clear hown hlow hbx HOW HBX HER HLE HST HROW zo zl
      go_wp2_with fail
      exact bodyPost_ret (v := .agg #[.int .i64 kd, .int .i64 n, .slice oa (ef rows.length).length oc]) (by simp [results, Tryd.results66, go_sem, z0, z1, z2]) rfl ⟨_, rfl, ⟨_, rfl, unhide ZO⟩, unhide ZL⟩

theorem rgone_any {w : World} {v : Value} {s : VS} (h : StAt w v s) (hs : s.rows.length ≤ 1000) (key : List UInt8) :
    Calls Tryd.prog 57 #[v, .string (S key)] w fun e w' => ∃ v', e = .returned v' ∧ (StOwn w.heap.size 77 w' v' (s.gone key) ∨ (v' = v ∧ s.gone key = s)) ∧ Below w.heap.size w w' := by
  have HF := hide (fun (w1 : World) (hb : Below w.heap.size w w1) => rfind_any (h.later hb) key)
  have HW := hide (fun (w1 : World) (hb : Below w.heap.size w w1) => rwithout_any (h.later hb) hs (hits key s.rows))
  have HG := hide (fun (hP : ¬ hits key s.rows < s.rows.length) => VS.gone_no hP)
  rw [show s.without (hits key s.rows) = s.gone key from rfl] at HW
  obtain ⟨k0, rfl, hr⟩ := h
  obtain ⟨a, c, rfl, hc, hm⟩ := hr.shape
  have HST := hide (B2.start w (.cells #[.int .i64 s.kind, .int .i64 s.n, .slice a s.rows.length c] 38) (.cells #[.int .i64 0, .int .i64 0, .slice none 0 0] 38))
  unfold VS.has at *
  by_cases hl : hits key s.rows < s.rows.length
  · rw [decide_eq_true hl, if_pos rfl] at HF
    generalize s.gone key = y at *
    generalize hits key s.rows = P at *
    obtain ⟨kd, n, rows⟩ := s
    dsimp only at *
    have hP0 : (0 : Int) ≤ (P : Int) := by omega
    have hP1 : ¬ (P : Int) < 0 := by omega
    clear hr hl HG
    go_enter Tryd.func57, Tryd.ntmps57
    go_wp2_with fail
    refine (unhide HF _ (unhide HST).low).mono ?_
    rintro e w1 ⟨rfl, hb⟩
    have HX1 := hide ((unhide HST).on hb)
    obtain ⟨⟨c0, c1, c2⟩, _⟩ := (unhide HX1).facts
    clear hb HF HST
    go_wp2_with fail
    refine (unhide HW _ (unhide HX1).low).mono ?_
    rintro e w2 ⟨v2, rfl, ⟨k2, rfl, ho⟩, hb⟩
    obtain ⟨ka, kc, rfl, _⟩ := ownsRow_slice ho
    have hx2 := (unhide HX1).on hb
    obtain ⟨z0, z1, z2, zl, zo, y0, y1, y2, f1⟩ := give3 hx2.low (by omega) hx2.blocks.2.1 (.int .i64 y.kind) (.int .i64 y.n) (.slice ka y.rows.length kc)
    have ZO := hide (zo _ _ _ _ _ _ (by have := (unhide HX1).blocks.2.2; omega) ho)
    unfold put3 at z0 z1 z2 zl ZO
    have ZL := hide zl
    clear hx2 hb ho zo zl HW HX1 c0 c1 c2
    go_wp2_with fail
    exact bodyPost_ret (v := .agg #[.int .i64 y.kind, .int .i64 y.n, .slice ka y.rows.length kc]) (by simp [results, Tryd.results57, go_sem, z0, z1, z2]) rfl ⟨_, rfl, Or.inl ⟨_, rfl, unhide ZO⟩, unhide ZL⟩
  · rw [decide_eq_false hl] at HF
    rw [if_neg (by simp)] at HF
    rw [unhide HG hl]
    generalize hits key s.rows = P at *
    obtain ⟨kd, n, rows⟩ := s
    dsimp only at *
    clear hr hl HW HG
    go_enter Tryd.func57, Tryd.ntmps57
    go_wp2_with fail
    refine (unhide HF _ (unhide HST).low).mono ?_
    rintro e w1 ⟨rfl, hb⟩
    have hx1 := (unhide HST).on hb
    obtain ⟨⟨c0, c1, c2⟩, _⟩ := hx1.facts
    obtain ⟨z0, z1, z2, zl, zo, y0, y1, y2, f1⟩ := give3 hx1.low (by omega) hx1.blocks.2.1 (.int .i64 kd) (.int .i64 n) (.slice a rows.length c)
    unfold put3 at z0 z1 z2 zl
    have ZL := hide zl
    clear hx1 hb zo zl HF HST
    go_wp2_with fail
    exact bodyPost_ret (v := .agg #[.int .i64 kd, .int .i64 n, .slice a rows.length c]) (by simp [results, Tryd.results57, go_sem, z0, z1, z2]) rfl ⟨_, rfl, Or.inr (by simp), unhide ZL⟩
end Go.Proofs.YteaiidcconggcaaDoor
/- The contracts of Apply, the program's (of a call of the state's type) and the document's. -/
namespace Go.Proofs.YteaiidcconggcaaDoor
open Go.RowKit
set_option linter.unusedVariables false
set_option maxRecDepth 100000

/- Behind four new boxes: a state's, a call's, an answer's, a result's. -/
def B4 (w : World) (A B C D : Obj) (w1 : World) : Prop := Below (w.heap.size + 1 + 1 + 1 + 1) ((((w.alloc A).alloc B).alloc C).alloc D) w1
section
variable {w w1 w2 : World} {A B C D : Obj}
theorem B4.start (w : World) (A B C D : Obj) : B4 w A B C D ((((w.alloc A).alloc B).alloc C).alloc D) := Below.refl _ _
theorem B4.drew (h : B4 w A B C D w1) : B4 w A B C D w1.drew := Below.drew h
theorem B4.size (h : B4 w A B C D w1) : w.heap.size + 1 + 1 + 1 + 1 ≤ w1.heap.size := by
  have hs := Below.size h
  rwa [World.size_alloc, World.size_alloc, World.size_alloc, World.size_alloc] at hs
theorem B4.below (h : B4 w A B C D w1) (hb : Below w1.heap.size w1 w2) : B4 w A B C D w2 := Below.trans h (hb.mono h.size)
theorem B4.low (h : B4 w A B C D w1) : Below w.heap.size w w1 := (((under_two w A B).alloc (by simp; omega) C).alloc (by simp; omega) D).trans (Below.mono h (by omega))
theorem B4.b3 (h : B4 w A B C D w1) : B3 w A B C w1 := ((Below.refl _ _).alloc (by simp) D).trans (Below.mono h (by omega))
theorem B4.last (h : B4 w A B C D w1) : w1.heap[w.heap.size + 1 + 1 + 1]? = some D := by
  rw [Below.block h _ (by omega)]
  have := heap_alloc_new (((w.alloc A).alloc B).alloc C) D
  rwa [World.size_alloc, World.size_alloc, World.size_alloc] at this
theorem B4.scr {a b c a' b' c' d' x y z : Value} {t t' t'' : TypeId} (hA : A = .cells #[a, b, c] t (0, 0)) (hB : B = .cells #[a', b', c', d'] t' (0, 0)) (hC : C = .cells #[x, y, z] t'' (0, 0)) :
    (∀ w1, B4 w A B C D w1 → w1.cell? ⟨w.heap.size, 0, none⟩ = some a) ∧ (∀ w1, B4 w A B C D w1 → w1.cell? ⟨w.heap.size, 1, none⟩ = some b) ∧ (∀ w1, B4 w A B C D w1 → w1.cell? ⟨w.heap.size, 2, none⟩ = some c) ∧
    (∀ w1, B4 w A B C D w1 → w1.cell? ⟨w.heap.size + 1, 0, none⟩ = some a') ∧ (∀ w1, B4 w A B C D w1 → w1.cell? ⟨w.heap.size + 1, 1, none⟩ = some b') ∧ (∀ w1, B4 w A B C D w1 → w1.cell? ⟨w.heap.size + 1, 2, none⟩ = some c') ∧ (∀ w1, B4 w A B C D w1 → w1.cell? ⟨w.heap.size + 1, 3, none⟩ = some d') ∧
    (∀ w1, B4 w A B C D w1 → w1.cell? ⟨w.heap.size + 1 + 1, 0, none⟩ = some x) ∧ (∀ w1, B4 w A B C D w1 → w1.cell? ⟨w.heap.size + 1 + 1, 1, none⟩ = some y) ∧ (∀ w1, B4 w A B C D w1 → w1.cell? ⟨w.heap.size + 1 + 1, 2, none⟩ = some z) := by
  obtain ⟨c0, c1, c2, c3, c4, c5, c6, c7, c8, c9⟩ := B3.scr (w := w) hA hB hC
  exact ⟨fun w1 h => c0 w1 h.b3, fun w1 h => c1 w1 h.b3, fun w1 h => c2 w1 h.b3, fun w1 h => c3 w1 h.b3, fun w1 h => c4 w1 h.b3, fun w1 h => c5 w1 h.b3, fun w1 h => c6 w1 h.b3, fun w1 h => c7 w1 h.b3, fun w1 h => c8 w1 h.b3, fun w1 h => c9 w1 h.b3⟩
/- The result's box is written. -/
theorem B4.give {a b c : Value} {t : TypeId} (h : B4 w A B C (.cells #[a, b, c] t (0, 0)) w1) (x y z : Value) :
    (put3 w1 (w.heap.size + 1 + 1 + 1) x y z).cell? ⟨w.heap.size + 1 + 1 + 1, 0, none⟩ = some x ∧ (put3 w1 (w.heap.size + 1 + 1 + 1) x y z).cell? ⟨w.heap.size + 1 + 1 + 1, 1, none⟩ = some y ∧ (put3 w1 (w.heap.size + 1 + 1 + 1) x y z).cell? ⟨w.heap.size + 1 + 1 + 1, 2, none⟩ = some z ∧ Below w.heap.size w (put3 w1 (w.heap.size + 1 + 1 + 1) x y z) ∧
    (∀ (base k : Nat) (u : Value) (nn : Nat) (xs : List Value) (e : TypeId), w.heap.size + 1 + 1 + 1 < base → w1.ownsRow base e k u nn xs → (put3 w1 (w.heap.size + 1 + 1 + 1) x y z).ownsRow w.heap.size e k u nn xs) ∧
    w1.cell? ⟨w.heap.size + 1 + 1 + 1, 0, none⟩ = some a ∧ w1.cell? ⟨w.heap.size + 1 + 1 + 1, 1, none⟩ = some b ∧ w1.cell? ⟨w.heap.size + 1 + 1 + 1, 2, none⟩ = some c ∧ ∀ j, w1.frozen? ⟨w.heap.size + 1 + 1 + 1, j, none⟩ = false := give3 h.low (by omega) h.last x y z
end
theorem apply_op {put : VS → List UInt8 × List UInt8 → VS} {s : VS} {c : MC} {r : MR} (hk : (mfact c.op).kind = s.kind) (hch : mchanges c.op c.n r.code = true) : applyBy put s c r =
    if c.op = 2 then (if c.a = [] then ⟨s.kind, s.n, []⟩ else put ⟨s.kind, s.n, []⟩ (c.a, []))
    else if c.op = 3 ∨ c.op = 5 then ⟨s.kind, wrap64 (s.n + c.n), s.rows⟩
    else if c.op = 6 then ⟨s.kind, wrap64 (s.n - c.n), s.rows⟩
    else if c.op = 8 ∨ c.op = 11 ∨ c.op = 14 ∨ c.op = 16 then put s (c.a, c.b)
    else if c.op = 9 ∨ c.op = 12 then s.gone c.a
    else s.gone r.text := by
  unfold applyBy
  rw [if_neg (by rw [hk, hch]; simp)]
theorem apply_not {put : VS → List UInt8 × List UInt8 → VS} {s : VS} {c : MC} {r : MR} (hch : mchanges c.op c.n r.code = false) : applyBy put s c r = s := by
  unfold applyBy
  rw [if_pos (Or.inr hch)]
theorem neg_wrap (x m : Int) : wrap64 (x + IntKind.i64.wrap (-m)) = wrap64 (x - m) := by
  rw [IntKind.wrap_i64]
  unfold wrap64
  omega
theorem no_change {op n code : Int} (h : okOp op) (hch : mchanges op n code = true) : op = 2 ∨ op = 3 ∨ op = 5 ∨ op = 6 ∨ op = 8 ∨ op = 9 ∨ op = 11 ∨ op = 12 ∨ op = 14 ∨ op = 15 ∨ op = 16 ∨ op = 17 := by
  rcases op_cases h with rfl | rfl | rfl | rfl | rfl | rfl | rfl | rfl | rfl | rfl | rfl | rfl | rfl | rfl | rfl | rfl | rfl <;> first | omega | (simp [mchanges] at hch)

set_option maxHeartbeats 51200000 in
theorem aapply_eq {base : Nat} {w : World} {v : Value} {s : VS} {c : MC} (h : StOwn base 82 w v s) (hs : s.rows.length ≤ 1000) (hop : okOp c.op) (hw : MD w) (r : MR) (hk : (mfact c.op).kind = s.kind) :
    Calls Tryd.prog 41 #[v, mcV c, mrV r] w fun e w' => ∃ v', e = .returned v' ∧ StOwn w.heap.size 82 w' v' (apply1 s c r) ∧ Below w.heap.size w w' := by
  have HKI := hide (fun (w1 : World) (hb : Below w.heap.size w w1) => mkind_any (hw.later hb) c.op)
  have HCH := hide (fun (w1 : World) => mchanges_any (w := w1) c r)
  have HCL := hide (fun (w1 : World) (hb : Below w.heap.size w w1) => vclone_any (h.later hb) hs)
  have HWR := hide (fun (w1 : World) (hb : Below w.heap.size w w1) (t : List UInt8) => awritten_any (h.later hb) t)
  have HPL := hide (fun (w1 : World) (hb : Below w.heap.size w w1) (m : Int) => aplus_any (h.later hb) hs m)
  have HWI := hide (fun (w1 : World) (hb : Below w.heap.size w w1) (x : List UInt8 × List UInt8) => with_any (h.at.later hb) hs x)
  have HGO := hide (fun (w1 : World) (hb : Below w.heap.size w w1) (t : List UInt8) => awithout_any (h.later hb) hs t)
  have HOPE := hide (fun (hch : mchanges c.op c.n r.code = true) => apply_op (put := VS.with) hk hch)
  have HNOT := hide (fun (hch : mchanges c.op c.n r.code = false) => apply_not (put := VS.with) (s := s) hch)
  unfold apply1
  rw [hk] at HKI
  obtain ⟨op, ca, cb, cn⟩ := c
  obtain ⟨y1, y2, y3⟩ := r
  unfold mcV mrV at *
  dsimp only at *
  have e0 : (s.kind != s.kind) = false := by simp
  obtain ⟨X, hX⟩ : ∃ X, mchanges op cn y1 = X := ⟨_, rfl⟩
  have HX := hide hX
  rw [hX] at HCH HOPE HNOT
  clear hX
  cases X
  · rw [unhide HNOT rfl]
    clear HNOT HOPE HWR HPL HWI HGO hk HX
    obtain ⟨k0, rfl, hr⟩ := h
    obtain ⟨a, cc, rfl, _⟩ := ownsRow_slice hr
    obtain ⟨kd, n, rows⟩ := s
    dsimp only at *
    obtain ⟨A, hA⟩ : ∃ A : Obj, A = .cells #[.int .i64 kd, .int .i64 n, .slice a rows.length cc] 47 (0, 0) := ⟨_, rfl⟩
    obtain ⟨B, hB⟩ : ∃ B : Obj, B = .cells #[.int .i64 op, .string (S ca), .string (S cb), .int .i64 cn] 24 (0, 0) := ⟨_, rfl⟩
    obtain ⟨C, hC⟩ : ∃ C : Obj, C = .cells #[.int .i64 y1, .string (S y2), .int .i64 y3] 26 (0, 0) := ⟨_, rfl⟩
    obtain ⟨c0, c1, c2, k0, k1, k2, k3, r0, r1, r2⟩ := B4.scr (w := w) (D := .cells #[.int .i64 0, .int .i64 0, .slice none 0 0] 47 (0, 0)) hA hB hC
    have hst := B4.start w A B C (.cells #[.int .i64 0, .int .i64 0, .slice none 0 0] 47 (0, 0))
    have hstd := hst.drew
    clear hr hw hs hop
    go_enter Tryd.func41, Tryd.ntmps41
    go_wp2_with fail
    rw [← hA, ← hB, ← hC]
    clear hA hB hC
    go_region_held3 (fun w' => B4 w A B C (.cells #[.int .i64 0, .int .i64 0, .slice none 0 0] 47 (0, 0)) w') (with_reducible (first | exact hstd | exact hst | (refine B4.below ?_ (by assumption) <;> assumption)))
      (first | (go_at_call 28; refine (unhide HKI _ (B4.low (by assumption))).mono ?_; rintro e wm ⟨rfl, hbm⟩) | (go_at_call 47; refine (unhide HCH _).mono ?_; rintro e wn ⟨rfl, hbn⟩) | fail)
    have hx0 : B4 w A B C (.cells #[.int .i64 0, .int .i64 0, .slice none 0 0] 47 (0, 0)) wn := by assumption
    clear hbm hbn hst hstd HKI HCH
    go_wp2_with fail
    refine (unhide HCL _ hx0.low).mono ?_
    rintro e w2 ⟨v2, rfl, ⟨k2, rfl, ho⟩, hb⟩
    obtain ⟨ka, kc, rfl, _⟩ := ownsRow_slice ho
    have hx2 := hx0.below hb
    obtain ⟨z0, z1, z2, zl, zo, y0, y1, y2, f1⟩ := hx2.give (.int .i64 kd) (.int .i64 n) (.slice ka rows.length kc)
    have ZO := hide (zo _ _ _ _ _ _ (by have := hx0.size; omega) ho)
    unfold put3 at z0 z1 z2 zl ZO
    have ZL := hide zl
    clear hx2 hb ho zo zl hx0
    go_wp2_with fail
    exact bodyPost_ret (v := .agg #[.int .i64 kd, .int .i64 n, .slice ka rows.length kc]) (by simp [results, Tryd.results41, go_sem, z0, z1, z2]) rfl ⟨_, rfl, ⟨_, rfl, unhide ZO⟩, unhide ZL⟩
  · rw [unhide HOPE rfl]
    clear HNOT HOPE HCL
    rcases no_change hop (unhide HX) with rfl | rfl | rfl | rfl | rfl | rfl | rfl | rfl | rfl | rfl | rfl | rfl
    · have HC2 := hide (fun (w1 : World) (hb : Below w.heap.size w w1) => unhide HWR w1 hb ca)
      rw [if_pos rfl]
      generalize (if ca = [] then (⟨s.kind, s.n, []⟩ : VS) else VS.with ⟨s.kind, s.n, []⟩ (ca, [])) = y at *
      clear HWR HPL HWI HGO hk HX
      obtain ⟨k0, rfl, hr⟩ := h
      obtain ⟨a, cc, rfl, _⟩ := ownsRow_slice hr
      obtain ⟨kd, n, rows⟩ := s
      dsimp only at *
      obtain ⟨A, hA⟩ : ∃ A : Obj, A = .cells #[.int .i64 kd, .int .i64 n, .slice a rows.length cc] 47 (0, 0) := ⟨_, rfl⟩
      obtain ⟨B, hB⟩ : ∃ B : Obj, B = .cells #[.int .i64 2, .string (S ca), .string (S cb), .int .i64 cn] 24 (0, 0) := ⟨_, rfl⟩
      obtain ⟨C, hC⟩ : ∃ C : Obj, C = .cells #[.int .i64 y1, .string (S y2), .int .i64 y3] 26 (0, 0) := ⟨_, rfl⟩
      obtain ⟨c0, c1, c2, k0, k1, k2, k3, r0, r1, r2⟩ := B4.scr (w := w) (D := .cells #[.int .i64 0, .int .i64 0, .slice none 0 0] 47 (0, 0)) hA hB hC
      have hst := B4.start w A B C (.cells #[.int .i64 0, .int .i64 0, .slice none 0 0] 47 (0, 0))
      have hstd := hst.drew
      clear hr hw hs hop
      go_enter Tryd.func41, Tryd.ntmps41
      go_wp2_with fail
      rw [← hA, ← hB, ← hC]
      clear hA hB hC
      go_region_held3 (fun w' => B4 w A B C (.cells #[.int .i64 0, .int .i64 0, .slice none 0 0] 47 (0, 0)) w') (with_reducible (first | exact hstd | exact hst | (refine B4.below ?_ (by assumption) <;> assumption)))
        (first | (go_at_call 28; refine (unhide HKI _ (B4.low (by assumption))).mono ?_; rintro e wm ⟨rfl, hbm⟩) | (go_at_call 47; refine (unhide HCH _).mono ?_; rintro e wn ⟨rfl, hbn⟩) | fail)
      have hx0 : B4 w A B C (.cells #[.int .i64 0, .int .i64 0, .slice none 0 0] 47 (0, 0)) wn := by assumption
      clear hbm hbn hst hstd HKI HCH
      go_wp2_with fail
      refine (unhide HC2 _ hx0.low).mono ?_
      rintro e w2 ⟨v2, rfl, ⟨k2, rfl, ho⟩, hb⟩
      obtain ⟨ka, kc, rfl, _⟩ := ownsRow_slice ho
      have hx2 := hx0.below hb
      obtain ⟨z0, z1, z2, zl, zo, y0, y1, y2, f1⟩ := hx2.give (.int .i64 y.kind) (.int .i64 y.n) (.slice ka y.rows.length kc)
      have ZO := hide (zo _ _ _ _ _ _ (by have := hx0.size; omega) ho)
      unfold put3 at z0 z1 z2 zl ZO
      have ZL := hide zl
      clear hx2 hb ho zo zl hx0
      go_wp2_with fail
      exact bodyPost_ret (v := .agg #[.int .i64 y.kind, .int .i64 y.n, .slice ka y.rows.length kc]) (by simp [results, Tryd.results41, go_sem, z0, z1, z2]) rfl ⟨_, rfl, ⟨_, rfl, unhide ZO⟩, unhide ZL⟩
    · have HC2 := hide (fun (w1 : World) (hb : Below w.heap.size w w1) => unhide HPL w1 hb cn)
      rw [if_neg (by decide), if_pos (by decide)]
      generalize (⟨s.kind, wrap64 (s.n + cn), s.rows⟩ : VS) = y at *
      clear HWR HPL HWI HGO hk HX
      obtain ⟨k0, rfl, hr⟩ := h
      obtain ⟨a, cc, rfl, _⟩ := ownsRow_slice hr
      obtain ⟨kd, n, rows⟩ := s
      dsimp only at *
      obtain ⟨A, hA⟩ : ∃ A : Obj, A = .cells #[.int .i64 kd, .int .i64 n, .slice a rows.length cc] 47 (0, 0) := ⟨_, rfl⟩
      obtain ⟨B, hB⟩ : ∃ B : Obj, B = .cells #[.int .i64 3, .string (S ca), .string (S cb), .int .i64 cn] 24 (0, 0) := ⟨_, rfl⟩
      obtain ⟨C, hC⟩ : ∃ C : Obj, C = .cells #[.int .i64 y1, .string (S y2), .int .i64 y3] 26 (0, 0) := ⟨_, rfl⟩
      obtain ⟨c0, c1, c2, k0, k1, k2, k3, r0, r1, r2⟩ := B4.scr (w := w) (D := .cells #[.int .i64 0, .int .i64 0, .slice none 0 0] 47 (0, 0)) hA hB hC
      have hst := B4.start w A B C (.cells #[.int .i64 0, .int .i64 0, .slice none 0 0] 47 (0, 0))
      have hstd := hst.drew
      clear hr hw hs hop
      go_enter Tryd.func41, Tryd.ntmps41
      go_wp2_with fail
      rw [← hA, ← hB, ← hC]
      clear hA hB hC
      go_region_held3 (fun w' => B4 w A B C (.cells #[.int .i64 0, .int .i64 0, .slice none 0 0] 47 (0, 0)) w') (with_reducible (first | exact hstd | exact hst | (refine B4.below ?_ (by assumption) <;> assumption)))
        (first | (go_at_call 28; refine (unhide HKI _ (B4.low (by assumption))).mono ?_; rintro e wm ⟨rfl, hbm⟩) | (go_at_call 47; refine (unhide HCH _).mono ?_; rintro e wn ⟨rfl, hbn⟩) | fail)
      have hx0 : B4 w A B C (.cells #[.int .i64 0, .int .i64 0, .slice none 0 0] 47 (0, 0)) wn := by assumption
      clear hbm hbn hst hstd HKI HCH
      go_wp2_with fail
      refine (unhide HC2 _ hx0.low).mono ?_
      rintro e w2 ⟨v2, rfl, ⟨k2, rfl, ho⟩, hb⟩
      obtain ⟨ka, kc, rfl, _⟩ := ownsRow_slice ho
      have hx2 := hx0.below hb
      obtain ⟨z0, z1, z2, zl, zo, y0, y1, y2, f1⟩ := hx2.give (.int .i64 y.kind) (.int .i64 y.n) (.slice ka y.rows.length kc)
      have ZO := hide (zo _ _ _ _ _ _ (by have := hx0.size; omega) ho)
      unfold put3 at z0 z1 z2 zl ZO
      have ZL := hide zl
      clear hx2 hb ho zo zl hx0
      go_wp2_with fail
      exact bodyPost_ret (v := .agg #[.int .i64 y.kind, .int .i64 y.n, .slice ka y.rows.length kc]) (by simp [results, Tryd.results41, go_sem, z0, z1, z2]) rfl ⟨_, rfl, ⟨_, rfl, unhide ZO⟩, unhide ZL⟩
    · have HC2 := hide (fun (w1 : World) (hb : Below w.heap.size w w1) => unhide HPL w1 hb cn)
      rw [if_neg (by decide), if_pos (by decide)]
      generalize (⟨s.kind, wrap64 (s.n + cn), s.rows⟩ : VS) = y at *
      clear HWR HPL HWI HGO hk HX
      obtain ⟨k0, rfl, hr⟩ := h
      obtain ⟨a, cc, rfl, _⟩ := ownsRow_slice hr
      obtain ⟨kd, n, rows⟩ := s
      dsimp only at *
      obtain ⟨A, hA⟩ : ∃ A : Obj, A = .cells #[.int .i64 kd, .int .i64 n, .slice a rows.length cc] 47 (0, 0) := ⟨_, rfl⟩
      obtain ⟨B, hB⟩ : ∃ B : Obj, B = .cells #[.int .i64 5, .string (S ca), .string (S cb), .int .i64 cn] 24 (0, 0) := ⟨_, rfl⟩
      obtain ⟨C, hC⟩ : ∃ C : Obj, C = .cells #[.int .i64 y1, .string (S y2), .int .i64 y3] 26 (0, 0) := ⟨_, rfl⟩
      obtain ⟨c0, c1, c2, k0, k1, k2, k3, r0, r1, r2⟩ := B4.scr (w := w) (D := .cells #[.int .i64 0, .int .i64 0, .slice none 0 0] 47 (0, 0)) hA hB hC
      have hst := B4.start w A B C (.cells #[.int .i64 0, .int .i64 0, .slice none 0 0] 47 (0, 0))
      have hstd := hst.drew
      clear hr hw hs hop
      go_enter Tryd.func41, Tryd.ntmps41
      go_wp2_with fail
      rw [← hA, ← hB, ← hC]
      clear hA hB hC
      go_region_held3 (fun w' => B4 w A B C (.cells #[.int .i64 0, .int .i64 0, .slice none 0 0] 47 (0, 0)) w') (with_reducible (first | exact hstd | exact hst | (refine B4.below ?_ (by assumption) <;> assumption)))
        (first | (go_at_call 28; refine (unhide HKI _ (B4.low (by assumption))).mono ?_; rintro e wm ⟨rfl, hbm⟩) | (go_at_call 47; refine (unhide HCH _).mono ?_; rintro e wn ⟨rfl, hbn⟩) | fail)
      have hx0 : B4 w A B C (.cells #[.int .i64 0, .int .i64 0, .slice none 0 0] 47 (0, 0)) wn := by assumption
      clear hbm hbn hst hstd HKI HCH
      go_wp2_with fail
      refine (unhide HC2 _ hx0.low).mono ?_
      rintro e w2 ⟨v2, rfl, ⟨k2, rfl, ho⟩, hb⟩
      obtain ⟨ka, kc, rfl, _⟩ := ownsRow_slice ho
      have hx2 := hx0.below hb
      obtain ⟨z0, z1, z2, zl, zo, y0, y1, y2, f1⟩ := hx2.give (.int .i64 y.kind) (.int .i64 y.n) (.slice ka y.rows.length kc)
      have ZO := hide (zo _ _ _ _ _ _ (by have := hx0.size; omega) ho)
      unfold put3 at z0 z1 z2 zl ZO
      have ZL := hide zl
      clear hx2 hb ho zo zl hx0
      go_wp2_with fail
      exact bodyPost_ret (v := .agg #[.int .i64 y.kind, .int .i64 y.n, .slice ka y.rows.length kc]) (by simp [results, Tryd.results41, go_sem, z0, z1, z2]) rfl ⟨_, rfl, ⟨_, rfl, unhide ZO⟩, unhide ZL⟩
    · obtain ⟨m, hm⟩ : ∃ m, IntKind.i64.wrap (-cn) = m := ⟨_, rfl⟩
      have HC2 := hide (fun (w1 : World) (hb : Below w.heap.size w w1) => unhide HPL w1 hb m)
      rw [if_neg (by decide), if_neg (by decide), if_pos rfl, ← neg_wrap, hm]
      generalize (⟨s.kind, wrap64 (s.n + m), s.rows⟩ : VS) = y at *
      clear HWR HPL HWI HGO hk HX
      obtain ⟨k0, rfl, hr⟩ := h
      obtain ⟨a, cc, rfl, _⟩ := ownsRow_slice hr
      obtain ⟨kd, n, rows⟩ := s
      dsimp only at *
      obtain ⟨A, hA⟩ : ∃ A : Obj, A = .cells #[.int .i64 kd, .int .i64 n, .slice a rows.length cc] 47 (0, 0) := ⟨_, rfl⟩
      obtain ⟨B, hB⟩ : ∃ B : Obj, B = .cells #[.int .i64 6, .string (S ca), .string (S cb), .int .i64 cn] 24 (0, 0) := ⟨_, rfl⟩
      obtain ⟨C, hC⟩ : ∃ C : Obj, C = .cells #[.int .i64 y1, .string (S y2), .int .i64 y3] 26 (0, 0) := ⟨_, rfl⟩
      obtain ⟨c0, c1, c2, k0, k1, k2, k3, r0, r1, r2⟩ := B4.scr (w := w) (D := .cells #[.int .i64 0, .int .i64 0, .slice none 0 0] 47 (0, 0)) hA hB hC
      have hst := B4.start w A B C (.cells #[.int .i64 0, .int .i64 0, .slice none 0 0] 47 (0, 0))
      have hstd := hst.drew
      clear hr hw hs hop
      go_enter Tryd.func41, Tryd.ntmps41
      go_wp2_with fail
      rw [← hA, ← hB, ← hC]
      clear hA hB hC
      go_region_held3 (fun w' => B4 w A B C (.cells #[.int .i64 0, .int .i64 0, .slice none 0 0] 47 (0, 0)) w') (with_reducible (first | exact hstd | exact hst | (refine B4.below ?_ (by assumption) <;> assumption)))
        (first | (go_at_call 28; refine (unhide HKI _ (B4.low (by assumption))).mono ?_; rintro e wm ⟨rfl, hbm⟩) | (go_at_call 47; refine (unhide HCH _).mono ?_; rintro e wn ⟨rfl, hbn⟩) | fail)
      have hx0 : B4 w A B C (.cells #[.int .i64 0, .int .i64 0, .slice none 0 0] 47 (0, 0)) wn := by assumption
      clear hbm hbn hst hstd HKI HCH
      go_wp2_with fail
      refine (unhide HC2 _ hx0.low).mono ?_
      rintro e w2 ⟨v2, rfl, ⟨k2, rfl, ho⟩, hb⟩
      obtain ⟨ka, kc, rfl, _⟩ := ownsRow_slice ho
      have hx2 := hx0.below hb
      obtain ⟨z0, z1, z2, zl, zo, y0, y1, y2, f1⟩ := hx2.give (.int .i64 y.kind) (.int .i64 y.n) (.slice ka y.rows.length kc)
      have ZO := hide (zo _ _ _ _ _ _ (by have := hx0.size; omega) ho)
      unfold put3 at z0 z1 z2 zl ZO
      have ZL := hide zl
      clear hx2 hb ho zo zl hx0
      go_wp2_with fail
      exact bodyPost_ret (v := .agg #[.int .i64 y.kind, .int .i64 y.n, .slice ka y.rows.length kc]) (by simp [results, Tryd.results41, go_sem, z0, z1, z2]) rfl ⟨_, rfl, ⟨_, rfl, unhide ZO⟩, unhide ZL⟩
    · have HC2 := hide (fun (w1 : World) (hb : Below w.heap.size w w1) => unhide HWI w1 hb (ca, cb))
      rw [if_neg (by decide), if_neg (by decide), if_neg (by decide), if_pos (by decide)]
      generalize s.with (ca, cb) = y at *
      clear HWR HPL HWI HGO hk HX
      obtain ⟨k0, rfl, hr⟩ := h
      obtain ⟨a, cc, rfl, _⟩ := ownsRow_slice hr
      obtain ⟨kd, n, rows⟩ := s
      dsimp only at *
      obtain ⟨A, hA⟩ : ∃ A : Obj, A = .cells #[.int .i64 kd, .int .i64 n, .slice a rows.length cc] 47 (0, 0) := ⟨_, rfl⟩
      obtain ⟨B, hB⟩ : ∃ B : Obj, B = .cells #[.int .i64 8, .string (S ca), .string (S cb), .int .i64 cn] 24 (0, 0) := ⟨_, rfl⟩
      obtain ⟨C, hC⟩ : ∃ C : Obj, C = .cells #[.int .i64 y1, .string (S y2), .int .i64 y3] 26 (0, 0) := ⟨_, rfl⟩
      obtain ⟨c0, c1, c2, k0, k1, k2, k3, r0, r1, r2⟩ := B4.scr (w := w) (D := .cells #[.int .i64 0, .int .i64 0, .slice none 0 0] 47 (0, 0)) hA hB hC
      have hst := B4.start w A B C (.cells #[.int .i64 0, .int .i64 0, .slice none 0 0] 47 (0, 0))
      have hstd := hst.drew
      clear hr hw hs hop
      go_enter Tryd.func41, Tryd.ntmps41
      go_wp2_with fail
      rw [← hA, ← hB, ← hC]
      clear hA hB hC
      go_region_held3 (fun w' => B4 w A B C (.cells #[.int .i64 0, .int .i64 0, .slice none 0 0] 47 (0, 0)) w') (with_reducible (first | exact hstd | exact hst | (refine B4.below ?_ (by assumption) <;> assumption)))
        (first | (go_at_call 28; refine (unhide HKI _ (B4.low (by assumption))).mono ?_; rintro e wm ⟨rfl, hbm⟩) | (go_at_call 47; refine (unhide HCH _).mono ?_; rintro e wn ⟨rfl, hbn⟩) | fail)
      have hx0 : B4 w A B C (.cells #[.int .i64 0, .int .i64 0, .slice none 0 0] 47 (0, 0)) wn := by assumption
      clear hbm hbn hst hstd HKI HCH
      go_wp2_with fail
      refine (unhide HC2 _ hx0.low).mono ?_
      rintro e w2 ⟨v2, rfl, ⟨k2, rfl, ho⟩, hb⟩
      obtain ⟨ka, kc, rfl, _⟩ := ownsRow_slice ho
      have hx2 := hx0.below hb
      obtain ⟨z0, z1, z2, zl, zo, y0, y1, y2, f1⟩ := hx2.give (.int .i64 y.kind) (.int .i64 y.n) (.slice ka y.rows.length kc)
      have ZO := hide (zo _ _ _ _ _ _ (by have := hx0.size; omega) ho)
      unfold put3 at z0 z1 z2 zl ZO
      have ZL := hide zl
      clear hx2 hb ho zo zl hx0
      go_wp2_with fail
      exact bodyPost_ret (v := .agg #[.int .i64 y.kind, .int .i64 y.n, .slice ka y.rows.length kc]) (by simp [results, Tryd.results41, go_sem, z0, z1, z2]) rfl ⟨_, rfl, ⟨_, rfl, unhide ZO⟩, unhide ZL⟩
    · have HC2 := hide (fun (w1 : World) (hb : Below w.heap.size w w1) => unhide HGO w1 hb ca)
      rw [if_neg (by decide), if_neg (by decide), if_neg (by decide), if_neg (by decide), if_pos (by decide)]
      generalize s.gone ca = y at *
      clear HWR HPL HWI HGO hk HX
      obtain ⟨k0, rfl, hr⟩ := h
      obtain ⟨a, cc, rfl, _⟩ := ownsRow_slice hr
      obtain ⟨kd, n, rows⟩ := s
      dsimp only at *
      obtain ⟨A, hA⟩ : ∃ A : Obj, A = .cells #[.int .i64 kd, .int .i64 n, .slice a rows.length cc] 47 (0, 0) := ⟨_, rfl⟩
      obtain ⟨B, hB⟩ : ∃ B : Obj, B = .cells #[.int .i64 9, .string (S ca), .string (S cb), .int .i64 cn] 24 (0, 0) := ⟨_, rfl⟩
      obtain ⟨C, hC⟩ : ∃ C : Obj, C = .cells #[.int .i64 y1, .string (S y2), .int .i64 y3] 26 (0, 0) := ⟨_, rfl⟩
      obtain ⟨c0, c1, c2, k0, k1, k2, k3, r0, r1, r2⟩ := B4.scr (w := w) (D := .cells #[.int .i64 0, .int .i64 0, .slice none 0 0] 47 (0, 0)) hA hB hC
      have hst := B4.start w A B C (.cells #[.int .i64 0, .int .i64 0, .slice none 0 0] 47 (0, 0))
      have hstd := hst.drew
      clear hr hw hs hop
      go_enter Tryd.func41, Tryd.ntmps41
      go_wp2_with fail
      rw [← hA, ← hB, ← hC]
      clear hA hB hC
      go_region_held3 (fun w' => B4 w A B C (.cells #[.int .i64 0, .int .i64 0, .slice none 0 0] 47 (0, 0)) w') (with_reducible (first | exact hstd | exact hst | (refine B4.below ?_ (by assumption) <;> assumption)))
        (first | (go_at_call 28; refine (unhide HKI _ (B4.low (by assumption))).mono ?_; rintro e wm ⟨rfl, hbm⟩) | (go_at_call 47; refine (unhide HCH _).mono ?_; rintro e wn ⟨rfl, hbn⟩) | fail)
      have hx0 : B4 w A B C (.cells #[.int .i64 0, .int .i64 0, .slice none 0 0] 47 (0, 0)) wn := by assumption
      clear hbm hbn hst hstd HKI HCH
      go_wp2_with fail
      refine (unhide HC2 _ hx0.low).mono ?_
      rintro e w2 ⟨v2, rfl, ⟨k2, rfl, ho⟩, hb⟩
      obtain ⟨ka, kc, rfl, _⟩ := ownsRow_slice ho
      have hx2 := hx0.below hb
      obtain ⟨z0, z1, z2, zl, zo, y0, y1, y2, f1⟩ := hx2.give (.int .i64 y.kind) (.int .i64 y.n) (.slice ka y.rows.length kc)
      have ZO := hide (zo _ _ _ _ _ _ (by have := hx0.size; omega) ho)
      unfold put3 at z0 z1 z2 zl ZO
      have ZL := hide zl
      clear hx2 hb ho zo zl hx0
      go_wp2_with fail
      exact bodyPost_ret (v := .agg #[.int .i64 y.kind, .int .i64 y.n, .slice ka y.rows.length kc]) (by simp [results, Tryd.results41, go_sem, z0, z1, z2]) rfl ⟨_, rfl, ⟨_, rfl, unhide ZO⟩, unhide ZL⟩
    · have HC2 := hide (fun (w1 : World) (hb : Below w.heap.size w w1) => unhide HWI w1 hb (ca, cb))
      rw [if_neg (by decide), if_neg (by decide), if_neg (by decide), if_pos (by decide)]
      generalize s.with (ca, cb) = y at *
      clear HWR HPL HWI HGO hk HX
      obtain ⟨k0, rfl, hr⟩ := h
      obtain ⟨a, cc, rfl, _⟩ := ownsRow_slice hr
      obtain ⟨kd, n, rows⟩ := s
      dsimp only at *
      obtain ⟨A, hA⟩ : ∃ A : Obj, A = .cells #[.int .i64 kd, .int .i64 n, .slice a rows.length cc] 47 (0, 0) := ⟨_, rfl⟩
      obtain ⟨B, hB⟩ : ∃ B : Obj, B = .cells #[.int .i64 11, .string (S ca), .string (S cb), .int .i64 cn] 24 (0, 0) := ⟨_, rfl⟩
      obtain ⟨C, hC⟩ : ∃ C : Obj, C = .cells #[.int .i64 y1, .string (S y2), .int .i64 y3] 26 (0, 0) := ⟨_, rfl⟩
      obtain ⟨c0, c1, c2, k0, k1, k2, k3, r0, r1, r2⟩ := B4.scr (w := w) (D := .cells #[.int .i64 0, .int .i64 0, .slice none 0 0] 47 (0, 0)) hA hB hC
      have hst := B4.start w A B C (.cells #[.int .i64 0, .int .i64 0, .slice none 0 0] 47 (0, 0))
      have hstd := hst.drew
      clear hr hw hs hop
      go_enter Tryd.func41, Tryd.ntmps41
      go_wp2_with fail
      rw [← hA, ← hB, ← hC]
      clear hA hB hC
      go_region_held3 (fun w' => B4 w A B C (.cells #[.int .i64 0, .int .i64 0, .slice none 0 0] 47 (0, 0)) w') (with_reducible (first | exact hstd | exact hst | (refine B4.below ?_ (by assumption) <;> assumption)))
        (first | (go_at_call 28; refine (unhide HKI _ (B4.low (by assumption))).mono ?_; rintro e wm ⟨rfl, hbm⟩) | (go_at_call 47; refine (unhide HCH _).mono ?_; rintro e wn ⟨rfl, hbn⟩) | fail)
      have hx0 : B4 w A B C (.cells #[.int .i64 0, .int .i64 0, .slice none 0 0] 47 (0, 0)) wn := by assumption
      clear hbm hbn hst hstd HKI HCH
      go_wp2_with fail
      refine (unhide HC2 _ hx0.low).mono ?_
      rintro e w2 ⟨v2, rfl, ⟨k2, rfl, ho⟩, hb⟩
      obtain ⟨ka, kc, rfl, _⟩ := ownsRow_slice ho
      have hx2 := hx0.below hb
      obtain ⟨z0, z1, z2, zl, zo, y0, y1, y2, f1⟩ := hx2.give (.int .i64 y.kind) (.int .i64 y.n) (.slice ka y.rows.length kc)
      have ZO := hide (zo _ _ _ _ _ _ (by have := hx0.size; omega) ho)
      unfold put3 at z0 z1 z2 zl ZO
      have ZL := hide zl
      clear hx2 hb ho zo zl hx0
      go_wp2_with fail
      exact bodyPost_ret (v := .agg #[.int .i64 y.kind, .int .i64 y.n, .slice ka y.rows.length kc]) (by simp [results, Tryd.results41, go_sem, z0, z1, z2]) rfl ⟨_, rfl, ⟨_, rfl, unhide ZO⟩, unhide ZL⟩
    · have HC2 := hide (fun (w1 : World) (hb : Below w.heap.size w w1) => unhide HGO w1 hb ca)
      rw [if_neg (by decide), if_neg (by decide), if_neg (by decide), if_neg (by decide), if_pos (by decide)]
      generalize s.gone ca = y at *
      clear HWR HPL HWI HGO hk HX
      obtain ⟨k0, rfl, hr⟩ := h
      obtain ⟨a, cc, rfl, _⟩ := ownsRow_slice hr
      obtain ⟨kd, n, rows⟩ := s
      dsimp only at *
      obtain ⟨A, hA⟩ : ∃ A : Obj, A = .cells #[.int .i64 kd, .int .i64 n, .slice a rows.length cc] 47 (0, 0) := ⟨_, rfl⟩
      obtain ⟨B, hB⟩ : ∃ B : Obj, B = .cells #[.int .i64 12, .string (S ca), .string (S cb), .int .i64 cn] 24 (0, 0) := ⟨_, rfl⟩
      obtain ⟨C, hC⟩ : ∃ C : Obj, C = .cells #[.int .i64 y1, .string (S y2), .int .i64 y3] 26 (0, 0) := ⟨_, rfl⟩
      obtain ⟨c0, c1, c2, k0, k1, k2, k3, r0, r1, r2⟩ := B4.scr (w := w) (D := .cells #[.int .i64 0, .int .i64 0, .slice none 0 0] 47 (0, 0)) hA hB hC
      have hst := B4.start w A B C (.cells #[.int .i64 0, .int .i64 0, .slice none 0 0] 47 (0, 0))
      have hstd := hst.drew
      clear hr hw hs hop
      go_enter Tryd.func41, Tryd.ntmps41
      go_wp2_with fail
      rw [← hA, ← hB, ← hC]
      clear hA hB hC
      go_region_held3 (fun w' => B4 w A B C (.cells #[.int .i64 0, .int .i64 0, .slice none 0 0] 47 (0, 0)) w') (with_reducible (first | exact hstd | exact hst | (refine B4.below ?_ (by assumption) <;> assumption)))
        (first | (go_at_call 28; refine (unhide HKI _ (B4.low (by assumption))).mono ?_; rintro e wm ⟨rfl, hbm⟩) | (go_at_call 47; refine (unhide HCH _).mono ?_; rintro e wn ⟨rfl, hbn⟩) | fail)
      have hx0 : B4 w A B C (.cells #[.int .i64 0, .int .i64 0, .slice none 0 0] 47 (0, 0)) wn := by assumption
      clear hbm hbn hst hstd HKI HCH
      go_wp2_with fail
      refine (unhide HC2 _ hx0.low).mono ?_
      rintro e w2 ⟨v2, rfl, ⟨k2, rfl, ho⟩, hb⟩
      obtain ⟨ka, kc, rfl, _⟩ := ownsRow_slice ho
      have hx2 := hx0.below hb
      obtain ⟨z0, z1, z2, zl, zo, y0, y1, y2, f1⟩ := hx2.give (.int .i64 y.kind) (.int .i64 y.n) (.slice ka y.rows.length kc)
      have ZO := hide (zo _ _ _ _ _ _ (by have := hx0.size; omega) ho)
      unfold put3 at z0 z1 z2 zl ZO
      have ZL := hide zl
      clear hx2 hb ho zo zl hx0
      go_wp2_with fail
      exact bodyPost_ret (v := .agg #[.int .i64 y.kind, .int .i64 y.n, .slice ka y.rows.length kc]) (by simp [results, Tryd.results41, go_sem, z0, z1, z2]) rfl ⟨_, rfl, ⟨_, rfl, unhide ZO⟩, unhide ZL⟩
    · have HC2 := hide (fun (w1 : World) (hb : Below w.heap.size w w1) => unhide HWI w1 hb (ca, cb))
      rw [if_neg (by decide), if_neg (by decide), if_neg (by decide), if_pos (by decide)]
      generalize s.with (ca, cb) = y at *
      clear HWR HPL HWI HGO hk HX
      obtain ⟨k0, rfl, hr⟩ := h
      obtain ⟨a, cc, rfl, _⟩ := ownsRow_slice hr
      obtain ⟨kd, n, rows⟩ := s
      dsimp only at *
      obtain ⟨A, hA⟩ : ∃ A : Obj, A = .cells #[.int .i64 kd, .int .i64 n, .slice a rows.length cc] 47 (0, 0) := ⟨_, rfl⟩
      obtain ⟨B, hB⟩ : ∃ B : Obj, B = .cells #[.int .i64 14, .string (S ca), .string (S cb), .int .i64 cn] 24 (0, 0) := ⟨_, rfl⟩
      obtain ⟨C, hC⟩ : ∃ C : Obj, C = .cells #[.int .i64 y1, .string (S y2), .int .i64 y3] 26 (0, 0) := ⟨_, rfl⟩
      obtain ⟨c0, c1, c2, k0, k1, k2, k3, r0, r1, r2⟩ := B4.scr (w := w) (D := .cells #[.int .i64 0, .int .i64 0, .slice none 0 0] 47 (0, 0)) hA hB hC
      have hst := B4.start w A B C (.cells #[.int .i64 0, .int .i64 0, .slice none 0 0] 47 (0, 0))
      have hstd := hst.drew
      clear hr hw hs hop
      go_enter Tryd.func41, Tryd.ntmps41
      go_wp2_with fail
      rw [← hA, ← hB, ← hC]
      clear hA hB hC
      go_region_held3 (fun w' => B4 w A B C (.cells #[.int .i64 0, .int .i64 0, .slice none 0 0] 47 (0, 0)) w') (with_reducible (first | exact hstd | exact hst | (refine B4.below ?_ (by assumption) <;> assumption)))
        (first | (go_at_call 28; refine (unhide HKI _ (B4.low (by assumption))).mono ?_; rintro e wm ⟨rfl, hbm⟩) | (go_at_call 47; refine (unhide HCH _).mono ?_; rintro e wn ⟨rfl, hbn⟩) | fail)
      have hx0 : B4 w A B C (.cells #[.int .i64 0, .int .i64 0, .slice none 0 0] 47 (0, 0)) wn := by assumption
      clear hbm hbn hst hstd HKI HCH
      go_wp2_with fail
      refine (unhide HC2 _ hx0.low).mono ?_
      rintro e w2 ⟨v2, rfl, ⟨k2, rfl, ho⟩, hb⟩
      obtain ⟨ka, kc, rfl, _⟩ := ownsRow_slice ho
      have hx2 := hx0.below hb
      obtain ⟨z0, z1, z2, zl, zo, y0, y1, y2, f1⟩ := hx2.give (.int .i64 y.kind) (.int .i64 y.n) (.slice ka y.rows.length kc)
      have ZO := hide (zo _ _ _ _ _ _ (by have := hx0.size; omega) ho)
      unfold put3 at z0 z1 z2 zl ZO
      have ZL := hide zl
      clear hx2 hb ho zo zl hx0
      go_wp2_with fail
      exact bodyPost_ret (v := .agg #[.int .i64 y.kind, .int .i64 y.n, .slice ka y.rows.length kc]) (by simp [results, Tryd.results41, go_sem, z0, z1, z2]) rfl ⟨_, rfl, ⟨_, rfl, unhide ZO⟩, unhide ZL⟩
    · have HC2 := hide (fun (w1 : World) (hb : Below w.heap.size w w1) => unhide HGO w1 hb y2)
      rw [if_neg (by decide), if_neg (by decide), if_neg (by decide), if_neg (by decide), if_neg (by decide)]
      generalize s.gone y2 = y at *
      clear HWR HPL HWI HGO hk HX
      obtain ⟨k0, rfl, hr⟩ := h
      obtain ⟨a, cc, rfl, _⟩ := ownsRow_slice hr
      obtain ⟨kd, n, rows⟩ := s
      dsimp only at *
      obtain ⟨A, hA⟩ : ∃ A : Obj, A = .cells #[.int .i64 kd, .int .i64 n, .slice a rows.length cc] 47 (0, 0) := ⟨_, rfl⟩
      obtain ⟨B, hB⟩ : ∃ B : Obj, B = .cells #[.int .i64 15, .string (S ca), .string (S cb), .int .i64 cn] 24 (0, 0) := ⟨_, rfl⟩
      obtain ⟨C, hC⟩ : ∃ C : Obj, C = .cells #[.int .i64 y1, .string (S y2), .int .i64 y3] 26 (0, 0) := ⟨_, rfl⟩
      obtain ⟨c0, c1, c2, k0, k1, k2, k3, r0, r1, r2⟩ := B4.scr (w := w) (D := .cells #[.int .i64 0, .int .i64 0, .slice none 0 0] 47 (0, 0)) hA hB hC
      have hst := B4.start w A B C (.cells #[.int .i64 0, .int .i64 0, .slice none 0 0] 47 (0, 0))
      have hstd := hst.drew
      clear hr hw hs hop
      go_enter Tryd.func41, Tryd.ntmps41
      go_wp2_with fail
      rw [← hA, ← hB, ← hC]
      clear hA hB hC
      go_region_held3 (fun w' => B4 w A B C (.cells #[.int .i64 0, .int .i64 0, .slice none 0 0] 47 (0, 0)) w') (with_reducible (first | exact hstd | exact hst | (refine B4.below ?_ (by assumption) <;> assumption)))
        (first | (go_at_call 28; refine (unhide HKI _ (B4.low (by assumption))).mono ?_; rintro e wm ⟨rfl, hbm⟩) | (go_at_call 47; refine (unhide HCH _).mono ?_; rintro e wn ⟨rfl, hbn⟩) | fail)
      have hx0 : B4 w A B C (.cells #[.int .i64 0, .int .i64 0, .slice none 0 0] 47 (0, 0)) wn := by assumption
      clear hbm hbn hst hstd HKI HCH
      go_wp2_with fail
      refine (unhide HC2 _ hx0.low).mono ?_
      rintro e w2 ⟨v2, rfl, ⟨k2, rfl, ho⟩, hb⟩
      obtain ⟨ka, kc, rfl, _⟩ := ownsRow_slice ho
      have hx2 := hx0.below hb
      obtain ⟨z0, z1, z2, zl, zo, y0, y1, y2, f1⟩ := hx2.give (.int .i64 y.kind) (.int .i64 y.n) (.slice ka y.rows.length kc)
      have ZO := hide (zo _ _ _ _ _ _ (by have := hx0.size; omega) ho)
      unfold put3 at z0 z1 z2 zl ZO
      have ZL := hide zl
      clear hx2 hb ho zo zl hx0
      go_wp2_with fail
      exact bodyPost_ret (v := .agg #[.int .i64 y.kind, .int .i64 y.n, .slice ka y.rows.length kc]) (by simp [results, Tryd.results41, go_sem, z0, z1, z2]) rfl ⟨_, rfl, ⟨_, rfl, unhide ZO⟩, unhide ZL⟩
    · have HC2 := hide (fun (w1 : World) (hb : Below w.heap.size w w1) => unhide HWI w1 hb (ca, cb))
      rw [if_neg (by decide), if_neg (by decide), if_neg (by decide), if_pos (by decide)]
      generalize s.with (ca, cb) = y at *
      clear HWR HPL HWI HGO hk HX
      obtain ⟨k0, rfl, hr⟩ := h
      obtain ⟨a, cc, rfl, _⟩ := ownsRow_slice hr
      obtain ⟨kd, n, rows⟩ := s
      dsimp only at *
      obtain ⟨A, hA⟩ : ∃ A : Obj, A = .cells #[.int .i64 kd, .int .i64 n, .slice a rows.length cc] 47 (0, 0) := ⟨_, rfl⟩
      obtain ⟨B, hB⟩ : ∃ B : Obj, B = .cells #[.int .i64 16, .string (S ca), .string (S cb), .int .i64 cn] 24 (0, 0) := ⟨_, rfl⟩
      obtain ⟨C, hC⟩ : ∃ C : Obj, C = .cells #[.int .i64 y1, .string (S y2), .int .i64 y3] 26 (0, 0) := ⟨_, rfl⟩
      obtain ⟨c0, c1, c2, k0, k1, k2, k3, r0, r1, r2⟩ := B4.scr (w := w) (D := .cells #[.int .i64 0, .int .i64 0, .slice none 0 0] 47 (0, 0)) hA hB hC
      have hst := B4.start w A B C (.cells #[.int .i64 0, .int .i64 0, .slice none 0 0] 47 (0, 0))
      have hstd := hst.drew
      clear hr hw hs hop
      go_enter Tryd.func41, Tryd.ntmps41
      go_wp2_with fail
      rw [← hA, ← hB, ← hC]
      clear hA hB hC
      go_region_held3 (fun w' => B4 w A B C (.cells #[.int .i64 0, .int .i64 0, .slice none 0 0] 47 (0, 0)) w') (with_reducible (first | exact hstd | exact hst | (refine B4.below ?_ (by assumption) <;> assumption)))
        (first | (go_at_call 28; refine (unhide HKI _ (B4.low (by assumption))).mono ?_; rintro e wm ⟨rfl, hbm⟩) | (go_at_call 47; refine (unhide HCH _).mono ?_; rintro e wn ⟨rfl, hbn⟩) | fail)
      have hx0 : B4 w A B C (.cells #[.int .i64 0, .int .i64 0, .slice none 0 0] 47 (0, 0)) wn := by assumption
      clear hbm hbn hst hstd HKI HCH
      go_wp2_with fail
      refine (unhide HC2 _ hx0.low).mono ?_
      rintro e w2 ⟨v2, rfl, ⟨k2, rfl, ho⟩, hb⟩
      obtain ⟨ka, kc, rfl, _⟩ := ownsRow_slice ho
      have hx2 := hx0.below hb
      obtain ⟨z0, z1, z2, zl, zo, y0, y1, y2, f1⟩ := hx2.give (.int .i64 y.kind) (.int .i64 y.n) (.slice ka y.rows.length kc)
      have ZO := hide (zo _ _ _ _ _ _ (by have := hx0.size; omega) ho)
      unfold put3 at z0 z1 z2 zl ZO
      have ZL := hide zl
      clear hx2 hb ho zo zl hx0
      go_wp2_with fail
      exact bodyPost_ret (v := .agg #[.int .i64 y.kind, .int .i64 y.n, .slice ka y.rows.length kc]) (by simp [results, Tryd.results41, go_sem, z0, z1, z2]) rfl ⟨_, rfl, ⟨_, rfl, unhide ZO⟩, unhide ZL⟩
    · have HC2 := hide (fun (w1 : World) (hb : Below w.heap.size w w1) => unhide HGO w1 hb y2)
      rw [if_neg (by decide), if_neg (by decide), if_neg (by decide), if_neg (by decide), if_neg (by decide)]
      generalize s.gone y2 = y at *
      clear HWR HPL HWI HGO hk HX
      obtain ⟨k0, rfl, hr⟩ := h
      obtain ⟨a, cc, rfl, _⟩ := ownsRow_slice hr
      obtain ⟨kd, n, rows⟩ := s
      dsimp only at *
      obtain ⟨A, hA⟩ : ∃ A : Obj, A = .cells #[.int .i64 kd, .int .i64 n, .slice a rows.length cc] 47 (0, 0) := ⟨_, rfl⟩
      obtain ⟨B, hB⟩ : ∃ B : Obj, B = .cells #[.int .i64 17, .string (S ca), .string (S cb), .int .i64 cn] 24 (0, 0) := ⟨_, rfl⟩
      obtain ⟨C, hC⟩ : ∃ C : Obj, C = .cells #[.int .i64 y1, .string (S y2), .int .i64 y3] 26 (0, 0) := ⟨_, rfl⟩
      obtain ⟨c0, c1, c2, k0, k1, k2, k3, r0, r1, r2⟩ := B4.scr (w := w) (D := .cells #[.int .i64 0, .int .i64 0, .slice none 0 0] 47 (0, 0)) hA hB hC
      have hst := B4.start w A B C (.cells #[.int .i64 0, .int .i64 0, .slice none 0 0] 47 (0, 0))
      have hstd := hst.drew
      clear hr hw hs hop
      go_enter Tryd.func41, Tryd.ntmps41
      go_wp2_with fail
      rw [← hA, ← hB, ← hC]
      clear hA hB hC
      go_region_held3 (fun w' => B4 w A B C (.cells #[.int .i64 0, .int .i64 0, .slice none 0 0] 47 (0, 0)) w') (with_reducible (first | exact hstd | exact hst | (refine B4.below ?_ (by assumption) <;> assumption)))
        (first | (go_at_call 28; refine (unhide HKI _ (B4.low (by assumption))).mono ?_; rintro e wm ⟨rfl, hbm⟩) | (go_at_call 47; refine (unhide HCH _).mono ?_; rintro e wn ⟨rfl, hbn⟩) | fail)
      have hx0 : B4 w A B C (.cells #[.int .i64 0, .int .i64 0, .slice none 0 0] 47 (0, 0)) wn := by assumption
      clear hbm hbn hst hstd HKI HCH
      go_wp2_with fail
      refine (unhide HC2 _ hx0.low).mono ?_
      rintro e w2 ⟨v2, rfl, ⟨k2, rfl, ho⟩, hb⟩
      obtain ⟨ka, kc, rfl, _⟩ := ownsRow_slice ho
      have hx2 := hx0.below hb
      obtain ⟨z0, z1, z2, zl, zo, y0, y1, y2, f1⟩ := hx2.give (.int .i64 y.kind) (.int .i64 y.n) (.slice ka y.rows.length kc)
      have ZO := hide (zo _ _ _ _ _ _ (by have := hx0.size; omega) ho)
      unfold put3 at z0 z1 z2 zl ZO
      have ZL := hide zl
      clear hx2 hb ho zo zl hx0
      go_wp2_with fail
      exact bodyPost_ret (v := .agg #[.int .i64 y.kind, .int .i64 y.n, .slice ka y.rows.length kc]) (by simp [results, Tryd.results41, go_sem, z0, z1, z2]) rfl ⟨_, rfl, ⟨_, rfl, unhide ZO⟩, unhide ZL⟩
set_option maxHeartbeats 12800000 in
theorem aapply_ne {base : Nat} {w : World} {v : Value} {s : VS} {c : MC} (h : StOwn base 82 w v s) (hs : s.rows.length ≤ 1000) (hw : MD w) (r : MR) (hk : (mfact c.op).kind ≠ s.kind) :
    Calls Tryd.prog 41 #[v, mcV c, mrV r] w fun e w' => ∃ v', e = .returned v' ∧ StOwn w.heap.size 82 w' v' s ∧ Below w.heap.size w w' := by
  have HKI := hide (fun (w1 : World) (hb : Below w.heap.size w w1) => mkind_any (hw.later hb) c.op)
  have HCL := hide (fun (w1 : World) (hb : Below w.heap.size w w1) => vclone_any (h.later hb) hs)
  obtain ⟨op, ca, cb, cn⟩ := c
  obtain ⟨y1, y2, y3⟩ := r
  unfold mcV mrV at *
  dsimp only at *
  have e0 : ((mfact op).kind != s.kind) = true := by rw [bne_iff_ne]; exact hk
  generalize (mfact op).kind = K at *
  obtain ⟨k0, rfl, hr⟩ := h
  obtain ⟨a, cc, rfl, _⟩ := ownsRow_slice hr
  obtain ⟨kd, n, rows⟩ := s
  dsimp only at *
  obtain ⟨A, hA⟩ : ∃ A : Obj, A = .cells #[.int .i64 kd, .int .i64 n, .slice a rows.length cc] 47 (0, 0) := ⟨_, rfl⟩
  obtain ⟨B, hB⟩ : ∃ B : Obj, B = .cells #[.int .i64 op, .string (S ca), .string (S cb), .int .i64 cn] 24 (0, 0) := ⟨_, rfl⟩
  obtain ⟨C, hC⟩ : ∃ C : Obj, C = .cells #[.int .i64 y1, .string (S y2), .int .i64 y3] 26 (0, 0) := ⟨_, rfl⟩
  obtain ⟨c0, c1, c2, k0, k1, k2, k3, r0, r1, r2⟩ := B4.scr (w := w) (D := .cells #[.int .i64 0, .int .i64 0, .slice none 0 0] 47 (0, 0)) hA hB hC
  have hst := B4.start w A B C (.cells #[.int .i64 0, .int .i64 0, .slice none 0 0] 47 (0, 0))
  have hstd := hst.drew
  clear hr hw hk
  go_enter Tryd.func41, Tryd.ntmps41
  go_wp2_with fail
  rw [← hA, ← hB, ← hC]
  clear hA hB hC
  refine wp_region_held_drew (S := fun w' => B4 w A B C (.cells #[.int .i64 0, .int .i64 0, .slice none 0 0] 47 (0, 0)) w') (by kernel_rfl) ?_ (fun hHeld => ?_)
  · exact hstd
  refine wpAnyH_take (i := 0) (oi := { dst := some 7, op := _, type := _, pos := _, after := _, guard := _ }) (v := ?_) rfl (by kernel_rfl) (by kernel_rfl) (by kernel_rfl) (fun _ _ _ h => h) (Or.inl ⟨by kernel_rfl, ?_⟩) (by assumption) ?_
  rotate_left
  · intro w hSw; (try dsimp only at hSw); go_simp; try (with_reducible rfl)
  try simp only [Act.put, List.setIfInBounds_toArray, List.set_cons_zero, List.set_cons_succ]
  refine wpAnyH_take (i := 1) (oi := { dst := some 8, op := _, type := _, pos := _, after := _, guard := _ }) (v := ?_) rfl (by kernel_rfl) (by kernel_rfl) (by kernel_rfl) (fun _ _ _ h => h) (Or.inl ⟨by kernel_rfl, ?_⟩) (by assumption) ?_
  rotate_left
  · intro w hSw; (try dsimp only at hSw); go_simp; try (with_reducible rfl)
  try simp only [Act.put, List.setIfInBounds_toArray, List.set_cons_zero, List.set_cons_succ]
  refine wpAnyH_take (i := 3) (oi := { dst := some 10, op := _, type := _, pos := _, after := _, guard := _ }) (v := ?_) rfl (by kernel_rfl) (by kernel_rfl) (by kernel_rfl) (fun _ _ _ h => h) (Or.inl ⟨by kernel_rfl, ?_⟩) (by assumption) ?_
  rotate_left
  · intro w hSw; (try dsimp only at hSw); go_simp; try (with_reducible rfl)
  try simp only [Act.put, List.setIfInBounds_toArray, List.set_cons_zero, List.set_cons_succ]
  refine wpAnyH_take (i := 4) (oi := { dst := some 11, op := _, type := _, pos := _, after := _, guard := _ }) (v := ?_) rfl (by kernel_rfl) (by kernel_rfl) (by kernel_rfl) (fun _ _ _ h => h) (Or.inl ⟨by kernel_rfl, ?_⟩) (by assumption) ?_
  rotate_left
  · intro w hSw; (try dsimp only at hSw); go_simp; try (with_reducible rfl)
  try simp only [Act.put, List.setIfInBounds_toArray, List.set_cons_zero, List.set_cons_succ]
  refine wpAnyH_ready (rs := [2]) (by kernel_rfl) (by simp) ?_
  refine AllReadyH.cons rfl (fun K hK => ?_) AllReadyH.nil
  go_simp
  (go_at_call 28; refine (unhide HKI _ (B4.low (by assumption))).mono ?_; rintro e wn ⟨rfl, hbn⟩)
  refine hK.out _ _ ?_ (fun hHeld => ?_)
  · exact B4.below (by assumption) hbn
  clear hK K
  try simp only [Act.put, List.setIfInBounds_toArray, List.set_cons_zero, List.set_cons_succ]
  refine wpAnyH_take (i := 5) (oi := { dst := some 12, op := _, type := _, pos := _, after := _, guard := _ }) (v := ?_) rfl (by kernel_rfl) (by kernel_rfl) (by kernel_rfl) (fun _ _ _ h => h) (Or.inl ⟨by kernel_rfl, ?_⟩) (by assumption) ?_
  rotate_left
  · intro w hSw; (try dsimp only at hSw); go_simp; try (with_reducible rfl)
  try simp only [Act.put, List.setIfInBounds_toArray, List.set_cons_zero, List.set_cons_succ]
  refine wpAnyH_take (i := 6) (oi := { dst := some 13, op := _, type := _, pos := _, after := _, guard := _ }) (v := ?_) rfl (by kernel_rfl) (by kernel_rfl) (by kernel_rfl) (fun _ _ _ h => h) (Or.inl ⟨by kernel_rfl, ?_⟩) (by assumption) ?_
  rotate_left
  · intro w hSw; (try dsimp only at hSw); go_simp; try (with_reducible rfl)
  try simp only [Act.put, List.setIfInBounds_toArray, List.set_cons_zero, List.set_cons_succ]
  refine wpAnyH_take (i := 7) (oi := { dst := some 14, op := _, type := _, pos := _, after := _, guard := _ }) (v := undef) rfl (by kernel_rfl) (by kernel_rfl) (by kernel_rfl) (fun _ _ _ h => h) (Or.inr ⟨by kernel_rfl, rfl⟩) (by assumption) ?_
  try simp only [Act.put, List.setIfInBounds_toArray, List.set_cons_zero, List.set_cons_succ]
  refine wpAnyH_take (i := 8) (oi := { dst := some 15, op := _, type := _, pos := _, after := _, guard := _ }) (v := undef) rfl (by kernel_rfl) (by kernel_rfl) (by kernel_rfl) (fun _ _ _ h => h) (Or.inr ⟨by kernel_rfl, rfl⟩) (by assumption) ?_
  try simp only [Act.put, List.setIfInBounds_toArray, List.set_cons_zero, List.set_cons_succ]
  refine wpAnyH_take (i := 9) (oi := { dst := some 16, op := _, type := _, pos := _, after := _, guard := _ }) (v := undef) rfl (by kernel_rfl) (by kernel_rfl) (by kernel_rfl) (fun _ _ _ h => h) (Or.inr ⟨by kernel_rfl, rfl⟩) (by assumption) ?_
  try simp only [Act.put, List.setIfInBounds_toArray, List.set_cons_zero, List.set_cons_succ]
  refine wpAnyH_take (i := 10) (oi := { dst := some 17, op := _, type := _, pos := _, after := _, guard := _ }) (v := undef) rfl (by kernel_rfl) (by kernel_rfl) (by kernel_rfl) (fun _ _ _ h => h) (Or.inr ⟨by kernel_rfl, rfl⟩) (by assumption) ?_
  try simp only [Act.put, List.setIfInBounds_toArray, List.set_cons_zero, List.set_cons_succ]
  refine wpAnyH_take (i := 11) (oi := { dst := some 18, op := _, type := _, pos := _, after := _, guard := _ }) (v := ?_) rfl (by kernel_rfl) (by kernel_rfl) (by kernel_rfl) (fun _ _ _ h => h) (Or.inl ⟨by kernel_rfl, ?_⟩) (by assumption) ?_
  rotate_left
  · intro w hSw; (try dsimp only at hSw); go_simp; try (with_reducible rfl)
  try simp only [Act.put, List.setIfInBounds_toArray, List.set_cons_zero, List.set_cons_succ]
  refine wpAnyH_done (by kernel_rfl) ?_ _
  have hx0 : B4 w A B C (.cells #[.int .i64 0, .int .i64 0, .slice none 0 0] 47 (0, 0)) wn := by assumption
  clear hbn hst hstd HKI
  have s0 := c0 _ hx0
  have s1 := c1 _ hx0
  have s2 := c2 _ hx0
  go_wp2_with fail
  refine (unhide HCL _ hx0.low).mono ?_
  rintro e w2 ⟨v2, rfl, ⟨k2, rfl, ho⟩, hb⟩
  obtain ⟨ka, kc, rfl, _⟩ := ownsRow_slice ho
  have hx2 := hx0.below hb
  obtain ⟨z0, z1, z2, zl, zo, y0, y1, y2, f1⟩ := hx2.give (.int .i64 kd) (.int .i64 n) (.slice ka rows.length kc)
  have ZO := hide (zo _ _ _ _ _ _ (by have := hx0.size; omega) ho)
  unfold put3 at z0 z1 z2 zl ZO
  have ZL := hide zl
  clear hx2 hb ho zo zl hx0
  go_wp2_with fail
  exact bodyPost_ret (v := .agg #[.int .i64 kd, .int .i64 n, .slice ka rows.length kc]) (by simp [results, Tryd.results41, go_sem, z0, z1, z2]) rfl ⟨_, rfl, ⟨_, rfl, unhide ZO⟩, unhide ZL⟩
theorem aapply_any {base : Nat} {w : World} {v : Value} {s : VS} {c : MC} (h : StOwn base 82 w v s) (hs : s.rows.length ≤ 1000) (hop : okOp c.op) (hw : MD w) (r : MR) :
    Calls Tryd.prog 41 #[v, mcV c, mrV r] w fun e w' => ∃ v', e = .returned v' ∧ StOwn w.heap.size 82 w' v' (apply1 s c r) ∧ Below w.heap.size w w' := by
  by_cases hk : (mfact c.op).kind = s.kind
  · exact aapply_eq h hs hop hw r hk
  · rw [show apply1 s c r = s by unfold apply1 applyBy; rw [if_pos (Or.inl hk)]]
    exact aapply_ne h hs hw r hk
end Go.Proofs.YteaiidcconggcaaDoor
