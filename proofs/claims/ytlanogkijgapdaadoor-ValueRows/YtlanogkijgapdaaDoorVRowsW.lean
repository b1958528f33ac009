/- The walk of ValueRows. -/
import Derived.Test.YtlanogkijgapdaaDoorVRows0
import Derived.Test.YtlanogkijgapdaaDoorVTidy
import Derived.Test.YtlanogkijgapdaaDoorVTold
import Derived.Test.YtlanogkijgapdaaDoorVAwake
import Derived.Test.YtlanogkijgapdaaDoorVOpen
import Derived.Test.YtlanogkijgapdaaDoorVWith
import Derived.Test.YtlanogkijgapdaaDoorTFind
import Derived.Test.YtlanogkijgapdaaDoorTMath
import Derived.Test.YtlanogkijgapdaaDoorCCut
import Derived.Test.YtlanogkijgapdaaDoorARegN
import Derived.Deep.DeepCutAuto
import Derived.Deep.CutBlock
namespace Go.Proofs.YtlanogkijgapdaaDoor
open Go.RowKit
set_option linter.unusedVariables false
set_option maxRecDepth 100000

theorem cell3v {w : World} {N : Nat} {a b c : Value} {t : TypeId} (h : w.heap[N]? = some (.cells #[a, b, c] t (0, 0))) : w.cell? ⟨N, 0, none⟩ = some a ∧ w.cell? ⟨N, 1, none⟩ = some b ∧ w.cell? ⟨N, 2, none⟩ = some c ∧ ∀ j, w.frozen? ⟨N, j, none⟩ = false := by
  refine ⟨?_, ?_, ?_, fun j => block_frozen h j⟩ <;> rw [block_cell h] <;> rfl
theorem cell2v {w : World} {N : Nat} {a b : Value} {t : TypeId} (h : w.heap[N]? = some (.cells #[a, b] t (0, 0))) : w.cell? ⟨N, 0, none⟩ = some a ∧ w.cell? ⟨N, 1, none⟩ = some b ∧ ∀ j, w.frozen? ⟨N, j, none⟩ = false := by
  refine ⟨?_, ?_, fun j => block_frozen h j⟩ <;> rw [block_cell h] <;> rfl
theorem vlike_same {w : World} {va vb : Value} {s : VS} (ha : StAt w va s) (hb : StAt w vb s) : Calls Tryd.prog 21 #[va, vb] w fun e w' => e = .returned (.bool true) ∧ Below w.heap.size w w' := by
  have := like_any ha hb
  rw [show s.alike s = true by simp [VS.alike]] at this
  exact this
theorem own_unlike2 {w : World} {base size n : Nat} {e t : TypeId} {v : Value} {xs : List Value} (h : w.ownsRow base e size v n xs) {k : Nat} {c : Array Value} (hb : w.heap[k]? = some (.cells c t (0, 0))) (hne : e ≠ t) : v.ownBlock ≠ some k := by
  rcases h.2 with ⟨rfl, _⟩ | ⟨g, cap, cur, rfl, _, hh, _⟩
  · intro e; cases e
  · intro e'
    have e2 : g = k := by injection e'
    subst e2
    rw [hh] at hb
    injection hb with hb
    injection hb with _ hb
    exact hne hb
/- What the law's places are, and whose Without of it is. -/
def wo (s : VS) (z : Int) : VS := if z < 0 ∨ (s.rows.length : Int) ≤ z then s else s.without z.toNat
theorem vwo_any {base : Nat} {w : World} {v : Value} {s : VS} (h : StOwn base 47 w v s) (hs : s.rows.length ≤ 1000) (z : Int) :
    Calls Tryd.prog 23 #[v, .int .i64 z] w fun e w' => ∃ v', e = .returned v' ∧ StOwn w.heap.size 47 w' v' (wo s z) ∧ Below w.heap.size w w' := by
  unfold wo
  by_cases hz : z < 0 ∨ (s.rows.length : Int) ≤ z
  · rw [if_pos hz]
    exact vwithout_out h hs z hz
  · rw [if_neg hz]
    have := vwithout_any h hs z.toNat (by omega)
    rwa [show ((z.toNat : Nat) : Int) = z by omega] at this
theorem rwo_any {w : World} {v : Value} {s : VS} (h : StAt w v s) (hs : s.rows.length ≤ 1000) (z : Int) :
    Calls Tryd.prog 28 #[v, .int .i64 z] w fun e w' => ∃ v', e = .returned v' ∧ StOwn w.heap.size 55 w' v' (wo s z) ∧ Below w.heap.size w w' := by
  unfold wo
  by_cases hz : z < 0 ∨ (s.rows.length : Int) ≤ z
  · rw [if_pos hz]
    have := rwithoutZ_any h hs s.rows.length z (fun k hk => by constructor <;> intro e <;> omega)
    rwa [show s.without s.rows.length = s by unfold VS.without; rw [List.eraseIdx_of_length_le (Nat.le_refl _)]] at this
  · rw [if_neg hz]
    exact rwithoutZ_any h hs z.toNat z (fun k hk => by constructor <;> intro e <;> omega)
/- A row's keys get an x, one after the other. -/
def mk (k : Nat) (l : List (List UInt8 × List UInt8)) : List (List UInt8 × List UInt8) := (l.take k).map (fun r => (r.1 ++ [120], r.2)) ++ l.drop k
theorem mk_len (l : List (List UInt8 × List UInt8)) (k : Nat) : (mk k l).length = l.length := by unfold mk; simp; omega
theorem mk_split (l : List (List UInt8 × List UInt8)) (k : Nat) (h : k < l.length) : mk k l = (l.take k).map (fun r => (r.1 ++ [120], r.2)) ++ (l[k]'h) :: l.drop (k + 1) := by
  unfold mk
  rw [List.drop_eq_getElem_cons h]
theorem mk_next (l : List (List UInt8 × List UInt8)) (k : Nat) (h : k < l.length) : mk (k + 1) l = (l.take k).map (fun r => (r.1 ++ [120], r.2)) ++ ((l[k]'h).1 ++ [120], (l[k]'h).2) :: l.drop (k + 1) := by
  unfold mk
  rw [List.take_succ_eq_append_getElem h, List.map_append]
  simp
theorem mk_get (l : List (List UInt8 × List UInt8)) (k : Nat) (h : k < l.length) : (R9 (mk k l))[k * 2]? = some (.string (S (l[k]'h).1)) := by
  have hl : (R9 ((l.take k).map (fun r => (r.1 ++ [120], r.2)))).length = k * 2 := by rw [R9_length]; simp; omega
  rw [mk_split l k h, R9_append, List.getElem?_append_right (by omega), hl, Nat.sub_self]
  rfl
theorem mk_set (l : List (List UInt8 × List UInt8)) (k : Nat) (h : k < l.length) : (R9 (mk k l)).set (k * 2) (.string (S ((l[k]'h).1 ++ [120]))) = R9 (mk (k + 1) l) := by
  have hl : (R9 ((l.take k).map (fun r => (r.1 ++ [120], r.2)))).length = k * 2 := by rw [R9_length]; simp; omega
  rw [mk_split l k h, mk_next l k h, R9_append, R9_append, List.set_append_right _ _ (by omega), hl, Nat.sub_self]
  rfl
theorem mk_ne (l : List (List UInt8 × List UInt8)) (h : 0 < l.length) : mk l.length l ≠ l := by
  match l, h with
  | r :: t, _ =>
    intro e
    have e2 := congrArg (fun l => (l.head?).map (fun r => r.1.length)) e
    unfold mk at e2
    simp at e2
theorem own2_store {w : World} {base : Nat} {e : TypeId} {size : Nat} {v : Value} {n : Nat} {xs : List Value} (h : w.ownsRow base e size v n xs) {g c : Nat} (hv : v = .slice (some ⟨g, 0, none⟩) n c) (k : Nat) (x : Value) : (w.setCell ⟨g, k, none⟩ x).ownsRow base e size v n (xs.set k x) := by
  rcases h.2 with ⟨e1, e2⟩ | ⟨g', cap, cur, rfl, hb, hh, hc, hm, hcs, ht⟩
  · rw [e1] at hv; cases hv
  · cases hv
    refine ⟨by simpa using h.1, Or.inr ⟨g, c, cur.setIfInBounds k x, rfl, hb, heap_setCell_same w g k cur e x hh, hc, hm, by simpa using hcs, ?_⟩⟩
    rw [← ht, Array.toList_setIfInBounds, List.take_set]
theorem own_frozen {w : World} {base : Nat} {e : TypeId} {size : Nat} {v : Value} {n : Nat} {xs : List Value} (h : w.ownsRow base e size v n xs) {g c : Nat} (hv : v = .slice (some ⟨g, 0, none⟩) n c) (k : Nat) : w.frozen? ⟨g, k, none⟩ = false := by
  rcases h.2 with ⟨e1, e2⟩ | ⟨g', cap, cur, rfl, hb, hh, hc, hm, hcs, ht⟩
  · rw [e1] at hv; cases hv
  · cases hv
    exact block_frozen hh k
theorem S_x (k : List UInt8) : S k ++ ⟨#[120]⟩ = S (k ++ [120]) := S_append k [120]
set_option maxHeartbeats 102400000 in
theorem vrows_any {w : World} {v : Value} {s : VS} (hs : StAt w v s) (hsn : -9223372036854775808 ≤ s.n ∧ s.n ≤ 9223372036854775807) (hsz : ∀ i (h : i < s.rows.length), (s.rows[i]'h).1.length ≤ maxLen ∧ (s.rows[i]'h).2.length ≤ maxLen)
    (k1 k2 : ByteArray) (hk1 : k1.size ≤ maxLen) (hk2 : k2.size ≤ maxLen) (z : Int) (hw : WD w) :
    Calls Tryd.prog 5 #[v, .agg #[.string k1, .string k2], .int .i64 z] w fun e w' => e = .returned (.bool true) ∧ Below w.heap.size w w' := by
  have HTS := hide (fun (wz : World) (hb : Below w.heap.size w wz) => tidy_any (hs.later hb) hsn hsz)
  have HWD := hide hw
  have HC1 := hide (fun wz : World => cut_any k1 24 wz hk1)
  have HC2 := hide (fun wz : World => cut_any k2 24 wz hk2)
  have e24 : ((24 : Nat) : Int) = 24 := rfl
  rw [e24] at HC1 HC2
  obtain ⟨p, hp⟩ : ∃ p, k1.data.toList.take 24 = p := ⟨_, rfl⟩
  obtain ⟨q, hq⟩ : ∃ q, k2.data.toList.take 24 = q := ⟨_, rfl⟩
  rw [hp] at HC1
  rw [hq] at HC2
  obtain ⟨k0, rfl, hr⟩ := hs
  obtain ⟨a, c, rfl, hc, hm⟩ := hr.shape
  clear hr hw hsn hsz hk1 hk2 e24 hp hq
  have HW0L := hide (under_two w (.cells #[.int .i64 s.kind, .int .i64 s.n, .slice a s.rows.length c] 24) (.cells #[.string k1, .string k2] 47))
  have HW0S : Hid ((((w.alloc (.cells #[.int .i64 s.kind, .int .i64 s.n, .slice a s.rows.length c] 24)).alloc (.cells #[.string k1, .string k2] 47)).heap[w.heap.size]? = some (.cells #[.int .i64 s.kind, .int .i64 s.n, .slice a s.rows.length c] 24 (0, 0)))) := by
    show _ = _
    rw [Below.heap_alloc _ _ _ (by simp)]; exact heap_alloc_new w _
  have HW0R : Hid ((((w.alloc (.cells #[.int .i64 s.kind, .int .i64 s.n, .slice a s.rows.length c] 24)).alloc (.cells #[.string k1, .string k2] 47)).heap[w.heap.size + 1]? = some (.cells #[.string k1, .string k2] 47 (0, 0)))) := by
    have := heap_alloc_new (w.alloc (.cells #[.int .i64 s.kind, .int .i64 s.n, .slice a s.rows.length c] 24)) (.cells #[.string k1, .string k2] 47)
    rwa [World.size_alloc] at this
  go_enter Tryd.func5, Tryd.ntmps5
  go_wp2_with fail
  refine (unhide HTS _ (unhide HW0L)).mono ?_
  rintro e w1 ⟨v1, rfl, x, hmay, ⟨kx, rfl, hox⟩, hb1⟩
  obtain ⟨xa, xc, rfl, _⟩ := ownsRow_slice hox
  have HMAY := hide hmay
  have HXL : Hid (x.rows.length ≤ 900) := by have := VS.may_rows hmay; have := VS.most_le x; show _ ≤ _; omega
  have hb1a := hb1.trans ((under_box (.cells #[.int .i64 x.kind, .int .i64 x.n, .slice xa x.rows.length xc] 29)).mono hb1.size)
  have HL1 := hide ((unhide HW0L).trans (hb1a.mono (unhide HW0L).size))
  have HS1 := hide ((hb1a.block _ (block_lt (unhide HW0S))).trans (unhide HW0S))
  have HR1 := hide ((hb1a.block _ (block_lt (unhide HW0R))).trans (unhide HW0R))
  have HX1 := hide (heap_alloc_new w1 (.cells #[.int .i64 x.kind, .int .i64 x.n, .slice xa x.rows.length xc] 29))
  have HOX1 := hide (ownsRow_less (hox.alloc (.cells #[.int .i64 x.kind, .int .i64 x.n, .slice xa x.rows.length xc] 29)) (Nat.zero_le _))
  have HN1 : Hid (w.heap.size + 2 ≤ w1.heap.size) := by have := hb1.size; simp at this; show _ ≤ _; omega
  clear hmay hox hb1 hb1a HTS HW0L HW0S HW0R
  go_wp2_with fail
  refine (own_any (s := x) ⟨_, rfl, Row2.of_own (unhide HOX1)⟩ (by have := unhide HXL; omega)).mono ?_
  rintro e w2 ⟨v2, rfl, ⟨k2', rfl, hoo⟩, hb2⟩
  obtain ⟨oa, oc, rfl, _⟩ := ownsRow_slice hoo
  have hs2 := (hb2.block _ (block_lt (unhide HS1))).trans (unhide HS1)
  have hr2 := (hb2.block _ (block_lt (unhide HR1))).trans (unhide HR1)
  have hx2 := (hb2.block _ (block_lt (unhide HX1))).trans (unhide HX1)
  obtain ⟨s0, s1, s2, fs⟩ := cell3v hs2
  obtain ⟨W3, hW3⟩ : ∃ W3, put3 w2 w.heap.size (.int .i64 x.kind) (.int .i64 x.n) (.slice oa x.rows.length oc) = W3 := ⟨_, rfl⟩
  have hl2 := (unhide HL1).trans (hb2.mono (unhide HL1).size)
  have HL3 : Hid (Below w.heap.size w W3) := by
    show Below _ _ _
    rw [← hW3]
    exact ⟨hl2.os, hl2.tape, hl2.output, by rw [put3_size]; exact hl2.size, fun j hj => by rw [put3_other _ _ _ _ (by omega)]; exact hl2.block j hj⟩
  have HS3 : W3.heap[w.heap.size]? = some (.cells #[.int .i64 x.kind, .int .i64 x.n, .slice oa x.rows.length oc] 24 (0, 0)) := by
    have f1 := heap_setCell_same w2 w.heap.size 0 _ _ (.int .i64 x.kind) hs2
    have f2 := heap_setCell_same _ w.heap.size 1 _ _ (.int .i64 x.n) f1
    have f3 := heap_setCell_same _ w.heap.size 2 _ _ (.slice oa x.rows.length oc) f2
    rw [← hW3]
    unfold put3
    simpa [Array.setIfInBounds] using f3
  have HR3 : W3.heap[w.heap.size + 1]? = some (.cells #[.string k1, .string k2] 47 (0, 0)) := by rw [← hW3, put3_other _ _ _ _ (by omega)]; exact hr2
  have HX3 : W3.heap[w1.heap.size]? = some (.cells #[.int .i64 x.kind, .int .i64 x.n, .slice xa x.rows.length xc] 29 (0, 0)) := by rw [← hW3, put3_other _ _ _ _ (by have := unhide HN1; omega)]; exact hx2
  have HOS3 := hide (show W3.ownsRow (w1.heap.size + 1) 47 2 (.slice oa x.rows.length oc) x.rows.length (R9 x.rows) by
    have hoo2 := ownsRow_less hoo (show w1.heap.size + 1 ≤ _ by simp)
    rw [← hW3]
    refine ownsRow_same hoo2 fun j hj => put3_other _ _ _ _ ?_
    have := (hoo2.lt j hj).1
    have := unhide HN1
    omega)
  have HOX3 := hide (show W3.ownsRow 0 55 2 (.slice xa x.rows.length xc) x.rows.length (R9 x.rows) by
    rw [← hW3]
    refine ownsRow_same (ownsRow_below (unhide HOX1) hb2) fun j hj => put3_other _ _ _ _ ?_
    intro e
    subst e
    exact own_unlike2 (ownsRow_below (unhide HOX1) hb2) hs2 (by decide) hj)
  unfold put3 at hW3
  clear hoo hb2 hs2 hr2 hx2 hl2 HL1 HS1 HR1 HX1 HOX1
  go_upto_region 3 with fail
  try rw [hW3]
  clear hW3 s0 s1 s2 fs
  obtain ⟨r0, r1, fr⟩ := cell2v HR3
  go_cut [] (fun wx => wx = ((W3.drew.setCell ⟨w.heap.size + 1, 0, none⟩ (.string (S p))).setCell ⟨w.heap.size + 1, 1, none⟩ (.string (S q))))
  case first =>
    have r0d : W3.drew.cell? ⟨w.heap.size + 1, 0, none⟩ = some (.string k1) := r0
    have r1d : W3.drew.cell? ⟨w.heap.size + 1, 1, none⟩ = some (.string k2) := r1
    have frd : ∀ j, W3.drew.frozen? ⟨w.heap.size + 1, j, none⟩ = false := fr
    go_region_with (first | (go_at_call_has 19 (Value.string k1); refine (unhide HC1 _).mono ?_; rintro e wc ⟨rfl, rfl⟩) | (go_at_call 19; refine (unhide HC2 _).mono ?_; rintro e wc ⟨rfl, rfl⟩))
    all_goals go_wp2_with fail
    all_goals go_meet
    all_goals rfl
  case rest =>
  subst hcut
  obtain ⟨W4, hW4⟩ : ∃ W4, (W3.drew.setCell ⟨w.heap.size + 1, 0, none⟩ (.string (S p))).setCell ⟨w.heap.size + 1, 1, none⟩ (.string (S q)) = W4 := ⟨_, rfl⟩
  have ho4 : ∀ j, j ≠ w.heap.size + 1 → W4.heap[j]? = W3.heap[j]? := fun j hj => by
    rw [← hW4, heap_setCell_other _ ⟨w.heap.size + 1, 1, none⟩ j _ hj, heap_setCell_other _ ⟨w.heap.size + 1, 0, none⟩ j _ hj]
    rfl
  have hl3 := unhide HL3
  have HL4 : Hid (Below w.heap.size w W4) := ⟨by rw [← hW4]; exact hl3.os, by rw [← hW4]; exact hl3.tape, by rw [← hW4]; exact hl3.output, by rw [← hW4]; simpa using hl3.size, fun j hj => by rw [ho4 j (by omega)]; exact hl3.block j hj⟩
  have HS4 := (ho4 w.heap.size (by omega)).trans HS3
  have HX4 := (ho4 w1.heap.size (by have := unhide HN1; omega)).trans HX3
  have HR4 : W4.heap[w.heap.size + 1]? = some (.cells #[.string (S p), .string (S q)] 47 (0, 0)) := by
    have f1 := heap_setCell_same W3.drew (w.heap.size + 1) 0 _ _ (.string (S p)) HR3
    have f2 := heap_setCell_same _ (w.heap.size + 1) 1 _ _ (.string (S q)) f1
    rw [hW4] at f2
    simpa [Array.setIfInBounds] using f2
  have HOS4 := hide (ownsRow_same (unhide HOS3) fun j hj => ho4 j (by have := ((unhide HOS3).lt j hj).1; have := unhide HN1; omega))
  have HOX4 := hide (ownsRow_same (unhide HOX3) fun j hj => ho4 j (fun e => by subst e; exact own_unlike2 (unhide HOX3) HR3 (by decide) hj))
  rw [hW4]
  clear hW4 ho4 hl3 HL3 HS3 HX3 HR3 HOS3 HOX3 r0 r1 fr HC1 HC2
  go_wp2_with fail
  refine (vawake_any ((unhide HWD).later (unhide HL4))).mono ?_
  rintro e W6 ⟨rfl, hb6⟩
  have HL6 := hide ((unhide HL4).trans (hb6.mono (unhide HL4).size))
  have HS := (hb6.block _ (block_lt HS4)).trans HS4
  have HX := (hb6.block _ (block_lt HX4)).trans HX4
  have HR := (hb6.block _ (block_lt HR4)).trans HR4
  have HOS := hide (ownsRow_below (unhide HOS4) hb6)
  have HOX := hide (ownsRow_below (unhide HOX4) hb6)
  have HSW := hide HS
  have HXW := hide HX
  have HOSW := HOS
  have HOXW := HOX
  have HLW6 := HL6
  obtain ⟨Y1, hY1⟩ : ∃ Y1, x.with (p, q) = Y1 := ⟨_, rfl⟩
  obtain ⟨Y2, hY2⟩ : ∃ Y2, wo x z = Y2 := ⟨_, rfl⟩
  have hrw : x.rwith (p, q) = Y1 := by rw [← hY1, with_stand (VS.may.fit (unhide HMAY)).stand]
  have HY1L : Hid (Y1.rows.length ≤ 1000) := by show _ ≤ _; rw [← hrw, rwith_len]; have := unhide HXL; omega
  have HY2L : Hid (Y2.rows.length ≤ 1000) := by
    show _ ≤ _
    rw [← hY2]
    unfold wo
    have := unhide HXL
    split
    · omega
    · have := (List.eraseIdx_sublist x.rows z.toNat).length_le
      show (x.rows.eraseIdx _).length ≤ _
      omega
  have HW1 := hide (fun (wz : World) (hb : Below W6.heap.size W6 wz) => with_any (s := x) (v := (.agg #[.int .i64 x.kind, .int .i64 x.n, .slice oa x.rows.length oc])) ⟨_, rfl, Row2.of_own (ownsRow_below (unhide HOS) hb)⟩ (by have := unhide HXL; omega) (p, q))
  have HW2 := hide (fun (wz : World) (hb : Below W6.heap.size W6 wz) => vwo_any (s := x) (v := (.agg #[.int .i64 x.kind, .int .i64 x.n, .slice oa x.rows.length oc])) ⟨_, rfl, ownsRow_below (unhide HOS) hb⟩ (by have := unhide HXL; omega) z)
  have HW3 := hide (fun (wz : World) (hb : Below W6.heap.size W6 wz) => vclone_any (s := x) (v := (.agg #[.int .i64 x.kind, .int .i64 x.n, .slice oa x.rows.length oc])) ⟨_, rfl, ownsRow_below (unhide HOS) hb⟩ (by have := unhide HXL; omega))
  have HRW0 := hide (fun (wz : World) (va : Value) (h : StAt wz va x) => rwith_any h (by have := unhide HXL; omega) (p, q))
  have HRO0 := hide (fun (wz : World) (va : Value) (h : StAt wz va x) => rwo_any h (by have := unhide HXL; omega) z)
  rw [hY1] at HW1
  rw [hY2] at HW2 HRO0
  rw [hrw] at HRW0
  dsimp only at HW1 HRW0
  have HFV := hide (fun (wz : World) (va : Value) (h : StAt wz va x) => vfind_any h p)
  have HFR := hide (fun (wz : World) (va : Value) (h : StAt wz va x) => rfind_any h p)
  obtain ⟨KI, hKI⟩ : ∃ KI : Int, (if x.has p then ((hits p x.rows : Nat) : Int) else 0) = KI := ⟨_, rfl⟩
  obtain ⟨FI, hFI⟩ : ∃ FI : Int, (if x.has p then ((hits p x.rows : Nat) : Int) else -1) = FI := ⟨_, rfl⟩
  obtain ⟨HB, hHB⟩ : ∃ HB, x.has p = HB := ⟨_, rfl⟩
  have jF : decide (0 ≤ FI) = HB := by rw [← hFI, ← hHB]; cases x.has p <;> simp
  have jM : max FI 0 = KI := by rw [← hFI, ← hKI]; cases x.has p <;> simp <;> omega
  rw [hKI, hHB] at HFV
  rw [hFI] at HFR
  clear hKI hFI hHB hY1 hY2 hrw hb6 HL4 HS4 HX4 HR4 HOS4 HOX4
  go_upto_region 6 with fail
  refine regN [.val 28 (Res.plain (.agg #[.int .i64 x.kind, .int .i64 x.n, .slice oa x.rows.length oc]) []), .val 29 (Res.plain (.agg #[.string (S p), .string (S q)]) []), .val 30 (Res.state (fun z => z = Y1) W6.heap.size 47), .val 31 (Res.plain (.agg #[.int .i64 x.kind, .int .i64 x.n, .slice oa x.rows.length oc]) []), .val 32 (Res.plain (.int .i64 z) []), .val 33 (Res.state (fun z => z = Y2) W6.heap.size 47), .val 34 (Res.plain (.agg #[.int .i64 x.kind, .int .i64 x.n, .slice oa x.rows.length oc]) []), .val 35 (Res.state (fun z => z = x) W6.heap.size 47), .box 8 3 24, .box 9 3 24, .box 10 3 24, .put 2 8, .put 5 9, .put 7 10] (fun i => if i = 2 then [0, 1] else if i = 5 then [3, 4] else if i = 7 then [6] else []) ?_ ?_ ?_ ?_ ?_ ?_ ?_ (fun i hi => ?_) ?_
  · kernel_rfl
  · rfl
  · kernel_rfl
  · kernel_rfl
  · kernel_rfl
  · kernel_rfl
  · kernel_rfl
  · have hc : i = 0 ∨ i = 1 ∨ i = 2 ∨ i = 3 ∨ i = 4 ∨ i = 5 ∨ i = 6 ∨ i = 7 ∨ i = 8 ∨ i = 9 ∨ i = 10 ∨ i = 11 ∨ i = 12 ∨ i = 13 := by have : i < 14 := hi; omega
    clear hi
    rcases hc with rfl | rfl | rfl | rfl | rfl | rfl | rfl | rfl | rfl | rfl | rfl | rfl | rfl | rfl
    · with_reducible refine DoesN.plain (s := 28) (v := .agg #[.int .i64 x.kind, .int .i64 x.n, .slice oa x.rows.length oc]) ?_ ?_
      · rfl
      intro f wz K hb hd hK
      obtain ⟨d0, d1, d2, _⟩ := cell3v ((hb.block _ (block_lt HS)).trans HS)
      simp only [setN, upd, Nat.reduceAdd, Nat.reduceEqDiff, reduceIte, List.setIfInBounds_toArray, List.set_cons_zero, List.set_cons_succ] at hK ⊢
      refine wpOp_do rfl (by kernel_rfl) ?_
      unfold Oper.wp execOp
      go_simp
      exact hK _ (Below.refl _ _)
    · with_reducible refine DoesN.plain (s := 29) (v := .agg #[.string (S p), .string (S q)]) ?_ ?_
      · rfl
      intro f wz K hb hd hK
      obtain ⟨d0, d1, _⟩ := cell2v ((hb.block _ (block_lt HR)).trans HR)
      simp only [setN, upd, Nat.reduceAdd, Nat.reduceEqDiff, reduceIte, List.setIfInBounds_toArray, List.set_cons_zero, List.set_cons_succ] at hK ⊢
      refine wpOp_do rfl (by kernel_rfl) ?_
      unfold Oper.wp execOp
      go_simp
      exact hK _ (Below.refl _ _)
    · with_reducible refine DoesN.val (s := 30) (R := (Res.state (fun z => z = Y1) W6.heap.size 47)) ?_ ?_
      · rfl
      intro f wz K hb hd hK
      have e0 : f 0 = .agg #[.int .i64 x.kind, .int .i64 x.n, .slice oa x.rows.length oc] := plainAt (s := 28) (cs := []) (hd 0 (by decide)) rfl
      have e1 : f 1 = .agg #[.string (S p), .string (S q)] := plainAt (s := 29) (cs := []) (hd 1 (by decide)) rfl
      simp only [setN, upd, Nat.reduceAdd, Nat.reduceEqDiff, reduceIte, List.setIfInBounds_toArray, List.set_cons_zero, List.set_cons_succ] at hK ⊢
      simp only [e0, e1] at hK ⊢
      refine wpOp_do rfl (by kernel_rfl) ?_
      unfold Oper.wp execOp
      go_simp
      refine (unhide HW1 _ hb).mono ?_
      rintro e w' ⟨v', rfl, ⟨kk, rfl, ho'⟩, hb'⟩
      obtain ⟨ka, kc, rfl, _⟩ := ownsRow_slice ho'
      exact hK _ _ hb' ⟨_, ka, kc, rfl, rfl, ownsRow_less ho' hb.size⟩ (fun k hk => Or.inl (ho'.lt k hk).1)
    · with_reducible refine DoesN.plain (s := 31) (v := .agg #[.int .i64 x.kind, .int .i64 x.n, .slice oa x.rows.length oc]) ?_ ?_
      · rfl
      intro f wz K hb hd hK
      obtain ⟨d0, d1, d2, _⟩ := cell3v ((hb.block _ (block_lt HS)).trans HS)
      simp only [setN, upd, Nat.reduceAdd, Nat.reduceEqDiff, reduceIte, List.setIfInBounds_toArray, List.set_cons_zero, List.set_cons_succ] at hK ⊢
      refine wpOp_do rfl (by kernel_rfl) ?_
      unfold Oper.wp execOp
      go_simp
      exact hK _ (Below.refl _ _)
    · with_reducible refine DoesN.plain (s := 32) (v := .int .i64 z) ?_ ?_
      · rfl
      intro f wz K hb hd hK
      simp only [setN, upd, Nat.reduceAdd, Nat.reduceEqDiff, reduceIte, List.setIfInBounds_toArray, List.set_cons_zero, List.set_cons_succ] at hK ⊢
      refine wpOp_do rfl (by kernel_rfl) ?_
      unfold Oper.wp execOp
      go_simp
      exact hK _ (Below.refl _ _)
    · with_reducible refine DoesN.val (s := 33) (R := (Res.state (fun z => z = Y2) W6.heap.size 47)) ?_ ?_
      · rfl
      intro f wz K hb hd hK
      have e3 : f 3 = .agg #[.int .i64 x.kind, .int .i64 x.n, .slice oa x.rows.length oc] := plainAt (s := 31) (cs := []) (hd 3 (by decide)) rfl
      have e4 : f 4 = .int .i64 z := plainAt (s := 32) (cs := []) (hd 4 (by decide)) rfl
      simp only [setN, upd, Nat.reduceAdd, Nat.reduceEqDiff, reduceIte, List.setIfInBounds_toArray, List.set_cons_zero, List.set_cons_succ] at hK ⊢
      simp only [e3, e4] at hK ⊢
      refine wpOp_do rfl (by kernel_rfl) ?_
      unfold Oper.wp execOp
      go_simp
      refine (unhide HW2 _ hb).mono ?_
      rintro e w' ⟨v', rfl, ⟨kk, rfl, ho'⟩, hb'⟩
      obtain ⟨ka, kc, rfl, _⟩ := ownsRow_slice ho'
      exact hK _ _ hb' ⟨_, ka, kc, rfl, rfl, ownsRow_less ho' hb.size⟩ (fun k hk => Or.inl (ho'.lt k hk).1)
    · with_reducible refine DoesN.plain (s := 34) (v := .agg #[.int .i64 x.kind, .int .i64 x.n, .slice oa x.rows.length oc]) ?_ ?_
      · rfl
      intro f wz K hb hd hK
      obtain ⟨d0, d1, d2, _⟩ := cell3v ((hb.block _ (block_lt HS)).trans HS)
      simp only [setN, upd, Nat.reduceAdd, Nat.reduceEqDiff, reduceIte, List.setIfInBounds_toArray, List.set_cons_zero, List.set_cons_succ] at hK ⊢
      refine wpOp_do rfl (by kernel_rfl) ?_
      unfold Oper.wp execOp
      go_simp
      exact hK _ (Below.refl _ _)
    · with_reducible refine DoesN.val (s := 35) (R := (Res.state (fun z => z = x) W6.heap.size 47)) ?_ ?_
      · rfl
      intro f wz K hb hd hK
      have e6 : f 6 = .agg #[.int .i64 x.kind, .int .i64 x.n, .slice oa x.rows.length oc] := plainAt (s := 34) (cs := []) (hd 6 (by decide)) rfl
      simp only [setN, upd, Nat.reduceAdd, Nat.reduceEqDiff, reduceIte, List.setIfInBounds_toArray, List.set_cons_zero, List.set_cons_succ] at hK ⊢
      simp only [e6] at hK ⊢
      refine wpOp_do rfl (by kernel_rfl) ?_
      unfold Oper.wp execOp
      go_simp
      refine (unhide HW3 _ hb).mono ?_
      rintro e w' ⟨v', rfl, ⟨kk, rfl, ho'⟩, hb'⟩
      obtain ⟨ka, kc, rfl, _⟩ := ownsRow_slice ho'
      exact hK _ _ hb' ⟨_, ka, kc, rfl, rfl, ownsRow_less ho' hb.size⟩ (fun k hk => Or.inl (ho'.lt k hk).1)
    · with_reducible refine DoesN.box (s := 8) (n := 3) (t := 24) ?_ ?_
      · rfl
      intro f wz K
      refine ⟨[.int .i64 0, .int .i64 0, .slice none 0 0], rfl, fun hK => ?_⟩
      unfold ptr at hK
      simp only [setN, upd, Nat.reduceAdd, Nat.reduceEqDiff, reduceIte, List.setIfInBounds_toArray, List.set_cons_zero, List.set_cons_succ] at hK ⊢
      refine wpOp_do rfl (by kernel_rfl) ?_
      unfold Oper.wp execOp
      go_simp
      exact hK
    · with_reducible refine DoesN.box (s := 9) (n := 3) (t := 24) ?_ ?_
      · rfl
      intro f wz K
      refine ⟨[.int .i64 0, .int .i64 0, .slice none 0 0], rfl, fun hK => ?_⟩
      unfold ptr at hK
      simp only [setN, upd, Nat.reduceAdd, Nat.reduceEqDiff, reduceIte, List.setIfInBounds_toArray, List.set_cons_zero, List.set_cons_succ] at hK ⊢
      refine wpOp_do rfl (by kernel_rfl) ?_
      unfold Oper.wp execOp
      go_simp
      exact hK
    · with_reducible refine DoesN.box (s := 10) (n := 3) (t := 24) ?_ ?_
      · rfl
      intro f wz K
      refine ⟨[.int .i64 0, .int .i64 0, .slice none 0 0], rfl, fun hK => ?_⟩
      unfold ptr at hK
      simp only [setN, upd, Nat.reduceAdd, Nat.reduceEqDiff, reduceIte, List.setIfInBounds_toArray, List.set_cons_zero, List.set_cons_succ] at hK ⊢
      refine wpOp_do rfl (by kernel_rfl) ?_
      unfold Oper.wp execOp
      go_simp
      exact hK
    · with_reducible refine DoesN.put (c := 2) (b := 8) (s := 30) (R := (Res.state (fun z => z = Y1) W6.heap.size 47)) (s' := 8) (n := 3) (t := 24) ?_ ?_ ?_ ?_
      · rfl
      · rfl
      · rfl
      intro f wz K q ys eb hy hq hF hK
      obtain ⟨zq, zqa, zqc, hzq, ev, hoq⟩ := hF
      have hzw := (show _ = _ from hzq).symm
      subst hzw
      have ec := ev
      simp only [ec, Res.state, stCells] at hK
      simp only [setN, Nat.reduceAdd, List.setIfInBounds_toArray, List.set_cons_zero, List.set_cons_succ] at hK ⊢
      simp only [ec, eb] at hK ⊢
      match ys, hy with
      | [y1, y2, y3], _ =>
      obtain ⟨d0, d1, d2, fz⟩ := cell3v hq
      unfold ptr at *
      simp only [putL] at hK
      refine wpOp_do rfl (by kernel_rfl) ?_
      unfold Oper.wp execOp
      go_simp
      exact hK
    · with_reducible refine DoesN.put (c := 5) (b := 9) (s := 33) (R := (Res.state (fun z => z = Y2) W6.heap.size 47)) (s' := 9) (n := 3) (t := 24) ?_ ?_ ?_ ?_
      · rfl
      · rfl
      · rfl
      intro f wz K q ys eb hy hq hF hK
      obtain ⟨zq, zqa, zqc, hzq, ev, hoq⟩ := hF
      have hzw := (show _ = _ from hzq).symm
      subst hzw
      have ec := ev
      simp only [ec, Res.state, stCells] at hK
      simp only [setN, Nat.reduceAdd, List.setIfInBounds_toArray, List.set_cons_zero, List.set_cons_succ] at hK ⊢
      simp only [ec, eb] at hK ⊢
      match ys, hy with
      | [y1, y2, y3], _ =>
      obtain ⟨d0, d1, d2, fz⟩ := cell3v hq
      unfold ptr at *
      simp only [putL] at hK
      refine wpOp_do rfl (by kernel_rfl) ?_
      unfold Oper.wp execOp
      go_simp
      exact hK
    · with_reducible refine DoesN.put (c := 7) (b := 10) (s := 35) (R := (Res.state (fun z => z = x) W6.heap.size 47)) (s' := 10) (n := 3) (t := 24) ?_ ?_ ?_ ?_
      · rfl
      · rfl
      · rfl
      intro f wz K q ys eb hy hq hF hK
      obtain ⟨zq, zqa, zqc, hzq, ev, hoq⟩ := hF
      have hzw := (show _ = _ from hzq).symm
      subst hzw
      have ec := ev
      simp only [ec, Res.state, stCells] at hK
      simp only [setN, Nat.reduceAdd, List.setIfInBounds_toArray, List.set_cons_zero, List.set_cons_succ] at hK ⊢
      simp only [ec, eb] at hK ⊢
      match ys, hy with
      | [y1, y2, y3], _ =>
      obtain ⟨d0, d1, d2, fz⟩ := cell3v hq
      unfold ptr at *
      simp only [putL] at hK
      refine wpOp_do rfl (by kernel_rfl) ?_
      unfold Oper.wp execOp
      go_simp
      exact hK
  · intro f wE hbE hv hp hne ho
    have h0 : f 0 = .agg #[.int .i64 x.kind, .int .i64 x.n, .slice oa x.rows.length oc] := plainAt (s := 28) (cs := []) (hv 0) rfl
    have h1 : f 1 = .agg #[.string (S p), .string (S q)] := plainAt (s := 29) (cs := []) (hv 1) rfl
    have h3 : f 3 = .agg #[.int .i64 x.kind, .int .i64 x.n, .slice oa x.rows.length oc] := plainAt (s := 31) (cs := []) (hv 3) rfl
    have h4 : f 4 = .int .i64 z := plainAt (s := 32) (cs := []) (hv 4) rfl
    have h6 : f 6 = .agg #[.int .i64 x.kind, .int .i64 x.n, .slice oa x.rows.length oc] := plainAt (s := 34) (cs := []) (hv 6) rfl
    simp only [setN, Nat.reduceAdd, List.setIfInBounds_toArray, List.set_cons_zero, List.set_cons_succ]
    simp only [h0, h1, h3, h4, h6]
    clear h0 h1 h3 h4 h6
    obtain ⟨q8, e8, g8, b8⟩ := putAt (c := 2) (b := 8) (s := 30) (R := (Res.state (fun z => z = Y1) W6.heap.size 47)) (s' := 8) (n := 3) (t := 24) (hp 11) rfl rfl rfl
    obtain ⟨q9, e9, g9, b9⟩ := putAt (c := 5) (b := 9) (s := 33) (R := (Res.state (fun z => z = Y2) W6.heap.size 47)) (s' := 9) (n := 3) (t := 24) (hp 12) rfl rfl rfl
    obtain ⟨q10, e10, g10, b10⟩ := putAt (c := 7) (b := 10) (s := 35) (R := (Res.state (fun z => z = x) W6.heap.size 47)) (s' := 10) (n := 3) (t := 24) (hp 13) rfl rfl rfl
    obtain ⟨zu, ua, uc, hzu, eu, hou⟩ := factAt (s := 30) (R := (Res.state (fun z => z = Y1) W6.heap.size 47)) (hv 2) rfl
    obtain ⟨zt, ta, tc, hzt, et, hot⟩ := factAt (s := 33) (R := (Res.state (fun z => z = Y2) W6.heap.size 47)) (hv 5) rfl
    obtain ⟨zc, ca, cc, hzc, ec, hoc⟩ := factAt (s := 35) (R := (Res.state (fun z => z = x) W6.heap.size 47)) (hv 7) rfl
    have hzu2 := (show _ = _ from hzu).symm
    subst hzu2
    have hzt2 := (show _ = _ from hzt).symm
    subst hzt2
    have hzc2 := (show _ = _ from hzc).symm
    subst hzc2
    simp only [eu, Res.state, stCells] at b8
    simp only [et, Res.state, stCells] at b9
    simp only [ec, Res.state, stCells] at b10
    simp only [e8, e9, e10, eu, et, ec, ptr]
    have HL7 := hide ((unhide HL6).trans (hbE.mono (unhide HL6).size))
    have HW67 := hide hbE
    have HS := (hbE.block _ (block_lt HS)).trans HS
    have HX := (hbE.block _ (block_lt HX)).trans HX
    have HR := (hbE.block _ (block_lt HR)).trans HR
    have H8 := b8
    have H9 := b9
    have H10 := b10
    have HOS := hide (ownsRow_below (unhide HOS) hbE)
    have HOX := hide (ownsRow_below (unhide HOX) hbE)
    have HOU := hide hou
    have HOT := hide hot
    have HOC := hide hoc
    obtain ⟨s0, s1, s2, _⟩ := cell3v HS
    obtain ⟨r0, r1, _⟩ := cell2v HR
    clear hv hp hne ho eu et ec e8 e9 e10 g8 g9 b8 b9 b10 hbE hou hot hoc HW1 HW2 HW3
    go_wp2_with fail
    refine (unhide HFV _ _ ⟨_, rfl, Row2.of_own (unhide HOS)⟩).mono ?_
    rintro e w7 ⟨rfl, hb7⟩
    have HX7 := (hb7.block _ (block_lt HX)).trans HX
    have HR7 := (hb7.block _ (block_lt HR)).trans HR
    obtain ⟨x0, x1, x2, _⟩ := cell3v HX7
    obtain ⟨r0', r1', _⟩ := cell2v HR7
    have HB7 := hide hb7
    clear s0 s1 s2 r0 r1 hb7
    go_wp2_with fail
    refine (unhide HFR _ _ ⟨_, rfl, Row2.of_own (ownsRow_below (unhide HOX) (unhide HB7))⟩).mono ?_
    rintro e W9 ⟨rfl, hb9⟩
    have hbE := (unhide HB7).trans (hb9.mono (unhide HB7).size)
    have HL9 := hide ((unhide HL7).trans (hbE.mono (unhide HL7).size))
    have HS := (hbE.block _ (block_lt HS)).trans HS
    have HX := (hbE.block _ (block_lt HX)).trans HX
    have HR := (hbE.block _ (block_lt HR)).trans HR
    have H8 := (hbE.block _ (block_lt H8)).trans H8
    have H9 := (hbE.block _ (block_lt H9)).trans H9
    have H10 := (hbE.block _ (block_lt H10)).trans H10
    have HOS := hide (ownsRow_below (unhide HOS) hbE)
    have HOX := hide (ownsRow_below (unhide HOX) hbE)
    have HOU := hide (ownsRow_below (unhide HOU) hbE)
    have HOT := hide (ownsRow_below (unhide HOT) hbE)
    have HOC := hide (ownsRow_below (unhide HOC) hbE)
    have HW69 := hide ((unhide HW67).trans (hbE.mono (unhide HW67).size))
    clear x0 x1 x2 r0' r1' hb9 hbE HX7 HR7 HB7 HL7 HL6 HW67
    have HXA := hide (fun (wz : World) (hb : Below W9.heap.size W9 wz) => (show StAt wz (.agg #[.int .i64 x.kind, .int .i64 x.n, .slice xa x.rows.length xc]) x from ⟨_, rfl, Row2.of_own (ownsRow_below (unhide HOX) hb)⟩))
    have HT1 := hide (fun (wz : World) (hb : Below W9.heap.size W9 wz) => told_any (s := Y1) ⟨_, rfl, Row2.of_own (ownsRow_below (unhide HOU) hb)⟩ (unhide HY1L))
    have HT2 := hide (fun (wz : World) (hb : Below W9.heap.size W9 wz) => told_any (s := Y2) ⟨_, rfl, Row2.of_own (ownsRow_below (unhide HOT) hb)⟩ (unhide HY2L))
    have HTX := hide (fun (wz : World) (hb : Below W9.heap.size W9 wz) => told_any (s := x) ⟨_, rfl, Row2.of_own (ownsRow_below (unhide HOS) hb)⟩ (by have := unhide HXL; omega))
    have HRW := hide (fun (wz : World) (hb : Below W9.heap.size W9 wz) => unhide HRW0 wz _ (unhide HXA wz hb))
    have HRO := hide (fun (wz : World) (hb : Below W9.heap.size W9 wz) => unhide HRO0 wz _ (unhide HXA wz hb))
    have HLK := hide (fun (wz : World) (va vb : Value) (y : VS) (h1 : StAt wz va y) (h2 : StAt wz vb y) => vlike_same h1 h2)
    clear HRW0 HRO0
    go_upto_region 9 with fail
    refine regN [.val 47 (Res.plain (.agg #[.int .i64 Y1.kind, .int .i64 Y1.n, .slice ua Y1.rows.length uc]) []), .val 48 (Res.state (fun z => z = Y1) W9.heap.size 55), .val 49 (Res.plain (.agg #[.int .i64 x.kind, .int .i64 x.n, .slice xa x.rows.length xc]) []), .val 50 (Res.plain (.agg #[.string (S p), .string (S q)]) []), .val 51 (Res.state (fun z => z = Y1) W9.heap.size 55), .val 52 (Res.plain (.bool true) []), .val 53 (Res.plain (.bool false) []), .val 54 (Res.plain (.bool false) []), .val 55 (Res.plain (.agg #[.int .i64 Y2.kind, .int .i64 Y2.n, .slice ta Y2.rows.length tc]) []), .val 56 (Res.state (fun z => z = Y2) W9.heap.size 55), .val 57 (Res.plain (.agg #[.int .i64 x.kind, .int .i64 x.n, .slice xa x.rows.length xc]) []), .val 58 (Res.plain (.int .i64 z) []), .val 59 (Res.state (fun z => z = Y2) W9.heap.size 55), .val 60 (Res.plain (.bool true) []), .val 61 (Res.plain (.bool false) []), .val 62 (Res.plain (.bool false) []), .val 63 (Res.plain (.bool false) []), .val 64 (Res.plain (.bool HB) []), .val 65 (Res.plain (.int .i64 FI) []), .val 66 (Res.plain (.bool HB) []), .val 67 (Res.plain (.bool false) []), .val 68 (Res.plain (.bool false) []), .val 69 (Res.plain (.bool false) []), .val 70 (Res.plain (.int .i64 KI) []), .val 71 (Res.plain (.int .i64 FI) []), .val 72 (Res.plain (.int .i64 KI) []), .val 73 (Res.plain (.bool false) []), .val 74 (Res.plain (.bool false) []), .val 75 (Res.plain (.bool false) []), .val 76 (Res.plain (.agg #[.int .i64 x.kind, .int .i64 x.n, .slice oa x.rows.length oc]) []), .val 77 (Res.state (fun z => z = x) W9.heap.size 55), .val 78 (Res.plain (.agg #[.int .i64 x.kind, .int .i64 x.n, .slice xa x.rows.length xc]) []), .val 79 (Res.plain (.bool true) []), .val 80 (Res.plain (.bool false) []), .val 81 (Res.plain (.bool false) [])] (fun i => if i = 1 then [0] else if i = 4 then [2, 3] else if i = 5 then [1, 4] else if i = 6 then [5] else if i = 7 then [6] else if i = 8 then [7] else if i = 9 then [7, 8] else if i = 10 then [7] else if i = 11 then [7] else if i = 12 then [7, 10, 11] else if i = 13 then [7, 9, 12] else if i = 14 then [7, 13] else if i = 15 then [7, 14] else if i = 16 then [15] else if i = 17 then [16] else if i = 18 then [16] else if i = 19 then [16, 18] else if i = 20 then [16, 17, 19] else if i = 21 then [16, 20] else if i = 22 then [21] else if i = 23 then [22] else if i = 24 then [22] else if i = 25 then [22, 24] else if i = 26 then [22, 23, 25] else if i = 27 then [22, 26] else if i = 28 then [27] else if i = 29 then [28] else if i = 30 then [28, 29] else if i = 31 then [28] else if i = 32 then [28, 30, 31] else if i = 33 then [28, 32] else if i = 34 then [28, 33] else []) ?_ ?_ ?_ ?_ ?_ ?_ ?_ (fun i hi => ?_) ?_
    · kernel_rfl
    · rfl
    · kernel_rfl
    · kernel_rfl
    · kernel_rfl
    · kernel_rfl
    · kernel_rfl
    · have hc : i = 0 ∨ i = 1 ∨ i = 2 ∨ i = 3 ∨ i = 4 ∨ i = 5 ∨ i = 6 ∨ i = 7 ∨ i = 8 ∨ i = 9 ∨ i = 10 ∨ i = 11 ∨ i = 12 ∨ i = 13 ∨ i = 14 ∨ i = 15 ∨ i = 16 ∨ i = 17 ∨ i = 18 ∨ i = 19 ∨ i = 20 ∨ i = 21 ∨ i = 22 ∨ i = 23 ∨ i = 24 ∨ i = 25 ∨ i = 26 ∨ i = 27 ∨ i = 28 ∨ i = 29 ∨ i = 30 ∨ i = 31 ∨ i = 32 ∨ i = 33 ∨ i = 34 := by have : i < 35 := hi; omega
      clear hi
      rcases hc with rfl | rfl | rfl | rfl | rfl | rfl | rfl | rfl | rfl | rfl | rfl | rfl | rfl | rfl | rfl | rfl | rfl | rfl | rfl | rfl | rfl | rfl | rfl | rfl | rfl | rfl | rfl | rfl | rfl | rfl | rfl | rfl | rfl | rfl | rfl
      · with_reducible refine DoesN.plain (s := 47) (v := .agg #[.int .i64 Y1.kind, .int .i64 Y1.n, .slice ua Y1.rows.length uc]) ?_ ?_
        · rfl
        intro f wz K hb hd hK
        obtain ⟨d0, d1, d2, _⟩ := cell3v ((hb.block _ (block_lt H8)).trans H8)
        simp only [setN, upd, Nat.reduceAdd, Nat.reduceEqDiff, reduceIte, List.setIfInBounds_toArray, List.set_cons_zero, List.set_cons_succ] at hK ⊢
        refine wpOp_do rfl (by kernel_rfl) ?_
        unfold Oper.wp execOp
        go_simp
        exact hK _ (Below.refl _ _)
      · with_reducible refine DoesN.val (s := 48) (R := (Res.state (fun z => z = Y1) W9.heap.size 55)) ?_ ?_
        · rfl
        intro f wz K hb hd hK
        have e0 : f 0 = .agg #[.int .i64 Y1.kind, .int .i64 Y1.n, .slice ua Y1.rows.length uc] := plainAt (s := 47) (cs := []) (hd 0 (by decide)) rfl
        simp only [setN, upd, Nat.reduceAdd, Nat.reduceEqDiff, reduceIte, List.setIfInBounds_toArray, List.set_cons_zero, List.set_cons_succ] at hK ⊢
        simp only [e0] at hK ⊢
        refine wpOp_do rfl (by kernel_rfl) ?_
        unfold Oper.wp execOp
        go_simp
        refine (unhide HT1 _ hb).mono ?_
        rintro e w' ⟨v', rfl, ⟨kk, rfl, ho'⟩, hb'⟩
        obtain ⟨ka, kc, rfl, _⟩ := ownsRow_slice ho'
        exact hK _ _ hb' ⟨_, ka, kc, rfl, rfl, ownsRow_less ho' hb.size⟩ (fun k hk => Or.inl (ho'.lt k hk).1)
      · with_reducible refine DoesN.plain (s := 49) (v := .agg #[.int .i64 x.kind, .int .i64 x.n, .slice xa x.rows.length xc]) ?_ ?_
        · rfl
        intro f wz K hb hd hK
        obtain ⟨d0, d1, d2, _⟩ := cell3v ((hb.block _ (block_lt HX)).trans HX)
        simp only [setN, upd, Nat.reduceAdd, Nat.reduceEqDiff, reduceIte, List.setIfInBounds_toArray, List.set_cons_zero, List.set_cons_succ] at hK ⊢
        refine wpOp_do rfl (by kernel_rfl) ?_
        unfold Oper.wp execOp
        go_simp
        exact hK _ (Below.refl _ _)
      · with_reducible refine DoesN.plain (s := 50) (v := .agg #[.string (S p), .string (S q)]) ?_ ?_
        · rfl
        intro f wz K hb hd hK
        obtain ⟨d0, d1, _⟩ := cell2v ((hb.block _ (block_lt HR)).trans HR)
        simp only [setN, upd, Nat.reduceAdd, Nat.reduceEqDiff, reduceIte, List.setIfInBounds_toArray, List.set_cons_zero, List.set_cons_succ] at hK ⊢
        refine wpOp_do rfl (by kernel_rfl) ?_
        unfold Oper.wp execOp
        go_simp
        exact hK _ (Below.refl _ _)
      · with_reducible refine DoesN.val (s := 51) (R := (Res.state (fun z => z = Y1) W9.heap.size 55)) ?_ ?_
        · rfl
        intro f wz K hb hd hK
        have e2 : f 2 = .agg #[.int .i64 x.kind, .int .i64 x.n, .slice xa x.rows.length xc] := plainAt (s := 49) (cs := []) (hd 2 (by decide)) rfl
        have e3 : f 3 = .agg #[.string (S p), .string (S q)] := plainAt (s := 50) (cs := []) (hd 3 (by decide)) rfl
        simp only [setN, upd, Nat.reduceAdd, Nat.reduceEqDiff, reduceIte, List.setIfInBounds_toArray, List.set_cons_zero, List.set_cons_succ] at hK ⊢
        simp only [e2, e3] at hK ⊢
        refine wpOp_do rfl (by kernel_rfl) ?_
        unfold Oper.wp execOp
        go_simp
        refine (unhide HRW _ hb).mono ?_
        rintro e w' ⟨v', rfl, ⟨kk, rfl, ho'⟩, hb'⟩
        obtain ⟨ka, kc, rfl, _⟩ := ownsRow_slice ho'
        exact hK _ _ hb' ⟨_, ka, kc, rfl, rfl, ownsRow_less ho' hb.size⟩ (fun k hk => Or.inl (ho'.lt k hk).1)
      · with_reducible refine DoesN.plain (s := 52) (v := .bool true) ?_ ?_
        · rfl
        intro f wz K hb hd hK
        obtain ⟨z1, ka1, kc1, hz1, e1, ho1⟩ := factAt (s := 48) (R := (Res.state (fun z => z = Y1) W9.heap.size 55)) (hd 1 (by decide)) rfl
        have hw1 := (show _ = _ from hz1).symm
        subst hw1
        obtain ⟨z4, ka4, kc4, hz4, e4, ho4⟩ := factAt (s := 51) (R := (Res.state (fun z => z = Y1) W9.heap.size 55)) (hd 4 (by decide)) rfl
        have hw4 := (show _ = _ from hz4).symm
        subst hw4
        simp only [setN, upd, Nat.reduceAdd, Nat.reduceEqDiff, reduceIte, List.setIfInBounds_toArray, List.set_cons_zero, List.set_cons_succ] at hK ⊢
        simp only [e1, e4] at hK ⊢
        refine wpOp_do rfl (by kernel_rfl) ?_
        unfold Oper.wp execOp
        go_simp
        refine (unhide HLK _ _ _ _ ⟨_, rfl, Row2.of_own ho1⟩ ⟨_, rfl, Row2.of_own ho4⟩).mono ?_
        rintro e w' ⟨rfl, hb'⟩
        exact hK _ hb'
      · with_reducible refine DoesN.plain (s := 53) (v := .bool false) ?_ ?_
        · rfl
        intro f wz K hb hd hK
        have e5 : f 5 = .bool true := plainAt (s := 52) (cs := []) (hd 5 (by decide)) rfl
        simp only [setN, upd, Nat.reduceAdd, Nat.reduceEqDiff, reduceIte, List.setIfInBounds_toArray, List.set_cons_zero, List.set_cons_succ] at hK ⊢
        simp only [e5] at hK ⊢
        refine wpOp_do rfl (by kernel_rfl) ?_
        unfold Oper.wp execOp
        go_simp
        exact hK _ (Below.refl _ _)
      · with_reducible refine DoesN.plain (s := 54) (v := .bool false) ?_ ?_
        · rfl
        intro f wz K hb hd hK
        have e6 : f 6 = .bool false := plainAt (s := 53) (cs := []) (hd 6 (by decide)) rfl
        simp only [setN, upd, Nat.reduceAdd, Nat.reduceEqDiff, reduceIte, List.setIfInBounds_toArray, List.set_cons_zero, List.set_cons_succ] at hK ⊢
        simp only [e6] at hK ⊢
        refine wpOp_do rfl (by kernel_rfl) ?_
        unfold Oper.wp execOp
        go_simp
        exact hK _ (Below.refl _ _)
      · with_reducible refine DoesN.plain (s := 55) (v := .agg #[.int .i64 Y2.kind, .int .i64 Y2.n, .slice ta Y2.rows.length tc]) ?_ ?_
        · rfl
        intro f wz K hb hd hK
        have e7 : f 7 = .bool false := plainAt (s := 54) (cs := []) (hd 7 (by decide)) rfl
        obtain ⟨d0, d1, d2, _⟩ := cell3v ((hb.block _ (block_lt H9)).trans H9)
        simp only [setN, upd, Nat.reduceAdd, Nat.reduceEqDiff, reduceIte, List.setIfInBounds_toArray, List.set_cons_zero, List.set_cons_succ] at hK ⊢
        simp only [e7] at hK ⊢
        refine wpOp_do rfl (by kernel_rfl) ?_
        unfold Oper.wp execOp
        go_simp
        exact hK _ (Below.refl _ _)
      · with_reducible refine DoesN.val (s := 56) (R := (Res.state (fun z => z = Y2) W9.heap.size 55)) ?_ ?_
        · rfl
        intro f wz K hb hd hK
        have e7 : f 7 = .bool false := plainAt (s := 54) (cs := []) (hd 7 (by decide)) rfl
        have e8 : f 8 = .agg #[.int .i64 Y2.kind, .int .i64 Y2.n, .slice ta Y2.rows.length tc] := plainAt (s := 55) (cs := []) (hd 8 (by decide)) rfl
        simp only [setN, upd, Nat.reduceAdd, Nat.reduceEqDiff, reduceIte, List.setIfInBounds_toArray, List.set_cons_zero, List.set_cons_succ] at hK ⊢
        simp only [e7, e8] at hK ⊢
        refine wpOp_do rfl (by kernel_rfl) ?_
        unfold Oper.wp execOp
        go_simp
        refine (unhide HT2 _ hb).mono ?_
        rintro e w' ⟨v', rfl, ⟨kk, rfl, ho'⟩, hb'⟩
        obtain ⟨ka, kc, rfl, _⟩ := ownsRow_slice ho'
        exact hK _ _ hb' ⟨_, ka, kc, rfl, rfl, ownsRow_less ho' hb.size⟩ (fun k hk => Or.inl (ho'.lt k hk).1)
      · with_reducible refine DoesN.plain (s := 57) (v := .agg #[.int .i64 x.kind, .int .i64 x.n, .slice xa x.rows.length xc]) ?_ ?_
        · rfl
        intro f wz K hb hd hK
        have e7 : f 7 = .bool false := plainAt (s := 54) (cs := []) (hd 7 (by decide)) rfl
        obtain ⟨d0, d1, d2, _⟩ := cell3v ((hb.block _ (block_lt HX)).trans HX)
        simp only [setN, upd, Nat.reduceAdd, Nat.reduceEqDiff, reduceIte, List.setIfInBounds_toArray, List.set_cons_zero, List.set_cons_succ] at hK ⊢
        simp only [e7] at hK ⊢
        refine wpOp_do rfl (by kernel_rfl) ?_
        unfold Oper.wp execOp
        go_simp
        exact hK _ (Below.refl _ _)
      · with_reducible refine DoesN.plain (s := 58) (v := .int .i64 z) ?_ ?_
        · rfl
        intro f wz K hb hd hK
        have e7 : f 7 = .bool false := plainAt (s := 54) (cs := []) (hd 7 (by decide)) rfl
        simp only [setN, upd, Nat.reduceAdd, Nat.reduceEqDiff, reduceIte, List.setIfInBounds_toArray, List.set_cons_zero, List.set_cons_succ] at hK ⊢
        simp only [e7] at hK ⊢
        refine wpOp_do rfl (by kernel_rfl) ?_
        unfold Oper.wp execOp
        go_simp
        exact hK _ (Below.refl _ _)
      · with_reducible refine DoesN.val (s := 59) (R := (Res.state (fun z => z = Y2) W9.heap.size 55)) ?_ ?_
        · rfl
        intro f wz K hb hd hK
        have e7 : f 7 = .bool false := plainAt (s := 54) (cs := []) (hd 7 (by decide)) rfl
        have e10 : f 10 = .agg #[.int .i64 x.kind, .int .i64 x.n, .slice xa x.rows.length xc] := plainAt (s := 57) (cs := []) (hd 10 (by decide)) rfl
        have e11 : f 11 = .int .i64 z := plainAt (s := 58) (cs := []) (hd 11 (by decide)) rfl
        simp only [setN, upd, Nat.reduceAdd, Nat.reduceEqDiff, reduceIte, List.setIfInBounds_toArray, List.set_cons_zero, List.set_cons_succ] at hK ⊢
        simp only [e7, e10, e11] at hK ⊢
        refine wpOp_do rfl (by kernel_rfl) ?_
        unfold Oper.wp execOp
        go_simp
        refine (unhide HRO _ hb).mono ?_
        rintro e w' ⟨v', rfl, ⟨kk, rfl, ho'⟩, hb'⟩
        obtain ⟨ka, kc, rfl, _⟩ := ownsRow_slice ho'
        exact hK _ _ hb' ⟨_, ka, kc, rfl, rfl, ownsRow_less ho' hb.size⟩ (fun k hk => Or.inl (ho'.lt k hk).1)
      · with_reducible refine DoesN.plain (s := 60) (v := .bool true) ?_ ?_
        · rfl
        intro f wz K hb hd hK
        have e7 : f 7 = .bool false := plainAt (s := 54) (cs := []) (hd 7 (by decide)) rfl
        obtain ⟨z9, ka9, kc9, hz9, e9, ho9⟩ := factAt (s := 56) (R := (Res.state (fun z => z = Y2) W9.heap.size 55)) (hd 9 (by decide)) rfl
        have hw9 := (show _ = _ from hz9).symm
        subst hw9
        obtain ⟨z12, ka12, kc12, hz12, e12, ho12⟩ := factAt (s := 59) (R := (Res.state (fun z => z = Y2) W9.heap.size 55)) (hd 12 (by decide)) rfl
        have hw12 := (show _ = _ from hz12).symm
        subst hw12
        simp only [setN, upd, Nat.reduceAdd, Nat.reduceEqDiff, reduceIte, List.setIfInBounds_toArray, List.set_cons_zero, List.set_cons_succ] at hK ⊢
        simp only [e7, e9, e12] at hK ⊢
        refine wpOp_do rfl (by kernel_rfl) ?_
        unfold Oper.wp execOp
        go_simp
        refine (unhide HLK _ _ _ _ ⟨_, rfl, Row2.of_own ho9⟩ ⟨_, rfl, Row2.of_own ho12⟩).mono ?_
        rintro e w' ⟨rfl, hb'⟩
        exact hK _ hb'
      · with_reducible refine DoesN.plain (s := 61) (v := .bool false) ?_ ?_
        · rfl
        intro f wz K hb hd hK
        have e7 : f 7 = .bool false := plainAt (s := 54) (cs := []) (hd 7 (by decide)) rfl
        have e13 : f 13 = .bool true := plainAt (s := 60) (cs := []) (hd 13 (by decide)) rfl
        simp only [setN, upd, Nat.reduceAdd, Nat.reduceEqDiff, reduceIte, List.setIfInBounds_toArray, List.set_cons_zero, List.set_cons_succ] at hK ⊢
        simp only [e7, e13] at hK ⊢
        refine wpOp_do rfl (by kernel_rfl) ?_
        unfold Oper.wp execOp
        go_simp
        exact hK _ (Below.refl _ _)
      · with_reducible refine DoesN.plain (s := 62) (v := .bool false) ?_ ?_
        · rfl
        intro f wz K hb hd hK
        have e7 : f 7 = .bool false := plainAt (s := 54) (cs := []) (hd 7 (by decide)) rfl
        have e14 : f 14 = .bool false := plainAt (s := 61) (cs := []) (hd 14 (by decide)) rfl
        simp only [setN, upd, Nat.reduceAdd, Nat.reduceEqDiff, reduceIte, List.setIfInBounds_toArray, List.set_cons_zero, List.set_cons_succ] at hK ⊢
        simp only [e7, e14] at hK ⊢
        refine wpOp_do rfl (by kernel_rfl) ?_
        unfold Oper.wp execOp
        go_simp
        exact hK _ (Below.refl _ _)
      · with_reducible refine DoesN.plain (s := 63) (v := .bool false) ?_ ?_
        · rfl
        intro f wz K hb hd hK
        have e15 : f 15 = .bool false := plainAt (s := 62) (cs := []) (hd 15 (by decide)) rfl
        simp only [setN, upd, Nat.reduceAdd, Nat.reduceEqDiff, reduceIte, List.setIfInBounds_toArray, List.set_cons_zero, List.set_cons_succ] at hK ⊢
        simp only [e15] at hK ⊢
        refine wpOp_do rfl (by kernel_rfl) ?_
        unfold Oper.wp execOp
        go_simp
        exact hK _ (Below.refl _ _)
      · with_reducible refine DoesN.plain (s := 64) (v := .bool HB) ?_ ?_
        · rfl
        intro f wz K hb hd hK
        have e16 : f 16 = .bool false := plainAt (s := 63) (cs := []) (hd 16 (by decide)) rfl
        simp only [setN, upd, Nat.reduceAdd, Nat.reduceEqDiff, reduceIte, List.setIfInBounds_toArray, List.set_cons_zero, List.set_cons_succ] at hK ⊢
        simp only [e16] at hK ⊢
        refine wpOp_do rfl (by kernel_rfl) ?_
        unfold Oper.wp execOp
        go_simp
        exact hK _ (Below.refl _ _)
      · with_reducible refine DoesN.plain (s := 65) (v := .int .i64 FI) ?_ ?_
        · rfl
        intro f wz K hb hd hK
        have e16 : f 16 = .bool false := plainAt (s := 63) (cs := []) (hd 16 (by decide)) rfl
        simp only [setN, upd, Nat.reduceAdd, Nat.reduceEqDiff, reduceIte, List.setIfInBounds_toArray, List.set_cons_zero, List.set_cons_succ] at hK ⊢
        simp only [e16] at hK ⊢
        refine wpOp_do rfl (by kernel_rfl) ?_
        unfold Oper.wp execOp
        go_simp
        exact hK _ (Below.refl _ _)
      · with_reducible refine DoesN.plain (s := 66) (v := .bool HB) ?_ ?_
        · rfl
        intro f wz K hb hd hK
        have e16 : f 16 = .bool false := plainAt (s := 63) (cs := []) (hd 16 (by decide)) rfl
        have e18 : f 18 = .int .i64 FI := plainAt (s := 65) (cs := []) (hd 18 (by decide)) rfl
        simp only [setN, upd, Nat.reduceAdd, Nat.reduceEqDiff, reduceIte, List.setIfInBounds_toArray, List.set_cons_zero, List.set_cons_succ] at hK ⊢
        simp only [e16, e18] at hK ⊢
        refine wpOp_do rfl (by kernel_rfl) ?_
        unfold Oper.wp execOp
        go_simp
        exact hK _ (Below.refl _ _)
      · with_reducible refine DoesN.plain (s := 67) (v := .bool false) ?_ ?_
        · rfl
        intro f wz K hb hd hK
        have e16 : f 16 = .bool false := plainAt (s := 63) (cs := []) (hd 16 (by decide)) rfl
        have e17 : f 17 = .bool HB := plainAt (s := 64) (cs := []) (hd 17 (by decide)) rfl
        have e19 : f 19 = .bool HB := plainAt (s := 66) (cs := []) (hd 19 (by decide)) rfl
        simp only [setN, upd, Nat.reduceAdd, Nat.reduceEqDiff, reduceIte, List.setIfInBounds_toArray, List.set_cons_zero, List.set_cons_succ] at hK ⊢
        simp only [e16, e17, e19] at hK ⊢
        refine wpOp_do rfl (by kernel_rfl) ?_
        unfold Oper.wp execOp
        go_simp
        exact hK _ (Below.refl _ _)
      · with_reducible refine DoesN.plain (s := 68) (v := .bool false) ?_ ?_
        · rfl
        intro f wz K hb hd hK
        have e16 : f 16 = .bool false := plainAt (s := 63) (cs := []) (hd 16 (by decide)) rfl
        have e20 : f 20 = .bool false := plainAt (s := 67) (cs := []) (hd 20 (by decide)) rfl
        simp only [setN, upd, Nat.reduceAdd, Nat.reduceEqDiff, reduceIte, List.setIfInBounds_toArray, List.set_cons_zero, List.set_cons_succ] at hK ⊢
        simp only [e16, e20] at hK ⊢
        refine wpOp_do rfl (by kernel_rfl) ?_
        unfold Oper.wp execOp
        go_simp
        exact hK _ (Below.refl _ _)
      · with_reducible refine DoesN.plain (s := 69) (v := .bool false) ?_ ?_
        · rfl
        intro f wz K hb hd hK
        have e21 : f 21 = .bool false := plainAt (s := 68) (cs := []) (hd 21 (by decide)) rfl
        simp only [setN, upd, Nat.reduceAdd, Nat.reduceEqDiff, reduceIte, List.setIfInBounds_toArray, List.set_cons_zero, List.set_cons_succ] at hK ⊢
        simp only [e21] at hK ⊢
        refine wpOp_do rfl (by kernel_rfl) ?_
        unfold Oper.wp execOp
        go_simp
        exact hK _ (Below.refl _ _)
      · with_reducible refine DoesN.plain (s := 70) (v := .int .i64 KI) ?_ ?_
        · rfl
        intro f wz K hb hd hK
        have e22 : f 22 = .bool false := plainAt (s := 69) (cs := []) (hd 22 (by decide)) rfl
        simp only [setN, upd, Nat.reduceAdd, Nat.reduceEqDiff, reduceIte, List.setIfInBounds_toArray, List.set_cons_zero, List.set_cons_succ] at hK ⊢
        simp only [e22] at hK ⊢
        refine wpOp_do rfl (by kernel_rfl) ?_
        unfold Oper.wp execOp
        go_simp
        exact hK _ (Below.refl _ _)
      · with_reducible refine DoesN.plain (s := 71) (v := .int .i64 FI) ?_ ?_
        · rfl
        intro f wz K hb hd hK
        have e22 : f 22 = .bool false := plainAt (s := 69) (cs := []) (hd 22 (by decide)) rfl
        simp only [setN, upd, Nat.reduceAdd, Nat.reduceEqDiff, reduceIte, List.setIfInBounds_toArray, List.set_cons_zero, List.set_cons_succ] at hK ⊢
        simp only [e22] at hK ⊢
        refine wpOp_do rfl (by kernel_rfl) ?_
        unfold Oper.wp execOp
        go_simp
        exact hK _ (Below.refl _ _)
      · with_reducible refine DoesN.plain (s := 72) (v := .int .i64 KI) ?_ ?_
        · rfl
        intro f wz K hb hd hK
        have e22 : f 22 = .bool false := plainAt (s := 69) (cs := []) (hd 22 (by decide)) rfl
        have e24 : f 24 = .int .i64 FI := plainAt (s := 71) (cs := []) (hd 24 (by decide)) rfl
        simp only [setN, upd, Nat.reduceAdd, Nat.reduceEqDiff, reduceIte, List.setIfInBounds_toArray, List.set_cons_zero, List.set_cons_succ] at hK ⊢
        simp only [e22, e24] at hK ⊢
        refine wpOp_do rfl (by kernel_rfl) ?_
        unfold Oper.wp execOp
        go_simp
        exact hK _ (Below.refl _ _)
      · with_reducible refine DoesN.plain (s := 73) (v := .bool false) ?_ ?_
        · rfl
        intro f wz K hb hd hK
        have e22 : f 22 = .bool false := plainAt (s := 69) (cs := []) (hd 22 (by decide)) rfl
        have e23 : f 23 = .int .i64 KI := plainAt (s := 70) (cs := []) (hd 23 (by decide)) rfl
        have e25 : f 25 = .int .i64 KI := plainAt (s := 72) (cs := []) (hd 25 (by decide)) rfl
        simp only [setN, upd, Nat.reduceAdd, Nat.reduceEqDiff, reduceIte, List.setIfInBounds_toArray, List.set_cons_zero, List.set_cons_succ] at hK ⊢
        simp only [e22, e23, e25] at hK ⊢
        refine wpOp_do rfl (by kernel_rfl) ?_
        unfold Oper.wp execOp
        go_simp
        exact hK _ (Below.refl _ _)
      · with_reducible refine DoesN.plain (s := 74) (v := .bool false) ?_ ?_
        · rfl
        intro f wz K hb hd hK
        have e22 : f 22 = .bool false := plainAt (s := 69) (cs := []) (hd 22 (by decide)) rfl
        have e26 : f 26 = .bool false := plainAt (s := 73) (cs := []) (hd 26 (by decide)) rfl
        simp only [setN, upd, Nat.reduceAdd, Nat.reduceEqDiff, reduceIte, List.setIfInBounds_toArray, List.set_cons_zero, List.set_cons_succ] at hK ⊢
        simp only [e22, e26] at hK ⊢
        refine wpOp_do rfl (by kernel_rfl) ?_
        unfold Oper.wp execOp
        go_simp
        exact hK _ (Below.refl _ _)
      · with_reducible refine DoesN.plain (s := 75) (v := .bool false) ?_ ?_
        · rfl
        intro f wz K hb hd hK
        have e27 : f 27 = .bool false := plainAt (s := 74) (cs := []) (hd 27 (by decide)) rfl
        simp only [setN, upd, Nat.reduceAdd, Nat.reduceEqDiff, reduceIte, List.setIfInBounds_toArray, List.set_cons_zero, List.set_cons_succ] at hK ⊢
        simp only [e27] at hK ⊢
        refine wpOp_do rfl (by kernel_rfl) ?_
        unfold Oper.wp execOp
        go_simp
        exact hK _ (Below.refl _ _)
      · with_reducible refine DoesN.plain (s := 76) (v := .agg #[.int .i64 x.kind, .int .i64 x.n, .slice oa x.rows.length oc]) ?_ ?_
        · rfl
        intro f wz K hb hd hK
        have e28 : f 28 = .bool false := plainAt (s := 75) (cs := []) (hd 28 (by decide)) rfl
        obtain ⟨d0, d1, d2, _⟩ := cell3v ((hb.block _ (block_lt HS)).trans HS)
        simp only [setN, upd, Nat.reduceAdd, Nat.reduceEqDiff, reduceIte, List.setIfInBounds_toArray, List.set_cons_zero, List.set_cons_succ] at hK ⊢
        simp only [e28] at hK ⊢
        refine wpOp_do rfl (by kernel_rfl) ?_
        unfold Oper.wp execOp
        go_simp
        exact hK _ (Below.refl _ _)
      · with_reducible refine DoesN.val (s := 77) (R := (Res.state (fun z => z = x) W9.heap.size 55)) ?_ ?_
        · rfl
        intro f wz K hb hd hK
        have e28 : f 28 = .bool false := plainAt (s := 75) (cs := []) (hd 28 (by decide)) rfl
        have e29 : f 29 = .agg #[.int .i64 x.kind, .int .i64 x.n, .slice oa x.rows.length oc] := plainAt (s := 76) (cs := []) (hd 29 (by decide)) rfl
        simp only [setN, upd, Nat.reduceAdd, Nat.reduceEqDiff, reduceIte, List.setIfInBounds_toArray, List.set_cons_zero, List.set_cons_succ] at hK ⊢
        simp only [e28, e29] at hK ⊢
        refine wpOp_do rfl (by kernel_rfl) ?_
        unfold Oper.wp execOp
        go_simp
        refine (unhide HTX _ hb).mono ?_
        rintro e w' ⟨v', rfl, ⟨kk, rfl, ho'⟩, hb'⟩
        obtain ⟨ka, kc, rfl, _⟩ := ownsRow_slice ho'
        exact hK _ _ hb' ⟨_, ka, kc, rfl, rfl, ownsRow_less ho' hb.size⟩ (fun k hk => Or.inl (ho'.lt k hk).1)
      · with_reducible refine DoesN.plain (s := 78) (v := .agg #[.int .i64 x.kind, .int .i64 x.n, .slice xa x.rows.length xc]) ?_ ?_
        · rfl
        intro f wz K hb hd hK
        have e28 : f 28 = .bool false := plainAt (s := 75) (cs := []) (hd 28 (by decide)) rfl
        obtain ⟨d0, d1, d2, _⟩ := cell3v ((hb.block _ (block_lt HX)).trans HX)
        simp only [setN, upd, Nat.reduceAdd, Nat.reduceEqDiff, reduceIte, List.setIfInBounds_toArray, List.set_cons_zero, List.set_cons_succ] at hK ⊢
        simp only [e28] at hK ⊢
        refine wpOp_do rfl (by kernel_rfl) ?_
        unfold Oper.wp execOp
        go_simp
        exact hK _ (Below.refl _ _)
      · with_reducible refine DoesN.plain (s := 79) (v := .bool true) ?_ ?_
        · rfl
        intro f wz K hb hd hK
        have e28 : f 28 = .bool false := plainAt (s := 75) (cs := []) (hd 28 (by decide)) rfl
        obtain ⟨z30, ka30, kc30, hz30, e30, ho30⟩ := factAt (s := 77) (R := (Res.state (fun z => z = x) W9.heap.size 55)) (hd 30 (by decide)) rfl
        have hw30 := (show _ = _ from hz30).symm
        subst hw30
        have e31 : f 31 = .agg #[.int .i64 x.kind, .int .i64 x.n, .slice xa x.rows.length xc] := plainAt (s := 78) (cs := []) (hd 31 (by decide)) rfl
        simp only [setN, upd, Nat.reduceAdd, Nat.reduceEqDiff, reduceIte, List.setIfInBounds_toArray, List.set_cons_zero, List.set_cons_succ] at hK ⊢
        simp only [e28, e30, e31] at hK ⊢
        refine wpOp_do rfl (by kernel_rfl) ?_
        unfold Oper.wp execOp
        go_simp
        refine (unhide HLK _ _ _ _ ⟨_, rfl, Row2.of_own ho30⟩ (unhide HXA _ hb)).mono ?_
        rintro e w' ⟨rfl, hb'⟩
        exact hK _ hb'
      · with_reducible refine DoesN.plain (s := 80) (v := .bool false) ?_ ?_
        · rfl
        intro f wz K hb hd hK
        have e28 : f 28 = .bool false := plainAt (s := 75) (cs := []) (hd 28 (by decide)) rfl
        have e32 : f 32 = .bool true := plainAt (s := 79) (cs := []) (hd 32 (by decide)) rfl
        simp only [setN, upd, Nat.reduceAdd, Nat.reduceEqDiff, reduceIte, List.setIfInBounds_toArray, List.set_cons_zero, List.set_cons_succ] at hK ⊢
        simp only [e28, e32] at hK ⊢
        refine wpOp_do rfl (by kernel_rfl) ?_
        unfold Oper.wp execOp
        go_simp
        exact hK _ (Below.refl _ _)
      · with_reducible refine DoesN.plain (s := 81) (v := .bool false) ?_ ?_
        · rfl
        intro f wz K hb hd hK
        have e28 : f 28 = .bool false := plainAt (s := 75) (cs := []) (hd 28 (by decide)) rfl
        have e33 : f 33 = .bool false := plainAt (s := 80) (cs := []) (hd 33 (by decide)) rfl
        simp only [setN, upd, Nat.reduceAdd, Nat.reduceEqDiff, reduceIte, List.setIfInBounds_toArray, List.set_cons_zero, List.set_cons_succ] at hK ⊢
        simp only [e28, e33] at hK ⊢
        refine wpOp_do rfl (by kernel_rfl) ?_
        unfold Oper.wp execOp
        go_simp
        exact hK _ (Below.refl _ _)
    · intro f wE hbE hv hp hne ho
      have h0 : f 0 = .agg #[.int .i64 Y1.kind, .int .i64 Y1.n, .slice ua Y1.rows.length uc] := plainAt (s := 47) (cs := []) (hv 0) rfl
      have h2 : f 2 = .agg #[.int .i64 x.kind, .int .i64 x.n, .slice xa x.rows.length xc] := plainAt (s := 49) (cs := []) (hv 2) rfl
      have h3 : f 3 = .agg #[.string (S p), .string (S q)] := plainAt (s := 50) (cs := []) (hv 3) rfl
      have h5 : f 5 = .bool true := plainAt (s := 52) (cs := []) (hv 5) rfl
      have h6 : f 6 = .bool false := plainAt (s := 53) (cs := []) (hv 6) rfl
      have h7 : f 7 = .bool false := plainAt (s := 54) (cs := []) (hv 7) rfl
      have h8 : f 8 = .agg #[.int .i64 Y2.kind, .int .i64 Y2.n, .slice ta Y2.rows.length tc] := plainAt (s := 55) (cs := []) (hv 8) rfl
      have h10 : f 10 = .agg #[.int .i64 x.kind, .int .i64 x.n, .slice xa x.rows.length xc] := plainAt (s := 57) (cs := []) (hv 10) rfl
      have h11 : f 11 = .int .i64 z := plainAt (s := 58) (cs := []) (hv 11) rfl
      have h13 : f 13 = .bool true := plainAt (s := 60) (cs := []) (hv 13) rfl
      have h14 : f 14 = .bool false := plainAt (s := 61) (cs := []) (hv 14) rfl
      have h15 : f 15 = .bool false := plainAt (s := 62) (cs := []) (hv 15) rfl
      have h16 : f 16 = .bool false := plainAt (s := 63) (cs := []) (hv 16) rfl
      have h17 : f 17 = .bool HB := plainAt (s := 64) (cs := []) (hv 17) rfl
      have h18 : f 18 = .int .i64 FI := plainAt (s := 65) (cs := []) (hv 18) rfl
      have h19 : f 19 = .bool HB := plainAt (s := 66) (cs := []) (hv 19) rfl
      have h20 : f 20 = .bool false := plainAt (s := 67) (cs := []) (hv 20) rfl
      have h21 : f 21 = .bool false := plainAt (s := 68) (cs := []) (hv 21) rfl
      have h22 : f 22 = .bool false := plainAt (s := 69) (cs := []) (hv 22) rfl
      have h23 : f 23 = .int .i64 KI := plainAt (s := 70) (cs := []) (hv 23) rfl
      have h24 : f 24 = .int .i64 FI := plainAt (s := 71) (cs := []) (hv 24) rfl
      have h25 : f 25 = .int .i64 KI := plainAt (s := 72) (cs := []) (hv 25) rfl
      have h26 : f 26 = .bool false := plainAt (s := 73) (cs := []) (hv 26) rfl
      have h27 : f 27 = .bool false := plainAt (s := 74) (cs := []) (hv 27) rfl
      have h28 : f 28 = .bool false := plainAt (s := 75) (cs := []) (hv 28) rfl
      have h29 : f 29 = .agg #[.int .i64 x.kind, .int .i64 x.n, .slice oa x.rows.length oc] := plainAt (s := 76) (cs := []) (hv 29) rfl
      have h31 : f 31 = .agg #[.int .i64 x.kind, .int .i64 x.n, .slice xa x.rows.length xc] := plainAt (s := 78) (cs := []) (hv 31) rfl
      have h32 : f 32 = .bool true := plainAt (s := 79) (cs := []) (hv 32) rfl
      have h33 : f 33 = .bool false := plainAt (s := 80) (cs := []) (hv 33) rfl
      have h34 : f 34 = .bool false := plainAt (s := 81) (cs := []) (hv 34) rfl
      simp only [setN, Nat.reduceAdd, List.setIfInBounds_toArray, List.set_cons_zero, List.set_cons_succ]
      simp only [h0, h2, h3, h5, h6, h7, h8, h10, h11, h13, h14, h15, h16, h17, h18, h19, h20, h21, h22, h23, h24, h25, h26, h27, h28, h29, h31, h32, h33, h34]
      clear h0 h2 h3 h5 h6 h7 h8 h10 h11 h13 h14 h15 h16 h17 h18 h19 h20 h21 h22 h23 h24 h25 h26 h27 h28 h29 h31 h32 h33 h34
      have HWE := hide ((unhide HW69).trans (hbE.mono (unhide HW69).size))
      have HCE := hide (ownsRow_below (unhide HOC) hbE)
      have h10 := (hbE.block _ (block_lt H10)).trans H10
      have H10E := hide h10
      obtain ⟨d0, d1, d2, _⟩ := cell3v h10
      clear hv hp hne ho hbE H10 h10 HS HX HR H8 H9 HOS HOX HOU HOT HOC HXA HT1 HT2 HTX HRW HRO HL9 HW69
      go_wp2_with fail
      clear d0 d1 d2
      go_loopw [85, 14] (fun i _ wr => ∃ k : Nat, k ≤ x.rows.length ∧ i = .int .i64 (k : Int) ∧ Below W6.heap.size W6 wr ∧ wr.heap[q10]? = some (.cells #[.int .i64 x.kind, .int .i64 x.n, .slice ca x.rows.length cc] 24 (0, 0)) ∧ wr.ownsRow W6.heap.size 47 2 (.slice ca x.rows.length cc) x.rows.length (R9 (mk k x.rows))) (fun i _ _ => x.rows.length - (intOf i).toNat)
      case atStart => exact ⟨0, Nat.zero_le _, rfl, unhide HWE, unhide H10E, unhide HCE⟩
      case round =>
        obtain ⟨k, hk, rfl, hlow, h10, hown⟩ := hrel
        clear HWE H10E HCE
        by_cases hlt : k < x.rows.length
        · have j1 : (k : Int) < ((x.rows.length : Nat) : Int) := by omega
          have j2 : (0 : Int) ≤ (k : Int) := by omega
          obtain ⟨g, rfl⟩ : ∃ g, ca = some ⟨g, 0, none⟩ := by
            obtain ⟨ca', cc', e, h1⟩ := ownsRow_slice hown
            injection e with e1 e2 e3
            subst e1
            exact h1 (by omega)
          have hkey := ownsRow_cell hown rfl (k * 2) _ (mk_get x.rows k hlt)
          have hfz := own_frozen hown rfl (k * 2)
          have hset := own2_store hown rfl (k * 2) (.string (S ((x.rows[k]'hlt).1 ++ [120])))
          rw [mk_set x.rows k hlt] at hset
          have hkl : (x.rows[k]'hlt).1.length ≤ 24 := (VS.may_len (unhide HMAY) k hlt).1
          have hcat := S_x (x.rows[k]'hlt).1
          generalize (x.rows[k]'hlt).1 = key at *
          obtain ⟨d0, d1, d2, _⟩ := cell3v h10
          have hszk : (S key).size = key.length := rfl
          have hg := (hown.lt g rfl).1
          have hqg : q10 ≠ g := fun e => own_unlike2 hown h10 (by decide) (by rw [e]; rfl)
          have HK1 := hide (show Below W6.heap.size W6 (wr.setCell ⟨g, k * 2, none⟩ (.string (S (key ++ [120])))) from ⟨hlow.os, hlow.tape, hlow.output, by simpa using hlow.size, fun j hj => by rw [heap_setCell_other _ ⟨g, k * 2, none⟩ j _ (by show j ≠ g; omega)]; exact hlow.block j hj⟩)
          have HK2 := hide (show (wr.setCell ⟨g, k * 2, none⟩ (.string (S (key ++ [120])))).heap[q10]? = _ from (heap_setCell_other _ ⟨g, k * 2, none⟩ q10 _ hqg).trans h10)
          have HK3 := hide hset
          clear hown hlow h10 hset hg hqg
          have hxl := unhide HXL
          go_wp2_with fail
          go_roundw
          case rel => exact ⟨k + 1, by omega, by go_num, unhide HK1, unhide HK2, unhide HK3⟩
          case measure => simp [intOf]; omega
        · have hkn : k = x.rows.length := by omega
          subst hkn
          have j1 : ¬ ((x.rows.length : Nat) : Int) < ((x.rows.length : Nat) : Int) := by omega
          have HS := (hlow.block _ (block_lt (unhide HSW))).trans (unhide HSW)
          have HX := (hlow.block _ (block_lt (unhide HXW))).trans (unhide HXW)
          have H10 := h10
          have HLR := hide ((unhide HLW6).trans (hlow.mono (unhide HLW6).size))
          have HXA := hide (fun (wz : World) (hb : Below wr.heap.size wr wz) => (show StAt wz (.agg #[.int .i64 x.kind, .int .i64 x.n, .slice xa x.rows.length xc]) x from ⟨_, rfl, Row2.of_own (ownsRow_below (unhide HOXW) (hlow.trans (hb.mono hlow.size)))⟩))
          have HTX := hide (fun (wz : World) (hb : Below wr.heap.size wr wz) => told_any (s := x) ⟨_, rfl, Row2.of_own (ownsRow_below (unhide HOSW) (hlow.trans (hb.mono hlow.size)))⟩ (by have := unhide HXL; omega))
          have HSM : Hid (∀ wz, Below wr.heap.size wr wz → Calls Tryd.prog 18 #[.agg #[.int .i64 x.kind, .int .i64 x.n, .slice oa x.rows.length oc], .agg #[.int .i64 x.kind, .int .i64 x.n, .slice oa x.rows.length oc]] wz fun e w' => e = .returned (.bool true) ∧ Below wz.heap.size wz w') := fun wz hb => by
            have h1 : StAt wz (.agg #[.int .i64 x.kind, .int .i64 x.n, .slice oa x.rows.length oc]) x := ⟨_, rfl, Row2.of_own (ownsRow_below (unhide HOSW) (hlow.trans (hb.mono hlow.size)))⟩
            have := vsame_any h1 h1
            rwa [show x.alike x = true by simp [VS.alike]] at this
          by_cases hn0 : x.rows.length = 0
          · have e0 : (((x.rows.length : Nat) : Int) == 0) = true := by rw [hn0]; rfl
            clear hown hlow h10 hn0
            go_upto_region 16 with fail
            refine regN [.val 98 (Res.plain (.agg #[.int .i64 x.kind, .int .i64 x.n, .slice oa x.rows.length oc]) []), .val 99 (Res.state (fun z => z = x) wr.heap.size 55), .val 100 (Res.plain (.agg #[.int .i64 x.kind, .int .i64 x.n, .slice xa x.rows.length xc]) []), .val 101 (Res.plain (.bool true) []), .val 102 (Res.plain (.bool true) []), .val 103 (Res.plain (.agg #[.int .i64 x.kind, .int .i64 x.n, .slice oa x.rows.length oc]) []), .val 104 (Res.plain (.agg #[.int .i64 x.kind, .int .i64 x.n, .slice oa x.rows.length oc]) []), .val 105 (Res.plain (.bool true) []), .val 106 (Res.plain (.bool true) []), .val 107 (Res.plain (.bool true) []), .val 108 (Res.plain (.pointer (some ⟨w1.heap.size, 2, none⟩)) []), .val 109 (Res.plain (.slice xa x.rows.length xc) []), .val 110 (Res.plain (.int .i64 ((x.rows.length : Nat) : Int)) []), .val 111 (Res.plain (.bool true) []), .val 112 (Res.plain (.bool true) []), .val 113 (Res.plain (undef) []), .val 114 (Res.plain (undef) []), .val 115 (Res.plain (undef) []), .val 116 (Res.plain (undef) []), .val 117 (Res.plain (.bool true) []), .val 118 (Res.plain (.bool true) []), .val 6 (Res.plain (.bool true) [])] (fun i => if i = 1 then [0] else if i = 3 then [1, 2] else if i = 4 then [3] else if i = 5 then [4] else if i = 6 then [4] else if i = 7 then [4, 5, 6] else if i = 8 then [4, 7] else if i = 9 then [8] else if i = 10 then [9] else if i = 11 then [9, 10] else if i = 12 then [9, 11] else if i = 13 then [9, 12] else if i = 14 then [9, 13] else if i = 15 then [14] else if i = 16 then [14] else if i = 17 then [14, 15, 16] else if i = 18 then [14, 17] else if i = 19 then [9, 14, 18] else if i = 20 then [9, 19] else if i = 21 then [20] else []) ?_ ?_ ?_ ?_ ?_ ?_ ?_ (fun i hi => ?_) ?_
            · kernel_rfl
            · rfl
            · kernel_rfl
            · kernel_rfl
            · kernel_rfl
            · kernel_rfl
            · kernel_rfl
            · have hc : i = 0 ∨ i = 1 ∨ i = 2 ∨ i = 3 ∨ i = 4 ∨ i = 5 ∨ i = 6 ∨ i = 7 ∨ i = 8 ∨ i = 9 ∨ i = 10 ∨ i = 11 ∨ i = 12 ∨ i = 13 ∨ i = 14 ∨ i = 15 ∨ i = 16 ∨ i = 17 ∨ i = 18 ∨ i = 19 ∨ i = 20 ∨ i = 21 := by have : i < 22 := hi; omega
              clear hi
              rcases hc with rfl | rfl | rfl | rfl | rfl | rfl | rfl | rfl | rfl | rfl | rfl | rfl | rfl | rfl | rfl | rfl | rfl | rfl | rfl | rfl | rfl | rfl
              · with_reducible refine DoesN.plain (s := 98) (v := .agg #[.int .i64 x.kind, .int .i64 x.n, .slice oa x.rows.length oc]) ?_ ?_
                · rfl
                intro f wz K hb hd hK
                obtain ⟨d0, d1, d2, _⟩ := cell3v ((hb.block _ (block_lt HS)).trans HS)
                simp only [setN, upd, Nat.reduceAdd, Nat.reduceEqDiff, reduceIte, List.setIfInBounds_toArray, List.set_cons_zero, List.set_cons_succ] at hK ⊢
                refine wpOp_do rfl (by kernel_rfl) ?_
                unfold Oper.wp execOp
                go_simp
                exact hK _ (Below.refl _ _)
              · with_reducible refine DoesN.val (s := 99) (R := (Res.state (fun z => z = x) wr.heap.size 55)) ?_ ?_
                · rfl
                intro f wz K hb hd hK
                have e0 : f 0 = .agg #[.int .i64 x.kind, .int .i64 x.n, .slice oa x.rows.length oc] := plainAt (s := 98) (cs := []) (hd 0 (by decide)) rfl
                simp only [setN, upd, Nat.reduceAdd, Nat.reduceEqDiff, reduceIte, List.setIfInBounds_toArray, List.set_cons_zero, List.set_cons_succ] at hK ⊢
                simp only [e0] at hK ⊢
                refine wpOp_do rfl (by kernel_rfl) ?_
                unfold Oper.wp execOp
                go_simp
                refine (unhide HTX _ hb).mono ?_
                rintro e w' ⟨v', rfl, ⟨kk, rfl, ho'⟩, hb'⟩
                obtain ⟨ka, kc, rfl, _⟩ := ownsRow_slice ho'
                exact hK _ _ hb' ⟨_, ka, kc, rfl, rfl, ownsRow_less ho' hb.size⟩ (fun k hk => Or.inl (ho'.lt k hk).1)
              · with_reducible refine DoesN.plain (s := 100) (v := .agg #[.int .i64 x.kind, .int .i64 x.n, .slice xa x.rows.length xc]) ?_ ?_
                · rfl
                intro f wz K hb hd hK
                obtain ⟨d0, d1, d2, _⟩ := cell3v ((hb.block _ (block_lt HX)).trans HX)
                simp only [setN, upd, Nat.reduceAdd, Nat.reduceEqDiff, reduceIte, List.setIfInBounds_toArray, List.set_cons_zero, List.set_cons_succ] at hK ⊢
                refine wpOp_do rfl (by kernel_rfl) ?_
                unfold Oper.wp execOp
                go_simp
                exact hK _ (Below.refl _ _)
              · with_reducible refine DoesN.plain (s := 101) (v := .bool true) ?_ ?_
                · rfl
                intro f wz K hb hd hK
                obtain ⟨z1, ka1, kc1, hz1, e1, ho1⟩ := factAt (s := 99) (R := (Res.state (fun z => z = x) wr.heap.size 55)) (hd 1 (by decide)) rfl
                have hw1 := (show _ = _ from hz1).symm
                subst hw1
                have e2 : f 2 = .agg #[.int .i64 x.kind, .int .i64 x.n, .slice xa x.rows.length xc] := plainAt (s := 100) (cs := []) (hd 2 (by decide)) rfl
                simp only [setN, upd, Nat.reduceAdd, Nat.reduceEqDiff, reduceIte, List.setIfInBounds_toArray, List.set_cons_zero, List.set_cons_succ] at hK ⊢
                simp only [e1, e2] at hK ⊢
                refine wpOp_do rfl (by kernel_rfl) ?_
                unfold Oper.wp execOp
                go_simp
                refine (unhide HLK _ _ _ _ ⟨_, rfl, Row2.of_own ho1⟩ (unhide HXA _ hb)).mono ?_
                rintro e w' ⟨rfl, hb'⟩
                exact hK _ hb'
              · with_reducible refine DoesN.plain (s := 102) (v := .bool true) ?_ ?_
                · rfl
                intro f wz K hb hd hK
                have e3 : f 3 = .bool true := plainAt (s := 101) (cs := []) (hd 3 (by decide)) rfl
                simp only [setN, upd, Nat.reduceAdd, Nat.reduceEqDiff, reduceIte, List.setIfInBounds_toArray, List.set_cons_zero, List.set_cons_succ] at hK ⊢
                simp only [e3] at hK ⊢
                refine wpOp_do rfl (by kernel_rfl) ?_
                unfold Oper.wp execOp
                go_simp
                exact hK _ (Below.refl _ _)
              · with_reducible refine DoesN.plain (s := 103) (v := .agg #[.int .i64 x.kind, .int .i64 x.n, .slice oa x.rows.length oc]) ?_ ?_
                · rfl
                intro f wz K hb hd hK
                have e4 : f 4 = .bool true := plainAt (s := 102) (cs := []) (hd 4 (by decide)) rfl
                obtain ⟨d0, d1, d2, _⟩ := cell3v ((hb.block _ (block_lt HS)).trans HS)
                simp only [setN, upd, Nat.reduceAdd, Nat.reduceEqDiff, reduceIte, List.setIfInBounds_toArray, List.set_cons_zero, List.set_cons_succ] at hK ⊢
                simp only [e4] at hK ⊢
                refine wpOp_do rfl (by kernel_rfl) ?_
                unfold Oper.wp execOp
                go_simp
                exact hK _ (Below.refl _ _)
              · with_reducible refine DoesN.plain (s := 104) (v := .agg #[.int .i64 x.kind, .int .i64 x.n, .slice oa x.rows.length oc]) ?_ ?_
                · rfl
                intro f wz K hb hd hK
                have e4 : f 4 = .bool true := plainAt (s := 102) (cs := []) (hd 4 (by decide)) rfl
                obtain ⟨d0, d1, d2, _⟩ := cell3v ((hb.block _ (block_lt HS)).trans HS)
                simp only [setN, upd, Nat.reduceAdd, Nat.reduceEqDiff, reduceIte, List.setIfInBounds_toArray, List.set_cons_zero, List.set_cons_succ] at hK ⊢
                simp only [e4] at hK ⊢
                refine wpOp_do rfl (by kernel_rfl) ?_
                unfold Oper.wp execOp
                go_simp
                exact hK _ (Below.refl _ _)
              · with_reducible refine DoesN.plain (s := 105) (v := .bool true) ?_ ?_
                · rfl
                intro f wz K hb hd hK
                have e4 : f 4 = .bool true := plainAt (s := 102) (cs := []) (hd 4 (by decide)) rfl
                have e5 : f 5 = .agg #[.int .i64 x.kind, .int .i64 x.n, .slice oa x.rows.length oc] := plainAt (s := 103) (cs := []) (hd 5 (by decide)) rfl
                have e6 : f 6 = .agg #[.int .i64 x.kind, .int .i64 x.n, .slice oa x.rows.length oc] := plainAt (s := 104) (cs := []) (hd 6 (by decide)) rfl
                simp only [setN, upd, Nat.reduceAdd, Nat.reduceEqDiff, reduceIte, List.setIfInBounds_toArray, List.set_cons_zero, List.set_cons_succ] at hK ⊢
                simp only [e4, e5, e6] at hK ⊢
                refine wpOp_do rfl (by kernel_rfl) ?_
                unfold Oper.wp execOp
                go_simp
                refine (unhide HSM _ hb).mono ?_
                rintro e w' ⟨rfl, hb'⟩
                exact hK _ hb'
              · with_reducible refine DoesN.plain (s := 106) (v := .bool true) ?_ ?_
                · rfl
                intro f wz K hb hd hK
                have e4 : f 4 = .bool true := plainAt (s := 102) (cs := []) (hd 4 (by decide)) rfl
                have e7 : f 7 = .bool true := plainAt (s := 105) (cs := []) (hd 7 (by decide)) rfl
                simp only [setN, upd, Nat.reduceAdd, Nat.reduceEqDiff, reduceIte, List.setIfInBounds_toArray, List.set_cons_zero, List.set_cons_succ] at hK ⊢
                simp only [e4, e7] at hK ⊢
                refine wpOp_do rfl (by kernel_rfl) ?_
                unfold Oper.wp execOp
                go_simp
                exact hK _ (Below.refl _ _)
              · with_reducible refine DoesN.plain (s := 107) (v := .bool true) ?_ ?_
                · rfl
                intro f wz K hb hd hK
                have e8 : f 8 = .bool true := plainAt (s := 106) (cs := []) (hd 8 (by decide)) rfl
                simp only [setN, upd, Nat.reduceAdd, Nat.reduceEqDiff, reduceIte, List.setIfInBounds_toArray, List.set_cons_zero, List.set_cons_succ] at hK ⊢
                simp only [e8] at hK ⊢
                refine wpOp_do rfl (by kernel_rfl) ?_
                unfold Oper.wp execOp
                go_simp
                exact hK _ (Below.refl _ _)
              · with_reducible refine DoesN.plain (s := 108) (v := .pointer (some ⟨w1.heap.size, 2, none⟩)) ?_ ?_
                · rfl
                intro f wz K hb hd hK
                have e9 : f 9 = .bool true := plainAt (s := 107) (cs := []) (hd 9 (by decide)) rfl
                simp only [setN, upd, Nat.reduceAdd, Nat.reduceEqDiff, reduceIte, List.setIfInBounds_toArray, List.set_cons_zero, List.set_cons_succ] at hK ⊢
                simp only [e9] at hK ⊢
                refine wpOp_do rfl (by kernel_rfl) ?_
                unfold Oper.wp execOp
                go_simp
                exact hK _ (Below.refl _ _)
              · with_reducible refine DoesN.plain (s := 109) (v := .slice xa x.rows.length xc) ?_ ?_
                · rfl
                intro f wz K hb hd hK
                have e9 : f 9 = .bool true := plainAt (s := 107) (cs := []) (hd 9 (by decide)) rfl
                have e10 : f 10 = .pointer (some ⟨w1.heap.size, 2, none⟩) := plainAt (s := 108) (cs := []) (hd 10 (by decide)) rfl
                obtain ⟨d0, d1, d2, _⟩ := cell3v ((hb.block _ (block_lt HX)).trans HX)
                simp only [setN, upd, Nat.reduceAdd, Nat.reduceEqDiff, reduceIte, List.setIfInBounds_toArray, List.set_cons_zero, List.set_cons_succ] at hK ⊢
                simp only [e9, e10] at hK ⊢
                refine wpOp_do rfl (by kernel_rfl) ?_
                unfold Oper.wp execOp
                go_simp
                exact hK _ (Below.refl _ _)
              · with_reducible refine DoesN.plain (s := 110) (v := .int .i64 ((x.rows.length : Nat) : Int)) ?_ ?_
                · rfl
                intro f wz K hb hd hK
                have e9 : f 9 = .bool true := plainAt (s := 107) (cs := []) (hd 9 (by decide)) rfl
                have e11 : f 11 = .slice xa x.rows.length xc := plainAt (s := 109) (cs := []) (hd 11 (by decide)) rfl
                simp only [setN, upd, Nat.reduceAdd, Nat.reduceEqDiff, reduceIte, List.setIfInBounds_toArray, List.set_cons_zero, List.set_cons_succ] at hK ⊢
                simp only [e9, e11] at hK ⊢
                refine wpOp_do rfl (by kernel_rfl) ?_
                unfold Oper.wp execOp
                go_simp
                exact hK _ (Below.refl _ _)
              · with_reducible refine DoesN.plain (s := 111) (v := .bool true) ?_ ?_
                · rfl
                intro f wz K hb hd hK
                have e9 : f 9 = .bool true := plainAt (s := 107) (cs := []) (hd 9 (by decide)) rfl
                have e12 : f 12 = .int .i64 ((x.rows.length : Nat) : Int) := plainAt (s := 110) (cs := []) (hd 12 (by decide)) rfl
                simp only [setN, upd, Nat.reduceAdd, Nat.reduceEqDiff, reduceIte, List.setIfInBounds_toArray, List.set_cons_zero, List.set_cons_succ] at hK ⊢
                simp only [e9, e12] at hK ⊢
                refine wpOp_do rfl (by kernel_rfl) ?_
                unfold Oper.wp execOp
                go_simp
                exact hK _ (Below.refl _ _)
              · with_reducible refine DoesN.plain (s := 112) (v := .bool true) ?_ ?_
                · rfl
                intro f wz K hb hd hK
                have e9 : f 9 = .bool true := plainAt (s := 107) (cs := []) (hd 9 (by decide)) rfl
                have e13 : f 13 = .bool true := plainAt (s := 111) (cs := []) (hd 13 (by decide)) rfl
                simp only [setN, upd, Nat.reduceAdd, Nat.reduceEqDiff, reduceIte, List.setIfInBounds_toArray, List.set_cons_zero, List.set_cons_succ] at hK ⊢
                simp only [e9, e13] at hK ⊢
                refine wpOp_do rfl (by kernel_rfl) ?_
                unfold Oper.wp execOp
                go_simp
                exact hK _ (Below.refl _ _)
              · with_reducible refine DoesN.plain (s := 113) (v := undef) ?_ ?_
                · rfl
                intro f wz K hb hd hK
                have e14 : f 14 = .bool true := plainAt (s := 112) (cs := []) (hd 14 (by decide)) rfl
                obtain ⟨d0, d1, d2, _⟩ := cell3v ((hb.block _ (block_lt H10)).trans H10)
                simp only [setN, upd, Nat.reduceAdd, Nat.reduceEqDiff, reduceIte, List.setIfInBounds_toArray, List.set_cons_zero, List.set_cons_succ] at hK ⊢
                simp only [e14] at hK ⊢
                refine wpOp_skip rfl (by kernel_rfl) ?_
                go_simp
                exact hK _ (Below.refl _ _)
              · with_reducible refine DoesN.plain (s := 114) (v := undef) ?_ ?_
                · rfl
                intro f wz K hb hd hK
                have e14 : f 14 = .bool true := plainAt (s := 112) (cs := []) (hd 14 (by decide)) rfl
                obtain ⟨d0, d1, d2, _⟩ := cell3v ((hb.block _ (block_lt HS)).trans HS)
                simp only [setN, upd, Nat.reduceAdd, Nat.reduceEqDiff, reduceIte, List.setIfInBounds_toArray, List.set_cons_zero, List.set_cons_succ] at hK ⊢
                simp only [e14] at hK ⊢
                refine wpOp_skip rfl (by kernel_rfl) ?_
                go_simp
                exact hK _ (Below.refl _ _)
              · with_reducible refine DoesN.plain (s := 115) (v := undef) ?_ ?_
                · rfl
                intro f wz K hb hd hK
                have e14 : f 14 = .bool true := plainAt (s := 112) (cs := []) (hd 14 (by decide)) rfl
                have e15 : f 15 = undef := plainAt (s := 113) (cs := []) (hd 15 (by decide)) rfl
                have e16 : f 16 = undef := plainAt (s := 114) (cs := []) (hd 16 (by decide)) rfl
                simp only [setN, upd, Nat.reduceAdd, Nat.reduceEqDiff, reduceIte, List.setIfInBounds_toArray, List.set_cons_zero, List.set_cons_succ] at hK ⊢
                simp only [e14, e15, e16] at hK ⊢
                refine wpOp_skip rfl (by kernel_rfl) ?_
                go_simp
                exact hK _ (Below.refl _ _)
              · with_reducible refine DoesN.plain (s := 116) (v := undef) ?_ ?_
                · rfl
                intro f wz K hb hd hK
                have e14 : f 14 = .bool true := plainAt (s := 112) (cs := []) (hd 14 (by decide)) rfl
                have e17 : f 17 = undef := plainAt (s := 115) (cs := []) (hd 17 (by decide)) rfl
                simp only [setN, upd, Nat.reduceAdd, Nat.reduceEqDiff, reduceIte, List.setIfInBounds_toArray, List.set_cons_zero, List.set_cons_succ] at hK ⊢
                simp only [e14, e17] at hK ⊢
                refine wpOp_skip rfl (by kernel_rfl) ?_
                go_simp
                exact hK _ (Below.refl _ _)
              · with_reducible refine DoesN.plain (s := 117) (v := .bool true) ?_ ?_
                · rfl
                intro f wz K hb hd hK
                have e9 : f 9 = .bool true := plainAt (s := 107) (cs := []) (hd 9 (by decide)) rfl
                have e14 : f 14 = .bool true := plainAt (s := 112) (cs := []) (hd 14 (by decide)) rfl
                have e18 : f 18 = undef := plainAt (s := 116) (cs := []) (hd 18 (by decide)) rfl
                simp only [setN, upd, Nat.reduceAdd, Nat.reduceEqDiff, reduceIte, List.setIfInBounds_toArray, List.set_cons_zero, List.set_cons_succ] at hK ⊢
                simp only [e9, e14, e18] at hK ⊢
                refine wpOp_do rfl (by kernel_rfl) ?_
                unfold Oper.wp execOp
                go_simp
                exact hK _ (Below.refl _ _)
              · with_reducible refine DoesN.plain (s := 118) (v := .bool true) ?_ ?_
                · rfl
                intro f wz K hb hd hK
                have e9 : f 9 = .bool true := plainAt (s := 107) (cs := []) (hd 9 (by decide)) rfl
                have e19 : f 19 = .bool true := plainAt (s := 117) (cs := []) (hd 19 (by decide)) rfl
                simp only [setN, upd, Nat.reduceAdd, Nat.reduceEqDiff, reduceIte, List.setIfInBounds_toArray, List.set_cons_zero, List.set_cons_succ] at hK ⊢
                simp only [e9, e19] at hK ⊢
                refine wpOp_do rfl (by kernel_rfl) ?_
                unfold Oper.wp execOp
                go_simp
                exact hK _ (Below.refl _ _)
              · with_reducible refine DoesN.plain (s := 6) (v := .bool true) ?_ ?_
                · rfl
                intro f wz K hb hd hK
                have e20 : f 20 = .bool true := plainAt (s := 118) (cs := []) (hd 20 (by decide)) rfl
                simp only [setN, upd, Nat.reduceAdd, Nat.reduceEqDiff, reduceIte, List.setIfInBounds_toArray, List.set_cons_zero, List.set_cons_succ] at hK ⊢
                simp only [e20] at hK ⊢
                refine wpOp_do rfl (by kernel_rfl) ?_
                unfold Oper.wp execOp
                go_simp
                exact hK _ (Below.refl _ _)
            · intro f wE hbE hv hp hne ho
              have h0 : f 0 = .agg #[.int .i64 x.kind, .int .i64 x.n, .slice oa x.rows.length oc] := plainAt (s := 98) (cs := []) (hv 0) rfl
              have h2 : f 2 = .agg #[.int .i64 x.kind, .int .i64 x.n, .slice xa x.rows.length xc] := plainAt (s := 100) (cs := []) (hv 2) rfl
              have h3 : f 3 = .bool true := plainAt (s := 101) (cs := []) (hv 3) rfl
              have h4 : f 4 = .bool true := plainAt (s := 102) (cs := []) (hv 4) rfl
              have h5 : f 5 = .agg #[.int .i64 x.kind, .int .i64 x.n, .slice oa x.rows.length oc] := plainAt (s := 103) (cs := []) (hv 5) rfl
              have h6 : f 6 = .agg #[.int .i64 x.kind, .int .i64 x.n, .slice oa x.rows.length oc] := plainAt (s := 104) (cs := []) (hv 6) rfl
              have h7 : f 7 = .bool true := plainAt (s := 105) (cs := []) (hv 7) rfl
              have h8 : f 8 = .bool true := plainAt (s := 106) (cs := []) (hv 8) rfl
              have h9 : f 9 = .bool true := plainAt (s := 107) (cs := []) (hv 9) rfl
              have h10 : f 10 = .pointer (some ⟨w1.heap.size, 2, none⟩) := plainAt (s := 108) (cs := []) (hv 10) rfl
              have h11 : f 11 = .slice xa x.rows.length xc := plainAt (s := 109) (cs := []) (hv 11) rfl
              have h12 : f 12 = .int .i64 ((x.rows.length : Nat) : Int) := plainAt (s := 110) (cs := []) (hv 12) rfl
              have h13 : f 13 = .bool true := plainAt (s := 111) (cs := []) (hv 13) rfl
              have h14 : f 14 = .bool true := plainAt (s := 112) (cs := []) (hv 14) rfl
              have h15 : f 15 = undef := plainAt (s := 113) (cs := []) (hv 15) rfl
              have h16 : f 16 = undef := plainAt (s := 114) (cs := []) (hv 16) rfl
              have h17 : f 17 = undef := plainAt (s := 115) (cs := []) (hv 17) rfl
              have h18 : f 18 = undef := plainAt (s := 116) (cs := []) (hv 18) rfl
              have h19 : f 19 = .bool true := plainAt (s := 117) (cs := []) (hv 19) rfl
              have h20 : f 20 = .bool true := plainAt (s := 118) (cs := []) (hv 20) rfl
              have h21 : f 21 = .bool true := plainAt (s := 6) (cs := []) (hv 21) rfl
              simp only [setN, Nat.reduceAdd, List.setIfInBounds_toArray, List.set_cons_zero, List.set_cons_succ]
              simp only [h0, h2, h3, h4, h5, h6, h7, h8, h9, h10, h11, h12, h13, h14, h15, h16, h17, h18, h19, h20, h21]
              clear h0 h2 h3 h4 h5 h6 h7 h8 h9 h10 h11 h12 h13 h14 h15 h16 h17 h18 h19 h20 h21
              have HLF := hide ((unhide HLR).trans (hbE.mono (unhide HLR).size))
              clear hv hp hne ho hbE
              go_wp2_with fail
              go_ret
              exact ⟨rfl, unhide HLF⟩
          · have e0 : (((x.rows.length : Nat) : Int) == 0) = false := by rw [beq_eq_false_iff_ne]; omega
            have HSD : Hid (∀ wz, Below wr.heap.size wr wz → Calls Tryd.prog 18 #[.agg #[.int .i64 x.kind, .int .i64 x.n, .slice ca x.rows.length cc], .agg #[.int .i64 x.kind, .int .i64 x.n, .slice oa x.rows.length oc]] wz fun e w' => e = .returned (.bool false) ∧ Below wz.heap.size wz w') := fun wz hb => by
              have h1 : StAt wz (.agg #[.int .i64 x.kind, .int .i64 x.n, .slice oa x.rows.length oc]) x := ⟨_, rfl, Row2.of_own (ownsRow_below (unhide HOSW) (hlow.trans (hb.mono hlow.size)))⟩
              have hlen := mk_len x.rows x.rows.length
              have h2 : StAt wz (.agg #[.int .i64 x.kind, .int .i64 x.n, .slice ca x.rows.length cc]) ⟨x.kind, x.n, mk x.rows.length x.rows⟩ := ⟨_, rfl, by
                have h3 := ownsRow_below hown hb
                have h4 : wz.ownsRow W6.heap.size 47 2 (.slice ca x.rows.length cc) (mk x.rows.length x.rows).length (R9 (mk x.rows.length x.rows)) := by rw [hlen]; exact h3
                exact Row2.of_own h4⟩
              have := vsame_any h2 h1
              rwa [show (VS.mk x.kind x.n (mk x.rows.length x.rows)).alike x = false by
                unfold VS.alike
                refine decide_eq_false fun h => ?_
                exact mk_ne x.rows (by omega) h.2.2] at this
            clear hown hlow h10 hn0
            go_upto_region 16 with fail
            refine regN [.val 98 (Res.plain (.agg #[.int .i64 x.kind, .int .i64 x.n, .slice oa x.rows.length oc]) []), .val 99 (Res.state (fun z => z = x) wr.heap.size 55), .val 100 (Res.plain (.agg #[.int .i64 x.kind, .int .i64 x.n, .slice xa x.rows.length xc]) []), .val 101 (Res.plain (.bool true) []), .val 102 (Res.plain (.bool true) []), .val 103 (Res.plain (.agg #[.int .i64 x.kind, .int .i64 x.n, .slice oa x.rows.length oc]) []), .val 104 (Res.plain (.agg #[.int .i64 x.kind, .int .i64 x.n, .slice oa x.rows.length oc]) []), .val 105 (Res.plain (.bool true) []), .val 106 (Res.plain (.bool true) []), .val 107 (Res.plain (.bool true) []), .val 108 (Res.plain (.pointer (some ⟨w1.heap.size, 2, none⟩)) []), .val 109 (Res.plain (.slice xa x.rows.length xc) []), .val 110 (Res.plain (.int .i64 ((x.rows.length : Nat) : Int)) []), .val 111 (Res.plain (.bool false) []), .val 112 (Res.plain (.bool false) []), .val 113 (Res.plain (.agg #[.int .i64 x.kind, .int .i64 x.n, .slice ca x.rows.length cc]) []), .val 114 (Res.plain (.agg #[.int .i64 x.kind, .int .i64 x.n, .slice oa x.rows.length oc]) []), .val 115 (Res.plain (.bool false) []), .val 116 (Res.plain (.bool true) []), .val 117 (Res.plain (.bool true) []), .val 118 (Res.plain (.bool true) []), .val 6 (Res.plain (.bool true) [])] (fun i => if i = 1 then [0] else if i = 3 then [1, 2] else if i = 4 then [3] else if i = 5 then [4] else if i = 6 then [4] else if i = 7 then [4, 5, 6] else if i = 8 then [4, 7] else if i = 9 then [8] else if i = 10 then [9] else if i = 11 then [9, 10] else if i = 12 then [9, 11] else if i = 13 then [9, 12] else if i = 14 then [9, 13] else if i = 15 then [14] else if i = 16 then [14] else if i = 17 then [14, 15, 16] else if i = 18 then [14, 17] else if i = 19 then [9, 14, 18] else if i = 20 then [9, 19] else if i = 21 then [20] else []) ?_ ?_ ?_ ?_ ?_ ?_ ?_ (fun i hi => ?_) ?_
            · kernel_rfl
            · rfl
            · kernel_rfl
            · kernel_rfl
            · kernel_rfl
            · kernel_rfl
            · kernel_rfl
            · have hc : i = 0 ∨ i = 1 ∨ i = 2 ∨ i = 3 ∨ i = 4 ∨ i = 5 ∨ i = 6 ∨ i = 7 ∨ i = 8 ∨ i = 9 ∨ i = 10 ∨ i = 11 ∨ i = 12 ∨ i = 13 ∨ i = 14 ∨ i = 15 ∨ i = 16 ∨ i = 17 ∨ i = 18 ∨ i = 19 ∨ i = 20 ∨ i = 21 := by have : i < 22 := hi; omega
              clear hi
              rcases hc with rfl | rfl | rfl | rfl | rfl | rfl | rfl | rfl | rfl | rfl | rfl | rfl | rfl | rfl | rfl | rfl | rfl | rfl | rfl | rfl | rfl | rfl
              · with_reducible refine DoesN.plain (s := 98) (v := .agg #[.int .i64 x.kind, .int .i64 x.n, .slice oa x.rows.length oc]) ?_ ?_
                · rfl
                intro f wz K hb hd hK
                obtain ⟨d0, d1, d2, _⟩ := cell3v ((hb.block _ (block_lt HS)).trans HS)
                simp only [setN, upd, Nat.reduceAdd, Nat.reduceEqDiff, reduceIte, List.setIfInBounds_toArray, List.set_cons_zero, List.set_cons_succ] at hK ⊢
                refine wpOp_do rfl (by kernel_rfl) ?_
                unfold Oper.wp execOp
                go_simp
                exact hK _ (Below.refl _ _)
              · with_reducible refine DoesN.val (s := 99) (R := (Res.state (fun z => z = x) wr.heap.size 55)) ?_ ?_
                · rfl
                intro f wz K hb hd hK
                have e0 : f 0 = .agg #[.int .i64 x.kind, .int .i64 x.n, .slice oa x.rows.length oc] := plainAt (s := 98) (cs := []) (hd 0 (by decide)) rfl
                simp only [setN, upd, Nat.reduceAdd, Nat.reduceEqDiff, reduceIte, List.setIfInBounds_toArray, List.set_cons_zero, List.set_cons_succ] at hK ⊢
                simp only [e0] at hK ⊢
                refine wpOp_do rfl (by kernel_rfl) ?_
                unfold Oper.wp execOp
                go_simp
                refine (unhide HTX _ hb).mono ?_
                rintro e w' ⟨v', rfl, ⟨kk, rfl, ho'⟩, hb'⟩
                obtain ⟨ka, kc, rfl, _⟩ := ownsRow_slice ho'
                exact hK _ _ hb' ⟨_, ka, kc, rfl, rfl, ownsRow_less ho' hb.size⟩ (fun k hk => Or.inl (ho'.lt k hk).1)
              · with_reducible refine DoesN.plain (s := 100) (v := .agg #[.int .i64 x.kind, .int .i64 x.n, .slice xa x.rows.length xc]) ?_ ?_
                · rfl
                intro f wz K hb hd hK
                obtain ⟨d0, d1, d2, _⟩ := cell3v ((hb.block _ (block_lt HX)).trans HX)
                simp only [setN, upd, Nat.reduceAdd, Nat.reduceEqDiff, reduceIte, List.setIfInBounds_toArray, List.set_cons_zero, List.set_cons_succ] at hK ⊢
                refine wpOp_do rfl (by kernel_rfl) ?_
                unfold Oper.wp execOp
                go_simp
                exact hK _ (Below.refl _ _)
              · with_reducible refine DoesN.plain (s := 101) (v := .bool true) ?_ ?_
                · rfl
                intro f wz K hb hd hK
                obtain ⟨z1, ka1, kc1, hz1, e1, ho1⟩ := factAt (s := 99) (R := (Res.state (fun z => z = x) wr.heap.size 55)) (hd 1 (by decide)) rfl
                have hw1 := (show _ = _ from hz1).symm
                subst hw1
                have e2 : f 2 = .agg #[.int .i64 x.kind, .int .i64 x.n, .slice xa x.rows.length xc] := plainAt (s := 100) (cs := []) (hd 2 (by decide)) rfl
                simp only [setN, upd, Nat.reduceAdd, Nat.reduceEqDiff, reduceIte, List.setIfInBounds_toArray, List.set_cons_zero, List.set_cons_succ] at hK ⊢
                simp only [e1, e2] at hK ⊢
                refine wpOp_do rfl (by kernel_rfl) ?_
                unfold Oper.wp execOp
                go_simp
                refine (unhide HLK _ _ _ _ ⟨_, rfl, Row2.of_own ho1⟩ (unhide HXA _ hb)).mono ?_
                rintro e w' ⟨rfl, hb'⟩
                exact hK _ hb'
              · with_reducible refine DoesN.plain (s := 102) (v := .bool true) ?_ ?_
                · rfl
                intro f wz K hb hd hK
                have e3 : f 3 = .bool true := plainAt (s := 101) (cs := []) (hd 3 (by decide)) rfl
                simp only [setN, upd, Nat.reduceAdd, Nat.reduceEqDiff, reduceIte, List.setIfInBounds_toArray, List.set_cons_zero, List.set_cons_succ] at hK ⊢
                simp only [e3] at hK ⊢
                refine wpOp_do rfl (by kernel_rfl) ?_
                unfold Oper.wp execOp
                go_simp
                exact hK _ (Below.refl _ _)
              · with_reducible refine DoesN.plain (s := 103) (v := .agg #[.int .i64 x.kind, .int .i64 x.n, .slice oa x.rows.length oc]) ?_ ?_
                · rfl
                intro f wz K hb hd hK
                have e4 : f 4 = .bool true := plainAt (s := 102) (cs := []) (hd 4 (by decide)) rfl
                obtain ⟨d0, d1, d2, _⟩ := cell3v ((hb.block _ (block_lt HS)).trans HS)
                simp only [setN, upd, Nat.reduceAdd, Nat.reduceEqDiff, reduceIte, List.setIfInBounds_toArray, List.set_cons_zero, List.set_cons_succ] at hK ⊢
                simp only [e4] at hK ⊢
                refine wpOp_do rfl (by kernel_rfl) ?_
                unfold Oper.wp execOp
                go_simp
                exact hK _ (Below.refl _ _)
              · with_reducible refine DoesN.plain (s := 104) (v := .agg #[.int .i64 x.kind, .int .i64 x.n, .slice oa x.rows.length oc]) ?_ ?_
                · rfl
                intro f wz K hb hd hK
                have e4 : f 4 = .bool true := plainAt (s := 102) (cs := []) (hd 4 (by decide)) rfl
                obtain ⟨d0, d1, d2, _⟩ := cell3v ((hb.block _ (block_lt HS)).trans HS)
                simp only [setN, upd, Nat.reduceAdd, Nat.reduceEqDiff, reduceIte, List.setIfInBounds_toArray, List.set_cons_zero, List.set_cons_succ] at hK ⊢
                simp only [e4] at hK ⊢
                refine wpOp_do rfl (by kernel_rfl) ?_
                unfold Oper.wp execOp
                go_simp
                exact hK _ (Below.refl _ _)
              · with_reducible refine DoesN.plain (s := 105) (v := .bool true) ?_ ?_
                · rfl
                intro f wz K hb hd hK
                have e4 : f 4 = .bool true := plainAt (s := 102) (cs := []) (hd 4 (by decide)) rfl
                have e5 : f 5 = .agg #[.int .i64 x.kind, .int .i64 x.n, .slice oa x.rows.length oc] := plainAt (s := 103) (cs := []) (hd 5 (by decide)) rfl
                have e6 : f 6 = .agg #[.int .i64 x.kind, .int .i64 x.n, .slice oa x.rows.length oc] := plainAt (s := 104) (cs := []) (hd 6 (by decide)) rfl
                simp only [setN, upd, Nat.reduceAdd, Nat.reduceEqDiff, reduceIte, List.setIfInBounds_toArray, List.set_cons_zero, List.set_cons_succ] at hK ⊢
                simp only [e4, e5, e6] at hK ⊢
                refine wpOp_do rfl (by kernel_rfl) ?_
                unfold Oper.wp execOp
                go_simp
                refine (unhide HSM _ hb).mono ?_
                rintro e w' ⟨rfl, hb'⟩
                exact hK _ hb'
              · with_reducible refine DoesN.plain (s := 106) (v := .bool true) ?_ ?_
                · rfl
                intro f wz K hb hd hK
                have e4 : f 4 = .bool true := plainAt (s := 102) (cs := []) (hd 4 (by decide)) rfl
                have e7 : f 7 = .bool true := plainAt (s := 105) (cs := []) (hd 7 (by decide)) rfl
                simp only [setN, upd, Nat.reduceAdd, Nat.reduceEqDiff, reduceIte, List.setIfInBounds_toArray, List.set_cons_zero, List.set_cons_succ] at hK ⊢
                simp only [e4, e7] at hK ⊢
                refine wpOp_do rfl (by kernel_rfl) ?_
                unfold Oper.wp execOp
                go_simp
                exact hK _ (Below.refl _ _)
              · with_reducible refine DoesN.plain (s := 107) (v := .bool true) ?_ ?_
                · rfl
                intro f wz K hb hd hK
                have e8 : f 8 = .bool true := plainAt (s := 106) (cs := []) (hd 8 (by decide)) rfl
                simp only [setN, upd, Nat.reduceAdd, Nat.reduceEqDiff, reduceIte, List.setIfInBounds_toArray, List.set_cons_zero, List.set_cons_succ] at hK ⊢
                simp only [e8] at hK ⊢
                refine wpOp_do rfl (by kernel_rfl) ?_
                unfold Oper.wp execOp
                go_simp
                exact hK _ (Below.refl _ _)
              · with_reducible refine DoesN.plain (s := 108) (v := .pointer (some ⟨w1.heap.size, 2, none⟩)) ?_ ?_
                · rfl
                intro f wz K hb hd hK
                have e9 : f 9 = .bool true := plainAt (s := 107) (cs := []) (hd 9 (by decide)) rfl
                simp only [setN, upd, Nat.reduceAdd, Nat.reduceEqDiff, reduceIte, List.setIfInBounds_toArray, List.set_cons_zero, List.set_cons_succ] at hK ⊢
                simp only [e9] at hK ⊢
                refine wpOp_do rfl (by kernel_rfl) ?_
                unfold Oper.wp execOp
                go_simp
                exact hK _ (Below.refl _ _)
              · with_reducible refine DoesN.plain (s := 109) (v := .slice xa x.rows.length xc) ?_ ?_
                · rfl
                intro f wz K hb hd hK
                have e9 : f 9 = .bool true := plainAt (s := 107) (cs := []) (hd 9 (by decide)) rfl
                have e10 : f 10 = .pointer (some ⟨w1.heap.size, 2, none⟩) := plainAt (s := 108) (cs := []) (hd 10 (by decide)) rfl
                obtain ⟨d0, d1, d2, _⟩ := cell3v ((hb.block _ (block_lt HX)).trans HX)
                simp only [setN, upd, Nat.reduceAdd, Nat.reduceEqDiff, reduceIte, List.setIfInBounds_toArray, List.set_cons_zero, List.set_cons_succ] at hK ⊢
                simp only [e9, e10] at hK ⊢
                refine wpOp_do rfl (by kernel_rfl) ?_
                unfold Oper.wp execOp
                go_simp
                exact hK _ (Below.refl _ _)
              · with_reducible refine DoesN.plain (s := 110) (v := .int .i64 ((x.rows.length : Nat) : Int)) ?_ ?_
                · rfl
                intro f wz K hb hd hK
                have e9 : f 9 = .bool true := plainAt (s := 107) (cs := []) (hd 9 (by decide)) rfl
                have e11 : f 11 = .slice xa x.rows.length xc := plainAt (s := 109) (cs := []) (hd 11 (by decide)) rfl
                simp only [setN, upd, Nat.reduceAdd, Nat.reduceEqDiff, reduceIte, List.setIfInBounds_toArray, List.set_cons_zero, List.set_cons_succ] at hK ⊢
                simp only [e9, e11] at hK ⊢
                refine wpOp_do rfl (by kernel_rfl) ?_
                unfold Oper.wp execOp
                go_simp
                exact hK _ (Below.refl _ _)
              · with_reducible refine DoesN.plain (s := 111) (v := .bool false) ?_ ?_
                · rfl
                intro f wz K hb hd hK
                have e9 : f 9 = .bool true := plainAt (s := 107) (cs := []) (hd 9 (by decide)) rfl
                have e12 : f 12 = .int .i64 ((x.rows.length : Nat) : Int) := plainAt (s := 110) (cs := []) (hd 12 (by decide)) rfl
                simp only [setN, upd, Nat.reduceAdd, Nat.reduceEqDiff, reduceIte, List.setIfInBounds_toArray, List.set_cons_zero, List.set_cons_succ] at hK ⊢
                simp only [e9, e12] at hK ⊢
                refine wpOp_do rfl (by kernel_rfl) ?_
                unfold Oper.wp execOp
                go_simp
                exact hK _ (Below.refl _ _)
              · with_reducible refine DoesN.plain (s := 112) (v := .bool false) ?_ ?_
                · rfl
                intro f wz K hb hd hK
                have e9 : f 9 = .bool true := plainAt (s := 107) (cs := []) (hd 9 (by decide)) rfl
                have e13 : f 13 = .bool false := plainAt (s := 111) (cs := []) (hd 13 (by decide)) rfl
                simp only [setN, upd, Nat.reduceAdd, Nat.reduceEqDiff, reduceIte, List.setIfInBounds_toArray, List.set_cons_zero, List.set_cons_succ] at hK ⊢
                simp only [e9, e13] at hK ⊢
                refine wpOp_do rfl (by kernel_rfl) ?_
                unfold Oper.wp execOp
                go_simp
                exact hK _ (Below.refl _ _)
              · with_reducible refine DoesN.plain (s := 113) (v := .agg #[.int .i64 x.kind, .int .i64 x.n, .slice ca x.rows.length cc]) ?_ ?_
                · rfl
                intro f wz K hb hd hK
                have e14 : f 14 = .bool false := plainAt (s := 112) (cs := []) (hd 14 (by decide)) rfl
                obtain ⟨d0, d1, d2, _⟩ := cell3v ((hb.block _ (block_lt H10)).trans H10)
                simp only [setN, upd, Nat.reduceAdd, Nat.reduceEqDiff, reduceIte, List.setIfInBounds_toArray, List.set_cons_zero, List.set_cons_succ] at hK ⊢
                simp only [e14] at hK ⊢
                refine wpOp_do rfl (by kernel_rfl) ?_
                unfold Oper.wp execOp
                go_simp
                exact hK _ (Below.refl _ _)
              · with_reducible refine DoesN.plain (s := 114) (v := .agg #[.int .i64 x.kind, .int .i64 x.n, .slice oa x.rows.length oc]) ?_ ?_
                · rfl
                intro f wz K hb hd hK
                have e14 : f 14 = .bool false := plainAt (s := 112) (cs := []) (hd 14 (by decide)) rfl
                obtain ⟨d0, d1, d2, _⟩ := cell3v ((hb.block _ (block_lt HS)).trans HS)
                simp only [setN, upd, Nat.reduceAdd, Nat.reduceEqDiff, reduceIte, List.setIfInBounds_toArray, List.set_cons_zero, List.set_cons_succ] at hK ⊢
                simp only [e14] at hK ⊢
                refine wpOp_do rfl (by kernel_rfl) ?_
                unfold Oper.wp execOp
                go_simp
                exact hK _ (Below.refl _ _)
              · with_reducible refine DoesN.plain (s := 115) (v := .bool false) ?_ ?_
                · rfl
                intro f wz K hb hd hK
                have e14 : f 14 = .bool false := plainAt (s := 112) (cs := []) (hd 14 (by decide)) rfl
                have e15 : f 15 = .agg #[.int .i64 x.kind, .int .i64 x.n, .slice ca x.rows.length cc] := plainAt (s := 113) (cs := []) (hd 15 (by decide)) rfl
                have e16 : f 16 = .agg #[.int .i64 x.kind, .int .i64 x.n, .slice oa x.rows.length oc] := plainAt (s := 114) (cs := []) (hd 16 (by decide)) rfl
                simp only [setN, upd, Nat.reduceAdd, Nat.reduceEqDiff, reduceIte, List.setIfInBounds_toArray, List.set_cons_zero, List.set_cons_succ] at hK ⊢
                simp only [e14, e15, e16] at hK ⊢
                refine wpOp_do rfl (by kernel_rfl) ?_
                unfold Oper.wp execOp
                go_simp
                refine (unhide HSD _ hb).mono ?_
                rintro e w' ⟨rfl, hb'⟩
                exact hK _ hb'
              · with_reducible refine DoesN.plain (s := 116) (v := .bool true) ?_ ?_
                · rfl
                intro f wz K hb hd hK
                have e14 : f 14 = .bool false := plainAt (s := 112) (cs := []) (hd 14 (by decide)) rfl
                have e17 : f 17 = .bool false := plainAt (s := 115) (cs := []) (hd 17 (by decide)) rfl
                simp only [setN, upd, Nat.reduceAdd, Nat.reduceEqDiff, reduceIte, List.setIfInBounds_toArray, List.set_cons_zero, List.set_cons_succ] at hK ⊢
                simp only [e14, e17] at hK ⊢
                refine wpOp_do rfl (by kernel_rfl) ?_
                unfold Oper.wp execOp
                go_simp
                exact hK _ (Below.refl _ _)
              · with_reducible refine DoesN.plain (s := 117) (v := .bool true) ?_ ?_
                · rfl
                intro f wz K hb hd hK
                have e9 : f 9 = .bool true := plainAt (s := 107) (cs := []) (hd 9 (by decide)) rfl
                have e14 : f 14 = .bool false := plainAt (s := 112) (cs := []) (hd 14 (by decide)) rfl
                have e18 : f 18 = .bool true := plainAt (s := 116) (cs := []) (hd 18 (by decide)) rfl
                simp only [setN, upd, Nat.reduceAdd, Nat.reduceEqDiff, reduceIte, List.setIfInBounds_toArray, List.set_cons_zero, List.set_cons_succ] at hK ⊢
                simp only [e9, e14, e18] at hK ⊢
                refine wpOp_do rfl (by kernel_rfl) ?_
                unfold Oper.wp execOp
                go_simp
                exact hK _ (Below.refl _ _)
              · with_reducible refine DoesN.plain (s := 118) (v := .bool true) ?_ ?_
                · rfl
                intro f wz K hb hd hK
                have e9 : f 9 = .bool true := plainAt (s := 107) (cs := []) (hd 9 (by decide)) rfl
                have e19 : f 19 = .bool true := plainAt (s := 117) (cs := []) (hd 19 (by decide)) rfl
                simp only [setN, upd, Nat.reduceAdd, Nat.reduceEqDiff, reduceIte, List.setIfInBounds_toArray, List.set_cons_zero, List.set_cons_succ] at hK ⊢
                simp only [e9, e19] at hK ⊢
                refine wpOp_do rfl (by kernel_rfl) ?_
                unfold Oper.wp execOp
                go_simp
                exact hK _ (Below.refl _ _)
              · with_reducible refine DoesN.plain (s := 6) (v := .bool true) ?_ ?_
                · rfl
                intro f wz K hb hd hK
                have e20 : f 20 = .bool true := plainAt (s := 118) (cs := []) (hd 20 (by decide)) rfl
                simp only [setN, upd, Nat.reduceAdd, Nat.reduceEqDiff, reduceIte, List.setIfInBounds_toArray, List.set_cons_zero, List.set_cons_succ] at hK ⊢
                simp only [e20] at hK ⊢
                refine wpOp_do rfl (by kernel_rfl) ?_
                unfold Oper.wp execOp
                go_simp
                exact hK _ (Below.refl _ _)
            · intro f wE hbE hv hp hne ho
              have h0 : f 0 = .agg #[.int .i64 x.kind, .int .i64 x.n, .slice oa x.rows.length oc] := plainAt (s := 98) (cs := []) (hv 0) rfl
              have h2 : f 2 = .agg #[.int .i64 x.kind, .int .i64 x.n, .slice xa x.rows.length xc] := plainAt (s := 100) (cs := []) (hv 2) rfl
              have h3 : f 3 = .bool true := plainAt (s := 101) (cs := []) (hv 3) rfl
              have h4 : f 4 = .bool true := plainAt (s := 102) (cs := []) (hv 4) rfl
              have h5 : f 5 = .agg #[.int .i64 x.kind, .int .i64 x.n, .slice oa x.rows.length oc] := plainAt (s := 103) (cs := []) (hv 5) rfl
              have h6 : f 6 = .agg #[.int .i64 x.kind, .int .i64 x.n, .slice oa x.rows.length oc] := plainAt (s := 104) (cs := []) (hv 6) rfl
              have h7 : f 7 = .bool true := plainAt (s := 105) (cs := []) (hv 7) rfl
              have h8 : f 8 = .bool true := plainAt (s := 106) (cs := []) (hv 8) rfl
              have h9 : f 9 = .bool true := plainAt (s := 107) (cs := []) (hv 9) rfl
              have h10 : f 10 = .pointer (some ⟨w1.heap.size, 2, none⟩) := plainAt (s := 108) (cs := []) (hv 10) rfl
              have h11 : f 11 = .slice xa x.rows.length xc := plainAt (s := 109) (cs := []) (hv 11) rfl
              have h12 : f 12 = .int .i64 ((x.rows.length : Nat) : Int) := plainAt (s := 110) (cs := []) (hv 12) rfl
              have h13 : f 13 = .bool false := plainAt (s := 111) (cs := []) (hv 13) rfl
              have h14 : f 14 = .bool false := plainAt (s := 112) (cs := []) (hv 14) rfl
              have h15 : f 15 = .agg #[.int .i64 x.kind, .int .i64 x.n, .slice ca x.rows.length cc] := plainAt (s := 113) (cs := []) (hv 15) rfl
              have h16 : f 16 = .agg #[.int .i64 x.kind, .int .i64 x.n, .slice oa x.rows.length oc] := plainAt (s := 114) (cs := []) (hv 16) rfl
              have h17 : f 17 = .bool false := plainAt (s := 115) (cs := []) (hv 17) rfl
              have h18 : f 18 = .bool true := plainAt (s := 116) (cs := []) (hv 18) rfl
              have h19 : f 19 = .bool true := plainAt (s := 117) (cs := []) (hv 19) rfl
              have h20 : f 20 = .bool true := plainAt (s := 118) (cs := []) (hv 20) rfl
              have h21 : f 21 = .bool true := plainAt (s := 6) (cs := []) (hv 21) rfl
              simp only [setN, Nat.reduceAdd, List.setIfInBounds_toArray, List.set_cons_zero, List.set_cons_succ]
              simp only [h0, h2, h3, h4, h5, h6, h7, h8, h9, h10, h11, h12, h13, h14, h15, h16, h17, h18, h19, h20, h21]
              clear h0 h2 h3 h4 h5 h6 h7 h8 h9 h10 h11 h12 h13 h14 h15 h16 h17 h18 h19 h20 h21
              have HLF := hide ((unhide HLR).trans (hbE.mono (unhide HLR).size))
              clear hv hp hne ho hbE
              go_wp2_with fail
              go_ret
              exact ⟨rfl, unhide HLF⟩
theorem valueRows_walk {H : Type} {enc : TypeId × Value → H} {base b0 : Nat} {spare : Nat → Bool} {held : Bool} {r : Reach} {v : Value} {d : DataW H} {p : List MemPlace} (w : World)
    (hv : Value.okWide Tryd.prog w r b0 24 v) (hd : DataW.Trod enc Tryd.prog w base spare held 24 v d p) (k1 : ByteArray) (w1 : k1.size ≤ maxLen) (k2 : ByteArray) (w2 : k2.size ≤ maxLen) (z : Int) (wz : (Lit.int .i64 z).wf = true) (hw : WD w) :
    Calls Tryd.prog 5 #[v, .agg #[.string k1, .string k2], .int .i64 z] w fun e w' => e = .returned (.bool true) ∧ Below w.heap.size w w' := by
  obtain ⟨s, hs, _, hsn, hsz⟩ := open_state hv hd
  exact vrows_any hs hsn hsz k1 k2 w1 w2 z hw
end Go.Proofs.YtlanogkijgapdaaDoor
