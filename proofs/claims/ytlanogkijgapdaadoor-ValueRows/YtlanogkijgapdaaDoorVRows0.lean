/- Without of any place, and what a clone's rows come to: for ValueRows. -/
import Derived.Test.YtlanogkijgapdaaDoorTRGone
import Derived.Test.YtlanogkijgapdaaDoorTClone
import Derived.Test.YtlanogkijgapdaaDoorVLike
namespace Go.Proofs.YtlanogkijgapdaaDoor
open Go.RowKit
set_option linter.unusedVariables false
set_option maxRecDepth 100000

set_option maxHeartbeats 6400000 in
theorem rwithoutZ_any {w : World} {v : Value} {s : VS} (h : StAt w v s) (hs : s.rows.length ≤ 1000) (P : Nat) (z : Int) (hz : ∀ k : Nat, k < s.rows.length → ((k : Int) = z ↔ k = P)) :
    Calls Tryd.prog 28 #[v, .int .i64 z] w fun e w' => ∃ v', e = .returned v' ∧ StOwn w.heap.size 55 w' v' (s.without P) ∧ Below w.heap.size w w' := by
  obtain ⟨i0, hi, hz0, hz1, hz2⟩ := info_parts info_rrow
  obtain ⟨k0, rfl, hr⟩ := h
  obtain ⟨a, c, rfl, hc, hm⟩ := hr.shape
  unfold maxLen at hm
  obtain ⟨kd, n, rows⟩ := s
  unfold VS.without
  dsimp only at *
  have HROW := hide hr
  have HZ := hide hz
  clear hz
  have HER := hide (fun (k : Nat) (hk : k < rows.length) => erase_step rows P k hk)
  have HLE := hide (fun (k : Nat) => erase_len rows P k)
  obtain ⟨ef, hef⟩ : ∃ ef : Nat → List (List UInt8 × List UInt8), (fun k => (rows.take k).eraseIdx P) = ef := ⟨_, rfl⟩
  have hef' : ∀ k, (rows.take k).eraseIdx P = ef k := fun k => by rw [← hef]
  simp only [hef'] at HER HLE
  have hend : rows.eraseIdx P = ef rows.length := by rw [← hef', List.take_length]
  have he0 : ef 0 = [] := by rw [← hef']; simp
  rw [hend]
  clear hend hef hef'
  have HST := hide (B2.start w (.cells #[.int .i64 kd, .int .i64 n, .slice a rows.length c] 29) (.cells #[.int .i64 0, .int .i64 0, .slice none 0 0] 29))
  clear hr
  go_enter Tryd.func28, Tryd.ntmps28
  go_wp2_with fail
  go_loopw [5, 12] (fun o i wr => ∃ k : Nat, k ≤ rows.length ∧ i = .int .i64 (k : Int) ∧ wr.ownsRow (w.heap.size + 1 + 1) 55 2 o (ef k).length (R9 (ef k)) ∧ B2 w (.cells #[.int .i64 kd, .int .i64 n, .slice a rows.length c] 29 (0, 0)) (.cells #[.int .i64 0, .int .i64 0, .slice none 0 0] 29 (0, 0)) wr) (fun _ i _ => rows.length - (intOf i).toNat)
  case atStart => exact ⟨0, Nat.zero_le _, rfl, by rw [he0]; exact own_none _ _ _ (by simp) (by simp), (unhide HST).on (under_box _)⟩
  case round =>
    obtain ⟨k, hk, rfl, hown, hbx⟩ := hrel
    obtain ⟨oa, oc, rfl, _⟩ := ownsRow_slice hown
    have hlow := hbx.low
    have HOW := hide hown
    have HBX := hide hbx
    have HSZ : Hid (w.heap.size + 1 + 1 ≤ wr.heap.size) := hbx.blocks.2.2
    have HLK := hide (unhide HLE k)
    by_cases hlt : k < rows.length
    · obtain ⟨b, off, rfl, hbl, e1, e2⟩ := (unhide HROW).at k hlt
      rw [← hlow.cell (p := ⟨b, off + k * 2, none⟩) hbl] at e1
      rw [← hlow.cell (p := ⟨b, off + k * 2 + 1, none⟩) hbl] at e2
      have hne : wr.heap.size ≠ b := by have := hlow.size; omega
      have HKN := hide (unhide HER k hlt)
      generalize rows[k]'hlt = r at *
      obtain ⟨x, y⟩ := r
      dsimp only at *
      have hi0 : (0 : Int) ≤ (k : Int) := by omega
      have hi1 : (k : Int) < ((rows.length : Nat) : Int) := by omega
      clear hown hbx hlow HER HLE HST HROW
      by_cases hkp : k = P
      · have z0 : ((k : Int) != z) = false := by rw [(unhide HZ k hlt).2 hkp]; simp
        have HK2 : Hid (ef (k + 1) = ef k) := by show _ = _; rw [unhide HKN, if_pos hkp]
        clear HKN hkp
        go_wp2_with fail
        go_roundw
        case rel => exact ⟨k + 1, by omega, by go_num, by rw [unhide HK2]; exact ownsRow_below (unhide HOW) (under_box _), (unhide HBX).on (under_box _)⟩
        case measure => simp [intOf]; omega
      · have z0 : ((k : Int) != z) = true := by rw [bne_iff_ne]; exact fun e => hkp ((unhide HZ k hlt).1 e)
        have HK2 : Hid (ef (k + 1) = ef k ++ [(x, y)]) := by show _ = _; rw [unhide HKN, if_neg hkp]
        clear HKN hkp
        go_wp2_with (first | (at_builtin; refine wpList_append_fresh rfl _ _ 27 rfl (w.heap.size + 1 + 1) 55 i0 (.agg #[.string ⟨#[]⟩, .string ⟨#[]⟩]) 2 32 under_rrows hi hz0 hz1 hz2 rfl (by decide) _ _ _ rfl (((unhide HOW).alloc _).alloc _) ⟨wr.heap.size + 1, 0, none⟩ 1 1 [.string (S x), .string (S y)] rfl rfl (by have := pair_new (wr.alloc (.cells #[.string (S x), .string (S y)] 55)) (.string (S x)) (.string (S y)) 55; first | exact this | rwa [World.size_alloc] at this) ?c2 ?c3 ?c4 ?c5 ?_) | fail)
        case c2 => intro u hu; simp at hu; rcases hu with rfl | rfl <;> rfl
        case c3 => have := unhide HLK; unfold maxLen; omega
        case c4 => have := unhide HLK; omega
        case c5 => have := unhide HSZ; simp; omega
        intro v' w2 hown' hgrow _
        obtain ⟨va, vc, rfl, _⟩ := ownsRow_slice hown'
        have hb2 : Below (w.heap.size + 1 + 1) wr w2 := (((Below.refl (w.heap.size + 1 + 1) wr).alloc (unhide HSZ) _).alloc (by have := unhide HSZ; simp; omega) _).grown hgrow (by have := unhide HSZ; simp; omega) (fun j hj => ((unhide HOW).lt j hj).1)
        have HB2 : Hid (B2 w (.cells #[.int .i64 kd, .int .i64 n, .slice (some ⟨b, off, none⟩) rows.length c] 29 (0, 0)) (.cells #[.int .i64 0, .int .i64 0, .slice none 0 0] 29 (0, 0)) w2) := Below.trans (unhide HBX) hb2
        have HN : Hid (w2.ownsRow (w.heap.size + 1 + 1) 55 2 (.slice va ((ef k).length + 1) vc) (ef (k + 1)).length (R9 (ef (k + 1)))) := by
          show World.ownsRow _ _ _ _ _ _ _
          rw [unhide HK2, List.length_append, R9_append]
          exact hown'
        clear hown' hgrow hb2
        go_wp2_with fail
        go_roundw
        case rel => exact ⟨k + 1, by omega, by go_num, unhide HN, unhide HB2⟩
        case measure => simp [intOf]; omega
    · have hkn : k = rows.length := by omega
      subst hkn
      obtain ⟨⟨c0, c1, c2⟩, _⟩ := hbx.facts
      obtain ⟨z0, z1, z2, zl, zo, y0, y1, y2, f1⟩ := give3 hbx.low (by omega) hbx.blocks.2.1 (.int .i64 kd) (.int .i64 n) (.slice oa (ef rows.length).length oc)
      have ZO := hide (zo _ _ _ _ _ _ (by omega) hown)
      unfold put3 at z0 z1 z2 zl ZO
      have ZL := hide zl
      clear hown hlow hbx HOW HBX HER HLE HST HROW zo zl
      go_wp2_with fail
      exact bodyPost_ret (v := .agg #[.int .i64 kd, .int .i64 n, .slice oa (ef rows.length).length oc]) (by simp [results, Tryd.results28, go_sem, z0, z1, z2]) rfl ⟨_, rfl, ⟨_, rfl, unhide ZO⟩, unhide ZL⟩
set_option maxHeartbeats 6400000 in
theorem vwithout_out {base : Nat} {w : World} {v : Value} {s : VS} (h : StOwn base 47 w v s) (hs : s.rows.length ≤ 1000) (z : Int) (hz : z < 0 ∨ (s.rows.length : Int) ≤ z) :
    Calls Tryd.prog 23 #[v, .int .i64 z] w fun e w' => ∃ v', e = .returned v' ∧ StOwn w.heap.size 47 w' v' s ∧ Below w.heap.size w w' := by
  have HC := hide (fun (w1 : World) (hb : Below w.heap.size w w1) => vclone_any (h.later hb) hs)
  obtain ⟨k0, rfl, hr⟩ := h
  obtain ⟨a, c, rfl, _⟩ := ownsRow_slice hr
  have HST := hide (B2.start w (.cells #[.int .i64 s.kind, .int .i64 s.n, .slice a s.rows.length c] 24) (.cells #[.int .i64 0, .int .i64 0, .slice none 0 0] 24))
  clear hr
  rcases (show z < 0 ∨ (¬ z < 0 ∧ (s.rows.length : Int) ≤ z) by omega) with hz | ⟨hz, hz2⟩
  all_goals
    go_enter Tryd.func23, Tryd.ntmps23
    go_wp2_with fail
    refine (unhide HC _ (unhide HST).low).mono ?_
    rintro e w1 ⟨v1, rfl, ⟨k1, rfl, ho⟩, hb⟩
    obtain ⟨ka, kc, rfl, _⟩ := ownsRow_slice ho
    have hx1 := (unhide HST).on hb
    obtain ⟨z0, z1, z2, zl, zo, y0, y1, y2, f1⟩ := give3 hx1.low (by omega) hx1.blocks.2.1 (.int .i64 s.kind) (.int .i64 s.n) (.slice ka s.rows.length kc)
    have ZO := hide (zo _ _ _ _ _ _ (by have := (unhide HST).blocks.2.2; omega) ho)
    unfold put3 at z0 z1 z2 zl ZO
    have ZL := hide zl
    clear hx1 hb ho zo zl HC HST
    go_wp2_with fail
    exact bodyPost_ret (v := .agg #[.int .i64 s.kind, .int .i64 s.n, .slice ka s.rows.length kc]) (by simp [results, Tryd.results23, go_sem, z0, z1, z2]) rfl ⟨_, rfl, ⟨_, rfl, unhide ZO⟩, unhide ZL⟩
end Go.Proofs.YtlanogkijgapdaaDoor
