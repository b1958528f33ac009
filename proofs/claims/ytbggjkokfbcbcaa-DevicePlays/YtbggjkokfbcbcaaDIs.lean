/- The contract of the law's Is: a device is the document's. -/
import Derived.Test.YtbggjkokfbcbcaaDRef4
import Derived.Test.YtbggjkokfbcbcaaDRead
import Derived.Deep.QuietTactic
import Derived.BigQuiet
namespace Go.Proofs.Ytbggjkokfbcbcaa
open Go.RowKit
set_option linter.unusedVariables false

theorem DevAt.heap {base : Nat} {w w' : World} {b : Nat} {d : Dev} (h : DevAt base w b d) (e : w'.heap = w.heap) : DevAt base w' b d := by
  obtain ⟨sv, lv, h⟩ := h
  exact ⟨sv, lv, h.same (by rw [e]) (fun k _ => by rw [e]) (fun k _ => by rw [e])⟩
theorem d_below_drewN {B : Nat} {u w : World} (h : Below B u w) (n : Nat) : Below B u (w.drewN n) := ⟨h.os, h.tape, h.output, h.size, h.block⟩
theorem RIs.heap {base : Nat} {w w' : World} {lv cv : Value} {d : Dev} (h : RIs base w lv cv d) (e : w'.heap = w.heap) : RIs base w' lv cv d := ⟨ownsRow_same h.sec fun k _ => by rw [e], ownsRow_same h.loo fun k _ => by rw [e]⟩

set_option maxRecDepth 4000 in
set_option maxHeartbeats 3200000 in
theorem is_any {base base2 : Nat} {w : World} {b : Nat} {lv cv : Value} {d : Dev} (hd : DevAt base w b d) (h : RIs base2 w lv cv d) (hn : d.W.length ≤ 1099511627) (hm : d.L.length ≤ 1099511627) :
    Calls Try.prog 24 #[.pointer (some ⟨b, 0, none⟩), RV lv cv d] w fun e w' => e = .returned (.int .i64 0) ∧ Below w.heap.size w w' := by
  obtain ⟨a0, c0, rfl, ha0⟩ := ownsRow_slice h.sec
  obtain ⟨a1, c1, rfl, ha1⟩ := ownsRow_slice h.loo
  obtain ⟨w0, hw0⟩ : ∃ w0, w.alloc (.cells #[.slice a0 d.L.length c0, .slice a1 d.W.length c1, .int .i64 (rleft d), .bool d.down, .int .i64 (d.calls : Int)] 31) = w0 := ⟨_, rfl⟩
  have hb0 : Below w.heap.size w w0 := by rw [← hw0]; exact (Below.refl _ _).alloc (Nat.le_refl _) _
  have hx0 : w0.heap[w.heap.size]? = some (.cells #[.slice a0 d.L.length c0, .slice a1 d.W.length c1, .int .i64 (rleft d), .bool d.down, .int .i64 (d.calls : Int)] 31 (0, 0)) := by rw [← hw0]; exact heap_alloc_new w _
  have hd0 := (hd.later hb0).1
  have hr0 := h.later hb0
  obtain ⟨p0, p1, p2, p3, p4⟩ := cells5 hx0
  have HLEN := hide (fun n => len_any (hd0.heap (w' := w0.drewN n) rfl))
  have HLOO := hide (fun n => loose_any (hd0.heap (w' := w0.drewN n) rfl))
  have HDOW := hide (fun n => down_any (hd0.heap (w' := w0.drewN n) rfl))
  have HCAL := hide (fun n => calls_any (hd0.heap (w' := w0.drewN n) rfl))
  have HD0 := hide hd0
  have HR0 := hide hr0
  have HX0 := hide hx0
  have HB0 := hide hb0
  obtain ⟨M, hM⟩ : ∃ M, w.heap.size = M := ⟨_, rfl⟩
  rw [hM] at p0 p1 p2 p3 p4
  obtain ⟨n, hnn⟩ : ∃ n, d.L.length = n := ⟨_, rfl⟩
  have HNN := hide hnn
  unfold RV
  rw [hnn] at ha0 hm HLEN p0 hw0 ⊢
  generalize hq : d.W.length = q at *
  generalize hz : d.calls = c at *
  generalize hdn : d.down = dn at *
  generalize hrl : rleft d = z at *
  have HQ := hide hq
  have HZ := hide hz
  have HDN := hide hdn
  have HRL := hide hrl
  have b1 : ((n : Int) != (n : Int)) = false := by simp
  have b2 : ((q : Int) != (q : Int)) = false := by simp
  have b3 : (dn != dn) = false := by simp
  have b4 : ((c : Int) != (c : Int)) = false := by simp
  clear hd h hb0 hx0 hd0 hr0 hnn hq hz hdn hrl
  go_enter Try.func24, Try.ntmps24
  go_wp2_with fail
  go_quiet (first | (go_at_call 28; exact Calls.quiet_of_same (unhide HLEN _)) | (go_at_call 25; exact Calls.quiet_of_same (unhide HLOO _)) | (go_at_call 26; exact Calls.quiet_of_same (unhide HDOW _)) | (go_at_call 27; exact Calls.quiet_of_same (unhide HCAL _)))
  have HB1 := hide (d_below_drewN (unhide HB0) nq)
  have HD1 := hide ((unhide HD0).heap (w' := w0.drewN nq) rfl)
  have HR1 := hide ((unhide HR0).heap (w' := w0.drewN nq) rfl)
  have HX1 : Hid ((w0.drewN nq).heap[M]? = some (.cells #[.slice a0 n c0, .slice a1 q c1, .int .i64 z, .bool dn, .int .i64 (c : Int)] 31 (0, 0))) := by
    have := unhide HX0
    rw [hM, unhide HNN] at this
    exact this
  have hMlt := block_lt (unhide HX1)
  generalize w0.drewN nq = w1 at *
  clear HLEN HLOO HDOW HCAL HD0 HR0 HX0 HB0 p0 p1 p2 p3 p4 hw0 b1 b2 b3 b4
  have HIM := hide (image_any (unhide HD1) (by rw [unhide HNN]; omega))
  rw [unhide HNN] at HIM HR1
  go_wp2_with fail
  refine (unhide HIM).mono ?_
  rintro e w2 ⟨v2, rfl, ho2, hb2⟩
  obtain ⟨a3, c3, rfl, ha3⟩ := ownsRow_slice ho2
  have hx2 := (hb2.block M hMlt).trans (unhide HX1)
  obtain ⟨p0, p1, p2, p3, p4⟩ := cells5 hx2
  have HX2 := hide hx2
  have HO2 := hide ho2
  have HD2 := hide ((unhide HD1).later hb2).1
  have HR2 := hide ((unhide HR1).later hb2)
  have HB2 := hide ((unhide HB1).trans (hb2.mono (by rw [hM]; omega)))
  have hMlt2 := block_lt hx2
  clear hx2 ho2 hb2 HIM HX1 HD1 HR1 HB1
  go_wp2_with fail
  go_loopw [51] (fun i wr => ∃ k : Nat, k ≤ n ∧ i = .int .i64 k ∧ Below w2.heap.size w2 wr) (fun i _ => n - (intOf i).toNat)
  case atStart => exact ⟨0, Nat.zero_le _, rfl, Below.refl _ _⟩
  case round =>
    obtain ⟨k, hk, rfl, hb⟩ := hrel
    clear p0 p1 p2 p3 p4
    have hbs := hb.size
    by_cases hlt : k < n
    · have hkL : k < d.L.length := by have := unhide HNN; omega
      obtain ⟨g0, rfl⟩ := ha0 (by omega)
      obtain ⟨g3, rfl⟩ := ha3 (by omega)
      have hr3 := (unhide HR2).later hb
      have hd3 := ((unhide HD2).later hb).1
      have hc0 := ownsRow_cell hr3.sec (g := g0) (c := c0) (by rw [unhide HNN]) k (.string (S (d.L[k]'hkL))) (by simp [secs, List.getElem?_eq_getElem hkL])
      have hc3 := ownsRow_cell (ownsRow_later (unhide HO2) hb) (g := g3) (c := c3) rfl k (.string (S (d.L[k]'hkL))) (by simp [secs, List.getElem?_eq_getElem hkL])
      have HRD := hide (dread_any hd3 (k : Int) (by rw [unhide HQ]; omega))
      have HRR := hide (fun wx (hb : Below wr.heap.size wr wx) => rread_any (hr3.later hb) (k : Int) (by rw [unhide HQ]; omega))
      have hx3 := (hb.block M hMlt2).trans (unhide HX2)
      unfold RV at HRR
      rw [unhide HZ, unhide HDN, unhide HRL] at HRR
      generalize d.L[k]'hkL = s at *
      generalize d.read (k : Int) = t at *
      generalize d.readE (k : Int) = r at *
      have HB := hide hb
      have HX3 := hide hx3
      have hi1 : (0 : Int) ≤ (k : Int) := by omega
      have hi2 : (k : Int) < (n : Int) := by omega
      clear hb hr3 hd3 hx3
      go_wp2_with fail
      refine (unhide HRD).mono ?_
      rintro e w4 ⟨rfl, hb4⟩
      have hx4 := (hb4.block M (by omega)).trans (unhide HX3)
      obtain ⟨p0, p1, p2, p3, p4⟩ := cells5 hx4
      have HR4 := hide (unhide HRR w4 hb4)
      have HB4 := hide ((unhide HB).trans (hb4.mono hbs))
      have hs4 := hb4.size
      clear hb4 hx4 HRD HRR hc0 hc3
      go_wp2_with fail
      refine (unhide HR4).mono ?_
      rintro e w5 ⟨rfl, hb5⟩
      have HB5 := hide ((unhide HB4).trans (hb5.mono (by omega)))
      clear hb5 HR4 p0 p1 p2 p3 p4
      go_wp2_with fail
      go_roundw
      case rel => exact ⟨k + 1, by omega, by go_num, unhide HB5⟩
      case measure => simp [intOf]; omega
    · have : k = n := by omega
      subst this
      have HB := hide hb
      clear hb
      go_wp2_with fail
      go_ret
      exact ⟨rfl, by rw [hM] at *; exact (unhide HB2).trans ((unhide HB).mono (by have := (unhide HB2).size; omega))⟩
end Go.Proofs.Ytbggjkokfbcbcaa
