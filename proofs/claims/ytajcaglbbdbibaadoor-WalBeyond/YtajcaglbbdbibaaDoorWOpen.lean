/- The contracts of Open and of the law's area and begin. -/
import Derived.Test.YtajcaglbbdbibaaDoorWCalls
import Derived.Test.YtajcaglbbdbibaaDoorDNew
namespace Go.Proofs.YtajcaglbbdbibaaDoor
open Go.RowKit
set_option linter.unusedVariables false
set_option maxRecDepth 100000

structure LogAt (base : Nat) (w : World) (b lb : Nat) (d : Dev) (fr ln head next : Int) : Prop where
  dev : DevAt base w b d
  lo : base ≤ lb
  log : w.heap[lb]? = some (WL b fr ln head next)
  far : DFor w b lb

set_option maxHeartbeats 1600000 in
theorem open_ok {base : Nat} {w : World} {b : Nat} {d : Dev} (h : DevAt base w b d) (fr ln next : Int) (hm : d.L.length ≤ 65536) (hln : ln ≤ 9223372036854775807) (ha : areaE d fr ln = 0) (h1 : 1 ≤ next) (h2 : next ≤ 1099511627776) (hB : base ≤ w.heap.size) :
    Calls Tryd.prog 22 #[.pointer (some ⟨b, 0, none⟩), AV fr ln, .int .i64 next] w fun e w' => ∃ lb, e = .returned (.tuple #[.pointer (some ⟨lb, 0, none⟩), .int .i64 0]) ∧ w.heap.size ≤ lb ∧ LogAt base w' b lb d fr ln next next ∧ Below w.heap.size w w' := by
  have HCH := hide (fun wy (hb : DevAt base wy b d) => acheck_any hb fr ln hm hln)
  have HST := hide (fun wy => isStamp_any next wy)
  rw [ha] at HCH
  rw [decide_eq_true (show 1 ≤ next ∧ next ≤ 1099511627776 from ⟨h1, h2⟩)] at HST
  clear ha h1 h2
  unfold AV at *
  go_enter Tryd.func22, Tryd.ntmps22
  go_wp2_with fail
  refine (unhide HCH _ (h.later ((Below.refl _ _).alloc (Nat.le_refl _) _)).1).mono ?_
  rintro e w1 ⟨rfl, hb1⟩
  have hx1 : w1.heap[w.heap.size]? = some (.cells #[.int .i64 fr, .int .i64 ln] 25 (0, 0)) := (hb1.block w.heap.size (by simp)).trans (heap_alloc_new w _)
  have hb : Below w.heap.size w w1 := ((Below.refl _ w).alloc (Nat.le_refl _) (.cells #[.int .i64 fr, .int .i64 ln] 25)).trans (hb1.mono (by simp))
  have HB := hide hb
  have p0 := bcell hx1 0
  have p1 := bcell hx1 1
  simp only [List.getElem?_toArray, List.getElem?_cons_zero, List.getElem?_cons_succ] at p0 p1
  clear hb1 hx1 hb HCH
  go_wp2_with fail
  refine (unhide HST _).mono ?_
  rintro e w2 ⟨rfl, rfl⟩
  go_wp2_with fail
  go_ret2
  have hb := unhide HB
  have hd1 := (h.later hb).1
  have hb2 : Below w2.heap.size w2 (w2.alloc (WL b fr ln next next)) := (Below.refl _ _).alloc (Nat.le_refl _) _
  refine ⟨w2.heap.size, rfl, hb.size, ⟨(hd1.later hb2).1, ?_, heap_alloc_new w2 _, ?_⟩, hb.alloc hb.size _⟩
  · have := hb.size; omega
  · exact (DFor.new hd1 (Nat.le_refl _)).same (hb2.block b hd1.lt)

set_option maxHeartbeats 1600000 in
theorem open_no {base : Nat} {w : World} {b : Nat} {d : Dev} (h : DevAt base w b d) (fr ln next : Int) (hm : d.L.length ≤ 65536) (hln : ln ≤ 9223372036854775807) (hE : (if areaE d fr ln ≠ 0 then areaE d fr ln else if 1 ≤ next ∧ next ≤ 1099511627776 then 0 else 18) ≠ 0) :
    Calls Tryd.prog 22 #[.pointer (some ⟨b, 0, none⟩), AV fr ln, .int .i64 next] w fun e w' => e = .returned (.tuple #[.pointer none, .int .i64 (if areaE d fr ln ≠ 0 then areaE d fr ln else if 1 ≤ next ∧ next ≤ 1099511627776 then 0 else 18)]) ∧ Below w.heap.size w w' := by
  have HCH := hide (fun wy (hb : DevAt base wy b d) => acheck_any hb fr ln hm hln)
  have HST := hide (fun wy => isStamp_any next wy)
  unfold AV at *
  by_cases ha : areaE d fr ln = 0
  · rw [if_neg (by simpa using ha)] at hE ⊢
    by_cases hs : 1 ≤ next ∧ next ≤ 1099511627776
    · rw [if_pos hs] at hE; exact absurd rfl hE
    rw [if_neg hs]
    rw [ha] at HCH
    rw [decide_eq_false hs] at HST
    clear ha hs hE
    go_enter Tryd.func22, Tryd.ntmps22
    go_wp2_with fail
    refine (unhide HCH _ (h.later ((Below.refl _ _).alloc (Nat.le_refl _) _)).1).mono ?_
    rintro e w1 ⟨rfl, hb1⟩
    have HB : Hid (Below w.heap.size w w1) := ((Below.refl _ w).alloc (Nat.le_refl _) (.cells #[.int .i64 fr, .int .i64 ln] 25)).trans (hb1.mono (by simp))
    clear hb1 HCH
    go_wp2_with fail
    refine (unhide HST _).mono ?_
    rintro e w2 ⟨rfl, rfl⟩
    go_wp2_with fail
    go_ret2
    exact ⟨rfl, unhide HB⟩
  · rw [if_pos ha]
    generalize areaE d fr ln = z at *
    clear hE HST
    go_enter Tryd.func22, Tryd.ntmps22
    go_wp2_with fail
    refine (unhide HCH _ (h.later ((Below.refl _ _).alloc (Nat.le_refl _) _)).1).mono ?_
    rintro e w1 ⟨rfl, hb1⟩
    have HB : Hid (Below w.heap.size w w1) := ((Below.refl _ w).alloc (Nat.le_refl _) (.cells #[.int .i64 fr, .int .i64 ln] 25)).trans (hb1.mono (by simp))
    clear hb1 HCH
    go_wp2_with fail
    go_ret2
    exact ⟨rfl, unhide HB⟩

set_option maxHeartbeats 1600000 in
theorem begin_log (fr ln next : Int) (w : World) (hln : ln ≤ 9223372036854775807) (ha : areaE (Dev.new 24) fr ln = 0) (h1 : 1 ≤ next) (h2 : next ≤ 1099511627776) :
    Calls Tryd.prog 8 #[AV fr ln, .int .i64 next] w fun e w' => ∃ b lb, e = .returned (.tuple #[.pointer (some ⟨b, 0, none⟩), .pointer (some ⟨lb, 0, none⟩), .bool true]) ∧ LogAt w.heap.size w' b lb (Dev.new 24) fr ln next next ∧ Below w.heap.size w w' := by
  have HNEW := hide (fun wy => new_ok 24 wy (by omega) (by omega))
  have HOP := hide (fun b base wy (hb : DevAt base wy b (Dev.new 24)) (hB : base ≤ wy.heap.size) => open_ok hb fr ln next (by simp [Dev.new]) hln ha h1 h2 hB)
  clear ha h1 h2
  unfold AV at *
  go_enter Tryd.func8, Tryd.ntmps8
  go_wp2_with fail
  refine (unhide HNEW _).mono ?_
  rintro e w1 ⟨b, rfl, hd1, hb1⟩
  have hx1 : w1.heap[w.heap.size]? = some (.cells #[.int .i64 fr, .int .i64 ln] 25 (0, 0)) := (hb1.block w.heap.size (by simp)).trans (heap_alloc_new w _)
  have hb : Below w.heap.size w w1 := ((Below.refl _ w).alloc (Nat.le_refl _) (.cells #[.int .i64 fr, .int .i64 ln] 25)).trans (hb1.mono (by simp))
  have HB := hide hb
  have HD : Hid (DevAt w.heap.size w1 b (Dev.new 24)) := by
    obtain ⟨sv, lv, h⟩ := hd1
    exact ⟨sv, lv, by have := h.lo; simp at this; omega, h.blk, ownsRow_less h.sec (by simp), ownsRow_less h.loo (by simp)⟩
  have p0 := bcell hx1 0
  have p1 := bcell hx1 1
  simp only [List.getElem?_toArray, List.getElem?_cons_zero, List.getElem?_cons_succ] at p0 p1
  clear hb1 hx1 hb hd1 HNEW
  go_wp2_with fail
  refine (unhide HOP b w.heap.size w1 (unhide HD) (unhide HB).size).mono ?_
  rintro e w2 ⟨lb, rfl, hlb, hl2, hb2⟩
  have HL := hide hl2
  have HB2 := hide ((unhide HB).trans (hb2.mono (unhide HB).size))
  clear hlb hl2 hb2 HOP
  go_wp2_with fail
  refine bodyPost_ret (v := .tuple #[.pointer (some ⟨b, 0, none⟩), .pointer (some ⟨lb, 0, none⟩), .bool true]) (by simp [results, Tryd.results8, go_sem]) rfl ?_
  exact ⟨b, lb, rfl, unhide HL, unhide HB2⟩
end Go.Proofs.YtajcaglbbdbibaaDoor
