/- The contracts of wal's small calls. -/
import Derived.Test.YtajcaglbbdbibaaDoorSDev
import Derived.Test.YtajcaglbbdbibaaDoorDFlush
import Derived.Test.YtajcaglbbdbibaaDoorDSpoil
import Derived.Test.YtajcaglbbdbibaaDoorWShelf
import Derived.Test.YtajcaglbbdbibaaDoorWMath
import Derived.Deep.QuietTactic
import Derived.BigQuiet
namespace Go.Proofs.YtajcaglbbdbibaaDoor
open Go.RowKit
set_option linter.unusedVariables false
set_option maxRecDepth 100000

def AV (fr ln : Int) : Value := .agg #[.int .i64 fr, .int .i64 ln]
def areaE (d : Dev) (fr ln : Int) : Int := if ln < 2 ∨ fr < 0 ∨ (d.L.length : Int) - ln < fr then 4 else 0
def WL (b : Nat) (fr ln head next : Int) : Obj := .cells #[.pointer (some ⟨b, 0, none⟩), .int .i64 fr, .int .i64 ln, .int .i64 head, .int .i64 next] 66 (0, 0)

theorem wdev_heap {base : Nat} {w w' : World} {b : Nat} {d : Dev} (h : DevAt base w b d) (e : w'.heap = w.heap) : DevAt base w' b d := by
  obtain ⟨sv, lv, h⟩ := h
  exact ⟨sv, lv, h.same (by rw [e]) (fun k _ => by rw [e]) (fun k _ => by rw [e])⟩
theorem w_below_drewN {B : Nat} {u w : World} (h : Below B u w) (n : Nat) : Below B u (w.drewN n) := ⟨h.os, h.tape, h.output, h.size, h.block⟩

theorem acheck_any {base : Nat} {w : World} {b : Nat} {d : Dev} (h : DevAt base w b d) (fr ln : Int) (hm : d.L.length ≤ 65536) (hln : ln ≤ 9223372036854775807) :
    Calls Tryd.prog 30 #[AV fr ln, .pointer (some ⟨b, 0, none⟩)] w fun e w' => e = .returned (.int .i64 (areaE d fr ln)) ∧ Below w.heap.size w w' := by
  unfold AV
  obtain ⟨w0, hw0⟩ : ∃ w0, w.alloc (.cells #[.int .i64 fr, .int .i64 ln] 25) = w0 := ⟨_, rfl⟩
  have hb0 : Below w.heap.size w w0 := by rw [← hw0]; exact (Below.refl _ _).alloc (Nat.le_refl _) _
  have hx0 : w0.heap[w.heap.size]? = some (.cells #[.int .i64 fr, .int .i64 ln] 25 (0, 0)) := by rw [← hw0]; exact heap_alloc_new w _
  have p0 := bcell hx0 0
  have p1 := bcell hx0 1
  simp only [List.getElem?_toArray, List.getElem?_cons_zero, List.getElem?_cons_succ] at p0 p1
  have HLEN := hide (fun n => dlen_any (wdev_heap (h.later hb0).1 (w' := w0.drewN n) rfl))
  have HB0 := hide hb0
  obtain ⟨E, hE⟩ : ∃ E, areaE d fr ln = E := ⟨_, rfl⟩
  rw [hE]
  unfold areaE at hE
  generalize d.L.length = q at *
  clear h hb0 hx0
  by_cases h1 : ln < 2
  · have d1 : decide (ln < 2) = true := decide_eq_true h1
    rw [if_pos (Or.inl h1)] at hE
    subst hE
    go_enter Tryd.func30, Tryd.ntmps30
    go_wp2_with fail
    go_quiet (fail)
    go_wp2
    go_ret
    exact ⟨rfl, w_below_drewN (unhide HB0) _⟩
  · have d1 : decide (ln < 2) = false := decide_eq_false h1
    by_cases h2 : fr < 0
    · have d2 : decide (fr < 0) = true := decide_eq_true h2
      rw [if_pos (Or.inr (Or.inl h2))] at hE
      subst hE
      go_enter Tryd.func30, Tryd.ntmps30
      go_wp2_with fail
      go_quiet (fail)
      go_wp2
      go_ret
      exact ⟨rfl, w_below_drewN (unhide HB0) _⟩
    · have d2 : decide (fr < 0) = false := decide_eq_false h2
      have hw6 : wrap64 ((q : Int) - ln) = (q : Int) - ln := by unfold wrap64; omega
      have hwI : IntKind.i64.wrap ((q : Int) - ln) = (q : Int) - ln := by rw [IntKind.wrap_i64]; omega
      by_cases h3 : (q : Int) - ln < fr
      · have d3 : decide ((q : Int) - ln < fr) = true := decide_eq_true h3
        rw [if_pos (Or.inr (Or.inr h3))] at hE
        subst hE
        go_enter Tryd.func30, Tryd.ntmps30
        go_wp2_with fail
        go_quiet (first | (go_at_call 45; exact Calls.quiet_of_same (unhide HLEN _)))
        go_wp2
        go_ret
        exact ⟨rfl, w_below_drewN (unhide HB0) _⟩
      · have d3 : decide ((q : Int) - ln < fr) = false := decide_eq_false h3
        rw [if_neg (by omega)] at hE
        subst hE
        go_enter Tryd.func30, Tryd.ntmps30
        go_wp2_with fail
        go_quiet (first | (go_at_call 45; exact Calls.quiet_of_same (unhide HLEN _)))
        go_wp2
        go_ret
        exact ⟨rfl, w_below_drewN (unhide HB0) _⟩

def place (fr ln a : Nat) : Nat := fr + a % ln
theorem place_any (fr ln a : Nat) (w : World) (h1 : 1 ≤ ln) (h2 : ln ≤ 65536) (h3 : fr ≤ 65536) (h4 : a ≤ 4398046511104) :
    Calls Tryd.prog 27 #[AV fr ln, .int .i64 (a : Int)] w fun e w' => e = .returned (.int .i64 (place fr ln a : Nat)) ∧ Below w.heap.size w w' := by
  unfold AV
  obtain ⟨w0, hw0⟩ : ∃ w0, w.alloc (.cells #[.int .i64 (fr : Int), .int .i64 (ln : Int)] 25) = w0 := ⟨_, rfl⟩
  have hb0 : Below w.heap.size w w0 := by rw [← hw0]; exact (Below.refl _ _).alloc (Nat.le_refl _) _
  have hx0 : w0.heap[w.heap.size]? = some (.cells #[.int .i64 (fr : Int), .int .i64 (ln : Int)] 25 (0, 0)) := by rw [← hw0]; exact heap_alloc_new w _
  have p0 := bcell hx0 0
  have p1 := bcell hx0 1
  simp only [List.getElem?_toArray, List.getElem?_cons_zero, List.getElem?_cons_succ] at p0 p1
  have HB0 := hide hb0
  have hlt : a % ln < ln := Nat.mod_lt _ (by omega)
  have HZ : Hid (fr + a % ln = place fr ln a) := rfl
  have e1 : (a : Int).tmod (ln : Int) = ((a % ln : Nat) : Int) := by rw [Int.ofNat_tmod]
  have hne : ((ln : Int) == 0) = false := by simp; omega
  have hnz : (ln : Int) ≠ 0 := by omega
  generalize a % ln = r at *
  generalize place fr ln a = z at *
  clear hb0 hx0
  go_enter Tryd.func27, Tryd.ntmps27
  go_wp2_with fail
  go_quiet (fail)
  go_wp2
  go_ret
  refine ⟨ret_int ?_, w_below_drewN (unhide HB0) _⟩
  have hz := unhide HZ
  rw [Int.emod_eq_of_lt (by omega) (by omega)]
  unfold wrap64
  omega

theorem isStamp_any (i : Int) (w : World) :
    Calls Tryd.prog 36 #[.int .i64 i] w fun e w' => e = .returned (.bool (decide (1 ≤ i ∧ i ≤ 1099511627776))) ∧ w' = w := by
  by_cases h1 : 1 ≤ i
  · by_cases h2 : i ≤ 1099511627776
    · go_enter Tryd.func36, Tryd.ntmps36
      go_wp2
      go_ret
      exact ⟨ret_bool (by simp [h1, h2]), rfl⟩
    · go_enter Tryd.func36, Tryd.ntmps36
      go_wp2
      go_ret
      exact ⟨ret_bool (by simp; omega), rfl⟩
  · go_enter Tryd.func36, Tryd.ntmps36
    go_wp2
    go_ret
    exact ⟨ret_bool (by simp; omega), rfl⟩

theorem follows_any (m : Nat) (o : Bool) (w : World) (hm : m < 256) :
    Calls Tryd.prog 31 #[.int .u8 (m : Int), .bool o] w fun e w' => e = .returned (.bool (decide (m ≤ 3 ∧ (m % 2 = 0 ↔ o = true)))) ∧ w' = w := by
  by_cases h : m ≤ 3
  · have : m = 0 ∨ m = 1 ∨ m = 2 ∨ m = 3 := by omega
    rcases this with rfl | rfl | rfl | rfl <;> cases o <;>
    · go_enter Tryd.func31, Tryd.ntmps31
      go_wp2
      go_ret
      exact ⟨ret_bool (by decide), rfl⟩
  · have h2 : ¬ (m : Int) ≤ 3 := by omega
    go_enter Tryd.func31, Tryd.ntmps31
    go_wp2
    go_ret
    exact ⟨ret_bool (by simp), rfl⟩

theorem wcost_any (n : Nat) (w : World) (h : n ≤ 1099511627776) :
    Calls Tryd.prog 21 #[.int .i64 (n : Int)] w fun e w' => e = .returned (.int .i64 (Codec.cost n : Nat)) ∧ w' = w := by
  by_cases h1 : n = 0
  · subst h1
    go_enter Tryd.func21, Tryd.ntmps21
    go_wp2
    go_ret
    exact ⟨rfl, rfl⟩
  · have h2 : ¬ (n : Int) < 1 := by omega
    have HZ : Hid ((n - 1) / 44 + 1 = Codec.cost n) := by unfold Codec.cost; rw [if_neg h1]; exact rfl
    generalize Codec.cost n = z at *
    go_enter Tryd.func21, Tryd.ntmps21
    go_wp2
    go_ret
    refine ⟨ret_int ?_, rfl⟩
    have hz := unhide HZ
    omega
theorem wcost_neg (w : World) :
    Calls Tryd.prog 21 #[.int .i64 (-5)] w fun e w' => e = .returned (.int .i64 1) ∧ w' = w := by
  go_enter Tryd.func21, Tryd.ntmps21
  go_wp2
  go_ret
  exact ⟨rfl, rfl⟩

theorem refCost_any (n : Nat) (w : World) (h : n ≤ 1099511627776) :
    Calls Tryd.prog 10 #[.int .i64 (n : Int)] w fun e w' => e = .returned (.int .i64 (Codec.cost n : Nat)) ∧ w' = w := by
  have hup := Codec.cost_up n
  have hlow := Codec.cost_low n
  have hpos := Codec.cost_pos n
  have hbig : Codec.cost n ≤ n + 1 := Codec.cost_le n (n + 1) (by omega) (by omega)
  generalize Codec.cost n = z at *
  have HUP := hide hup
  have HLOW := hide hlow
  clear hup hlow
  go_enter Tryd.func10, Tryd.ntmps10
  go_wp2
  go_loopw [3] (fun i wr => ∃ k : Nat, 1 ≤ k ∧ k ≤ z ∧ i = .int .i64 k ∧ wr = w) (fun i _ => z - (intOf i).toNat)
  case atStart => exact ⟨1, Nat.le_refl _, hpos, rfl, rfl⟩
  case round =>
    obtain ⟨k, hk1, hk2, rfl, rfl⟩ := hrel
    have e1 : wrap64 (44 * (k : Int)) = 44 * (k : Int) := by unfold wrap64; omega
    by_cases hlt : k < z
    · have h1 : (44 : Int) * (k : Int) < (n : Int) := by have := unhide HLOW; omega
      go_wp2
      go_roundw
      case rel => exact ⟨k + 1, by omega, by omega, by go_num, by trivial⟩
      case measure => simp [intOf]; omega
    · have hkz : k = z := by omega
      have h1 : ¬ (44 : Int) * (k : Int) < (n : Int) := by have := unhide HUP; omega
      subst hkz
      go_wp2
      go_ret
      exact ⟨rfl, rfl⟩

theorem beyond_any (fr ln : Int) (n : Nat) (w : World) (hl : 0 ≤ ln ∧ ln ≤ 65536) (hn : n ≤ 1099511627776) :
    Calls Tryd.prog 23 #[AV fr ln, .int .i64 (n : Int)] w fun e w' => e = .returned (.int .i64 ((n : Int) + ln)) ∧ Below w.heap.size w w' := by
  unfold AV
  have e1 : wrap64 ((n : Int) + ln) = (n : Int) + ln := by unfold wrap64; omega
  go_enter Tryd.func23, Tryd.ntmps23
  go_wp2
  go_ret
  exact ⟨rfl, (Below.refl _ _).alloc (Nat.le_refl _) _⟩

section
variable {w : World} {lb b : Nat} {fr ln head next : Int}
theorem wl_cells (h : w.heap[lb]? = some (WL b fr ln head next)) : w.cell? ⟨lb, 0, none⟩ = some (.pointer (some ⟨b, 0, none⟩)) ∧ w.cell? ⟨lb, 1, none⟩ = some (.int .i64 fr) ∧ w.cell? ⟨lb, 2, none⟩ = some (.int .i64 ln) ∧ w.cell? ⟨lb, 3, none⟩ = some (.int .i64 head) ∧ w.cell? ⟨lb, 4, none⟩ = some (.int .i64 next) :=
  ⟨by rw [bcell h]; rfl, by rw [bcell h]; rfl, by rw [bcell h]; rfl, by rw [bcell h]; rfl, by rw [bcell h]; rfl⟩
theorem wl_froz (h : w.heap[lb]? = some (WL b fr ln head next)) (k : Nat) : w.frozen? ⟨lb, k, none⟩ = false := bfroz h k

theorem head_any (h : w.heap[lb]? = some (WL b fr ln head next)) :
    Calls Tryd.prog 15 #[.pointer (some ⟨lb, 0, none⟩)] w fun e w' => e = .returned (.int .i64 head) ∧ w' = w := by
  obtain ⟨c0, c1, c2, c3, c4⟩ := wl_cells h
  clear h
  go_enter Tryd.func15, Tryd.ntmps15
  go_wp2
  go_ret
  exact ⟨rfl, rfl⟩
theorem next_any (h : w.heap[lb]? = some (WL b fr ln head next)) :
    Calls Tryd.prog 16 #[.pointer (some ⟨lb, 0, none⟩)] w fun e w' => e = .returned (.int .i64 next) ∧ w' = w := by
  obtain ⟨c0, c1, c2, c3, c4⟩ := wl_cells h
  clear h
  go_enter Tryd.func16, Tryd.ntmps16
  go_wp2
  go_ret
  exact ⟨rfl, rfl⟩
theorem free_any (h : w.heap[lb]? = some (WL b fr ln head next)) (h1 : 0 ≤ head) (h2 : head ≤ next) (h3 : next ≤ 4398046511104) (h4 : 0 ≤ ln) (h5 : ln ≤ 65536) :
    Calls Tryd.prog 17 #[.pointer (some ⟨lb, 0, none⟩)] w fun e w' => e = .returned (.int .i64 (ln - (next - head))) ∧ ∃ n, w' = w.drewN n := by
  obtain ⟨c0, c1, c2, c3, c4⟩ := wl_cells h
  clear h
  have e1 : wrap64 (next - head) = next - head := by unfold wrap64; omega
  have e2 : wrap64 (ln - (next - head)) = ln - (next - head) := by unfold wrap64; omega
  go_enter Tryd.func17, Tryd.ntmps17
  go_wp2
  go_quiet (fail)
  go_wp2
  go_ret
  exact ⟨rfl, nq, rfl⟩
theorem trim_no (h : w.heap[lb]? = some (WL b fr ln head next)) (q : Int) (hn : q < head ∨ next < q) :
    Calls Tryd.prog 14 #[.pointer (some ⟨lb, 0, none⟩), .int .i64 q] w fun e w' => e = .returned (.int .i64 4) ∧ w' = w := by
  obtain ⟨c0, c1, c2, c3, c4⟩ := wl_cells h
  clear h
  by_cases h1 : q < head
  · go_enter Tryd.func14, Tryd.ntmps14
    go_wp2
    go_ret
    exact ⟨rfl, rfl⟩
  · have h2 : next < q := by omega
    go_enter Tryd.func14, Tryd.ntmps14
    go_wp2
    go_ret
    exact ⟨rfl, rfl⟩
theorem trim_ok (h : w.heap[lb]? = some (WL b fr ln head next)) (q : Int) (h1 : ¬ q < head) (h2 : ¬ next < q) :
    Calls Tryd.prog 14 #[.pointer (some ⟨lb, 0, none⟩), .int .i64 q] w fun e w' => e = .returned (.int .i64 0) ∧ w' = w.setCell ⟨lb, 3, none⟩ (.int .i64 q) := by
  obtain ⟨c0, c1, c2, c3, c4⟩ := wl_cells h
  have f3 := wl_froz h 3
  clear h
  go_enter Tryd.func14, Tryd.ntmps14
  go_wp2
  go_ret
  exact ⟨rfl, rfl⟩
theorem wl_head (h : w.heap[lb]? = some (WL b fr ln head next)) (q : Int) : (w.setCell ⟨lb, 3, none⟩ (.int .i64 q)).heap[lb]? = some (WL b fr ln q next) := heap_setCell_same w lb 3 _ _ _ h
theorem wl_next (h : w.heap[lb]? = some (WL b fr ln head next)) (q : Int) : (w.setCell ⟨lb, 4, none⟩ (.int .i64 q)).heap[lb]? = some (WL b fr ln head q) := heap_setCell_same w lb 4 _ _ _ h
end

theorem breset (b : Nat) (p v : Value) (w : World) (h : w.heap[b]? = some (.cells #[p, v] 75 (0, 0))) :
    Calls Tryd.prog 34 #[.pointer (some ⟨b, 0, none⟩)] w fun e w' => e = .returned (.tuple #[]) ∧ w' = (w.setCell ⟨b, 0, none⟩ (.pointer none)).setCell ⟨b, 1, none⟩ (.slice none 0 0) := by
  have c0 := bcell h 0
  have c1 := bcell h 1
  have f0 := bfroz h 0
  have f1 := bfroz h 1
  simp only [List.getElem?_toArray, List.getElem?_cons_zero, List.getElem?_cons_succ] at c0 c1
  clear h
  go_enter Tryd.func34, Tryd.ntmps34
  go_wp2_with fail
  go_end0
  exact ⟨rfl, rfl⟩
end Go.Proofs.YtajcaglbbdbibaaDoor
