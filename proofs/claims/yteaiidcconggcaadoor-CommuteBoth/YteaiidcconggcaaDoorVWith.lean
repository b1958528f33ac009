/- The contract of With. -/
import Derived.Test.YteaiidcconggcaaDoorVConcat
import Derived.Test.YteaiidcconggcaaDoorVWords
import Derived.BigQuiet
import Derived.Deep.DeepCutAuto
import Derived.Deep.CutBlock
namespace Go.Proofs.YteaiidcconggcaaDoor
open Go.RowKit
set_option linter.unusedVariables false
set_option maxRecDepth 100000

/- Where a row's key stands, of the first n rows. -/
def place (rows : List (List UInt8 × List UInt8)) (key : List UInt8) : Nat → Nat
  | 0 => 0
  | m + 1 => if Codec.lt key (rows.getD m ([], [])).1 = true then place rows key m else m + 1
theorem place_le (rows : List (List UInt8 × List UInt8)) (key : List UInt8) : ∀ n, place rows key n ≤ n
  | 0 => Nat.le_refl _
  | m + 1 => by
    unfold place
    split
    · exact Nat.le_succ_of_le (place_le rows key m)
    · exact Nat.le_refl _
def VS.spot (s : VS) (key : List UInt8) : Nat := if s.kind = 6 then s.rows.length else place s.rows key s.rows.length
theorem VS.spot_le (s : VS) (key : List UInt8) : s.spot key ≤ s.rows.length := by
  unfold VS.spot
  split
  · exact Nat.le_refl _
  · exact place_le _ _ _
def VS.with (s : VS) (r : List UInt8 × List UInt8) : VS := ⟨s.kind, s.n, s.rows.take (s.spot r.1) ++ [r] ++ s.rows.drop (s.spot r.1)⟩
theorem vrow_one {w : World} {b : Nat} {x y : List UInt8} {t : TypeId} (h : w.heap[b]? = some (.cells #[.string (S x), .string (S y)] t (0, 0))) : Row2 w (.slice (some ⟨b, 0, none⟩) 1 1) [(x, y)] := by
  refine ⟨_, 1, rfl, Nat.le_refl _, by simp [maxLen], fun e => (by cases e), fun i u hu => ⟨b, 0, rfl, block_lt h, ?_⟩⟩
  rw [Nat.zero_add, block_cell h]
  match i, hu with
  | 0, hu => exact hu
  | 1, hu => exact hu
  | i + 2, hu => simp [R9] at hu
theorem vconcat3 {w : World} {v1 v2 v3 : Value} {l1 l2 l3 : List (List UInt8 × List UInt8)} {b : Nat} (hblk : w.heap[b]? = some (.cells #[v1, v2, v3] 45 (0, 0))) (h1 : Row2 w v1 l1) (h2 : Row2 w v2 l2) (h3 : Row2 w v3 l3) (hb : l1.length + l2.length + l3.length ≤ 3000) :
    Calls Tryd.prog 76 #[.slice (some ⟨b, 0, none⟩) 3 3] w fun e w' => ∃ v', e = .returned v' ∧ w'.ownsRow w.heap.size 82 2 v' (l1 ++ l2 ++ l3).length (R9 (l1 ++ l2 ++ l3)) ∧ Below w.heap.size w w' := by
  have h := vconcat_any [l1, l2, l3] [v1, v2, v3] b 3 w rfl rfl hblk (fun i hi1 hi2 => by
    simp at hi1
    match i, hi1 with
    | 0, _ => exact h1
    | 1, _ => exact h2
    | 2, _ => exact h3) (by decide) (by simp; omega)
  rw [show [l1, l2, l3].flatten = l1 ++ l2 ++ l3 by simp] at h
  exact h
theorem vconcat2 {w : World} {v1 v2 : Value} {l1 l2 : List (List UInt8 × List UInt8)} {b : Nat} (hblk : w.heap[b]? = some (.cells #[v1, v2] 45 (0, 0))) (h1 : Row2 w v1 l1) (h2 : Row2 w v2 l2) (hb : l1.length + l2.length ≤ 3000) :
    Calls Tryd.prog 76 #[.slice (some ⟨b, 0, none⟩) 2 2] w fun e w' => ∃ v', e = .returned v' ∧ w'.ownsRow w.heap.size 82 2 v' (l1 ++ l2).length (R9 (l1 ++ l2)) ∧ Below w.heap.size w w' := by
  have h := vconcat_any [l1, l2] [v1, v2] b 2 w rfl rfl hblk (fun i hi1 hi2 => by
    simp at hi1
    match i, hi1 with
    | 0, _ => exact h1
    | 1, _ => exact h2) (by decide) (by simpa using hb)
  simpa using h

theorem elem_vrows : Tryd.prog.underlying 45 = some (.slice (Tryd.prog.elem 45)) := by kernel_rfl
theorem two_vrow (w : World) : (sizeOf (Tryd.prog.elem 45)).run Tryd.prog w = .ok 2 w := Tryd.sizeOf82 w
/- A row of rows, cut at a place. -/
theorem Row2.ahead {w : World} {a : Option Addr} {n c : Nat} {l : List (List UInt8 × List UInt8)} (h : Row2 w (.slice a n c) l) (j : Nat) (hj : j ≤ l.length) :
    ∃ a' c', (∀ wx, (Instr.slice 45 (.slice a n c) none (some (.int .i64 (j : Int))) none).run Tryd.prog wx = .ok (.slice a' j c') wx) ∧ Row2 w (.slice a' j c') (l.take j) := by
  obtain ⟨a0, c0, e0, h1, h2, h0, h3⟩ := h
  injection e0 with e1 e2 e3
  subst e1 e2 e3
  have hrow : Row2 w (.slice a l.length c) l := ⟨a, c, rfl, h1, h2, h0, h3⟩
  have hrun : ∀ wx, (Instr.slice 45 (.slice a l.length c) none (some (.int .i64 (j : Int))) none).run Tryd.prog wx = .ok (sliced a 0 j c 2) wx := fun wx => by
    rw [run_slice_h wx 45 a l.length c elem_vrows .i64 (j : Int) (by omega) (by omega), two_vrow]
    simp [Result.andThen]
  unfold sliced at hrun
  have := hrow.part 0 j (Nat.zero_le _) hj (if c = 0 then a else a.map (·.add (0 * 2))) (fun hp => ?_) (fun hn => ?_)
  · simp only [Nat.sub_zero, List.drop_zero] at this hrun
    exact ⟨_, _, hrun, this⟩
  · obtain ⟨b, off, rfl, _, _⟩ := h3 0 _ (R9_get l 0 (by omega)).1
    exact ⟨b, off, rfl, by rw [if_neg (by omega)]; simp [plain_add]⟩
  · by_cases hc : c = 0
    · omega
    · rw [if_neg hc] at hn
      have : a = none := by simpa using hn
      have := h0 this
      omega
theorem Row2.behind {w : World} {a : Option Addr} {n c : Nat} {l : List (List UInt8 × List UInt8)} (h : Row2 w (.slice a n c) l) (j : Nat) (hj : j ≤ l.length) :
    ∃ a' c', (∀ wx, (Instr.slice 45 (.slice a n c) (some (.int .i64 (j : Int))) none none).run Tryd.prog wx = .ok (.slice a' (l.length - j) c') wx) ∧ Row2 w (.slice a' (l.length - j) c') (l.drop j) := by
  obtain ⟨a0, c0, e0, h1, h2, h0, h3⟩ := h
  injection e0 with e1 e2 e3
  subst e1 e2 e3
  have hrow : Row2 w (.slice a l.length c) l := ⟨a, c, rfl, h1, h2, h0, h3⟩
  have hrun : ∀ wx, (Instr.slice 45 (.slice a l.length c) (some (.int .i64 (j : Int))) none none).run Tryd.prog wx = .ok (sliced a j l.length c 2) wx := fun wx => by
    rw [run_slice_l wx 45 a l.length c elem_vrows .i64 (j : Int) (by omega) (by omega), two_vrow]
    simp [Result.andThen]
  unfold sliced at hrun
  have := hrow.part j l.length hj (Nat.le_refl _) (if c = j then a else a.map (·.add (j * 2))) (fun hp => ?_) (fun hn => ?_)
  · rw [List.take_length] at this
    exact ⟨_, _, hrun, this⟩
  · obtain ⟨b, off, rfl, _, _⟩ := h3 0 _ (R9_get l 0 (by omega)).1
    exact ⟨b, off, rfl, by rw [if_neg (by omega)]; simp [plain_add]⟩
  · by_cases hc : c = j
    · omega
    · rw [if_neg hc] at hn
      have : a = none := by simpa using hn
      have := h0 this
      omega

theorem valloc_new {w : World} {o : Obj} {k : Nat} (h : w.heap.size = k) : (w.alloc o).heap[k]? = some o := by subst h; exact heap_alloc_new w o
theorem valloc_old {w : World} {o : Obj} {k : Nat} {x : Obj} (h : k < w.heap.size) (hx : w.heap[k]? = some x) : (w.alloc o).heap[k]? = some x := (Below.heap_alloc w o k h).trans hx
theorem vlow_two {w wr : World} {B : Nat} (h : Below B w wr) (hB : B ≤ wr.heap.size) (o o' : Obj) : Below B w (((wr.alloc o).alloc o').drew) := ((h.alloc hB o).alloc (by simp; omega) o').drew
/- Three boxes: a state's, a row's, a result's. -/
structure Bw (w : World) (kd n sl x y : Value) (wr : World) : Prop where
  low : Below w.heap.size w wr
  size : w.heap.size + 1 + 1 + 1 ≤ wr.heap.size
  st : ∃ t, wr.heap[w.heap.size]? = some (.cells #[kd, n, sl] t (0, 0))
  row : ∃ t, wr.heap[w.heap.size + 1]? = some (.cells #[x, y] t (0, 0))
  res : ∃ a b c t, wr.heap[w.heap.size + 1 + 1]? = some (.cells #[a, b, c] t (0, 0))
theorem Bw.below {w wr w' : World} {kd n sl x y : Value} (h : Bw w kd n sl x y wr) (hb : Below wr.heap.size wr w') : Bw w kd n sl x y w' := by
  have hs := h.size
  obtain ⟨t1, h1⟩ := h.st
  obtain ⟨t2, h2⟩ := h.row
  obtain ⟨a, b, c, t3, h3⟩ := h.res
  exact ⟨h.low.trans (hb.mono (by omega)), Nat.le_trans hs hb.size, ⟨t1, (hb.block _ (by omega)).trans h1⟩, ⟨t2, (hb.block _ (by omega)).trans h2⟩, ⟨a, b, c, t3, (hb.block _ (by omega)).trans h3⟩⟩

theorem Bw.start (w : World) (kd n sl x y a b c : Value) (t t' t'' : TypeId) : Bw w kd n sl x y (((w.alloc (.cells #[kd, n, sl] t)).alloc (.cells #[x, y] t')).alloc (.cells #[a, b, c] t'')) := by
  refine ⟨((Below.refl _ _).alloc (Nat.le_refl _) _ |>.alloc (by simp) _).alloc (by simp; omega) _, by simp, ⟨t, ?_⟩, ⟨t', ?_⟩, ⟨a, b, c, t'', ?_⟩⟩
  · rw [Below.heap_alloc _ _ _ (by simp; omega), Below.heap_alloc _ _ _ (by simp)]; exact heap_alloc_new w _
  · rw [Below.heap_alloc _ _ _ (by simp)]
    have := heap_alloc_new (w.alloc (.cells #[kd, n, sl] t)) (.cells #[x, y] t')
    rwa [World.size_alloc] at this
  · have := heap_alloc_new ((w.alloc (.cells #[kd, n, sl] t)).alloc (.cells #[x, y] t')) (.cells #[a, b, c] t'')
    rwa [World.size_alloc, World.size_alloc] at this
theorem Bw.facts {w wr : World} {kd n sl x y : Value} (h : Bw w kd n sl x y wr) : (wr.cell? ⟨w.heap.size, 0, none⟩ = some kd ∧ wr.cell? ⟨w.heap.size, 1, none⟩ = some n ∧ wr.cell? ⟨w.heap.size, 2, none⟩ = some sl) ∧ (wr.cell? ⟨w.heap.size + 1, 0, none⟩ = some x ∧ wr.cell? ⟨w.heap.size + 1, 1, none⟩ = some y) ∧ (wr.frozen? ⟨w.heap.size, 2, none⟩ = false) ∧ (∀ j, wr.frozen? ⟨w.heap.size + 1 + 1, j, none⟩ = false) := by
  obtain ⟨t1, h1⟩ := h.st
  obtain ⟨t2, h2⟩ := h.row
  obtain ⟨a, b, c, t3, h3⟩ := h.res
  refine ⟨⟨?_, ?_, ?_⟩, ⟨?_, ?_⟩, block_frozen h1 2, fun j => block_frozen h3 j⟩
  · rw [block_cell h1]; rfl
  · rw [block_cell h1]; rfl
  · rw [block_cell h1]; rfl
  · rw [block_cell h2]; rfl
  · rw [block_cell h2]; rfl

/- The same, whatever the state's rows are. -/
def Bv (w : World) (kd n x y : Value) (wr : World) : Prop := ∃ sl, Bw w kd n sl x y wr
theorem Bv.below {w wr w' : World} {kd n x y : Value} (h : Bv w kd n x y wr) (hb : Below wr.heap.size wr w') : Bv w kd n x y w' := by
  obtain ⟨sl, h⟩ := h
  exact ⟨sl, h.below hb⟩
theorem Bv.alloc {w wr : World} {kd n x y : Value} (h : Bv w kd n x y wr) (o : Obj) : Bv w kd n x y (wr.alloc o) := h.below (under_box o)
theorem Bv.drew {w wr : World} {kd n x y : Value} (h : Bv w kd n x y wr) : Bv w kd n x y wr.drew := h.below (Below.refl _ _).drew
theorem Bv.undrew {w wr : World} {kd n x y : Value} (h : Bv w kd n x y wr.drew) : Bv w kd n x y wr := h.below ⟨rfl, rfl, rfl, Nat.le_refl _, fun k hk => rfl⟩
theorem Bv.put {w wr : World} {kd n x y : Value} (h : Bv w kd n x y wr) (z : Value) : Bv w kd n x y (wr.setCell ⟨w.heap.size, 2, none⟩ z) := by
  obtain ⟨sl, h⟩ := h
  obtain ⟨t1, h1⟩ := h.st
  obtain ⟨t2, h2⟩ := h.row
  obtain ⟨a, b, c, t3, h3⟩ := h.res
  refine ⟨z, ⟨h.low.os, h.low.tape, h.low.output, by simpa using h.low.size, fun k hk => ?_⟩, by simpa using h.size, ⟨t1, ?_⟩, ⟨t2, ?_⟩, ⟨a, b, c, t3, ?_⟩⟩
  · rw [heap_setCell_other _ ⟨w.heap.size, 2, none⟩ _ _ (by simp; omega)]; exact h.low.block k hk
  · have := heap_setCell_same wr w.heap.size 2 _ _ z h1
    simpa [Array.setIfInBounds] using this
  · rw [heap_setCell_other _ ⟨w.heap.size, 2, none⟩ _ _ (by simp)]; exact h2
  · rw [heap_setCell_other _ ⟨w.heap.size, 2, none⟩ _ _ (by simp; omega)]; exact h3
theorem Bv.row0 {w : World} {kd n x y : Value} : ∀ wr, Bv w kd n x y wr → wr.cell? ⟨w.heap.size + 1, 0, none⟩ = some x := fun wr ⟨_, h⟩ => h.facts.2.1.1
theorem Bv.row1 {w : World} {kd n x y : Value} : ∀ wr, Bv w kd n x y wr → wr.cell? ⟨w.heap.size + 1, 1, none⟩ = some y := fun wr ⟨_, h⟩ => h.facts.2.1.2

/- The end of With: the row is laid, the state, with its new rows, handed back. -/
theorem Bw.done {w wr : World} {kd n sl x y : Value} (h : Bw w kd n sl x y wr) (z a b c : Value) :
    (put3 (wr.setCell ⟨w.heap.size, 2, none⟩ z) (w.heap.size + 1 + 1) a b c).cell? ⟨w.heap.size + 1 + 1, 0, none⟩ = some a ∧ (put3 (wr.setCell ⟨w.heap.size, 2, none⟩ z) (w.heap.size + 1 + 1) a b c).cell? ⟨w.heap.size + 1 + 1, 1, none⟩ = some b ∧ (put3 (wr.setCell ⟨w.heap.size, 2, none⟩ z) (w.heap.size + 1 + 1) a b c).cell? ⟨w.heap.size + 1 + 1, 2, none⟩ = some c ∧
    Below w.heap.size w (put3 (wr.setCell ⟨w.heap.size, 2, none⟩ z) (w.heap.size + 1 + 1) a b c) ∧
    ∀ (u : Value) (nn : Nat) (xs : List Value) (e : TypeId), wr.ownsRow (w.heap.size + 1 + 1 + 1) e 2 u nn xs → (put3 (wr.setCell ⟨w.heap.size, 2, none⟩ z) (w.heap.size + 1 + 1) a b c).ownsRow w.heap.size e 2 u nn xs := by
  obtain ⟨a0, b0, c0, t3, h3⟩ := h.res
  have h3' : (wr.setCell ⟨w.heap.size, 2, none⟩ z).heap[w.heap.size + 1 + 1]? = some (.cells #[a0, b0, c0] t3 (0, 0)) := by
    rw [heap_setCell_other _ ⟨w.heap.size, 2, none⟩ _ _ (by simp; omega)]; exact h3
  obtain ⟨p0, p1, p2⟩ := put3_cells h3' a b c
  refine ⟨p0, p1, p2, ⟨h.low.os, h.low.tape, h.low.output, by rw [put3_size]; simpa using h.low.size, fun k hk => ?_⟩, fun u nn xs e hu => ownsRow_less (ownsRow_same hu fun k hk => ?_) (by omega)⟩
  · rw [put3_other _ _ _ _ (by omega), heap_setCell_other _ ⟨w.heap.size, 2, none⟩ _ _ (by simp; omega)]; exact h.low.block k hk
  · have := (hu.lt k hk).1
    rw [put3_other _ _ _ _ (by omega), heap_setCell_other _ ⟨w.heap.size, 2, none⟩ _ _ (by simp; omega)]

set_option maxHeartbeats 6400000 in
theorem with_any {w : World} {v : Value} {s : VS} (h : StAt w v s) (hs : s.rows.length ≤ 1000) (r : List UInt8 × List UInt8) :
    Calls Tryd.prog 63 #[v, .agg #[.string (S r.1), .string (S r.2)]] w fun e w' => ∃ v', e = .returned v' ∧ StOwn w.heap.size 82 w' v' (s.with r) ∧ Below w.heap.size w w' := by
  obtain ⟨k, rfl, hr⟩ := h
  obtain ⟨a, c, rfl, hc, hm⟩ := hr.shape
  unfold maxLen at hm
  obtain ⟨x, y⟩ := r
  obtain ⟨kd, n, rows⟩ := s
  dsimp only at *
  have HA := hide (fun (j : Nat) (hj : j ≤ rows.length) => hr.ahead j hj)
  have HD := hide (fun (j : Nat) (hj : j ≤ rows.length) => hr.behind j hj)
  have HCC := hide (fun (w1 : World) (hb : Below w.heap.size w w1) (j : Nat) (hj : j ≤ rows.length) (v1 v3 : Value) (h1 : Row2 w v1 (rows.take j)) (h3 : Row2 w v3 (rows.drop j)) (q q0 : Nat) hq (h0 : w1.heap[q0]? = some (.cells #[.string (S x), .string (S y)] 82 (0, 0))) => vconcat3 (b := q) (l1 := rows.take j) (l2 := [(x, y)]) (l3 := rows.drop j) hq (h1.later hb) (vrow_one h0) (h3.later hb) (by simp; omega))
  obtain ⟨P, hP⟩ : ∃ P, VS.spot ⟨kd, n, rows⟩ x = P := ⟨_, rfl⟩
  have hPl : P ≤ rows.length := by rw [← hP]; exact VS.spot_le _ _
  have HSP : Hid (VS.with ⟨kd, n, rows⟩ (x, y) = ⟨kd, n, rows.take P ++ [(x, y)] ++ rows.drop P⟩) := by
    show _ = _
    unfold VS.with
    rw [hP]
  obtain ⟨a1, c1, hs1, hr1⟩ := unhide HA P hPl
  obtain ⟨a2, c2, hs2, hr2⟩ := unhide HD P hPl
  obtain ⟨Dn, hDn⟩ : ∃ Dn, rows.length - P = Dn := ⟨_, rfl⟩
  rw [hDn] at hs2 hr2
  have HC := hide (fun (w1 : World) (hb : Below w.heap.size w w1) (q q0 : Nat) hq h0 => unhide HCC w1 hb P hPl _ _ hr1 hr2 q q0 hq h0)
  obtain ⟨L, hL⟩ : ∃ L, rows.take P ++ [(x, y)] ++ rows.drop P = L := ⟨_, rfl⟩
  rw [hL] at HC HSP
  rw [unhide HSP]
  unfold VS.spot at hP
  dsimp only at hP
  have HP := hide hP
  have HROW := hide (fun (i : Nat) (hi : i < rows.length) => hr.place (by omega))
  clear hr1 hr2 HCC HA HD hL hP HSP hDn
  have HST := hide (Bw.start w (.int .i64 kd) (.int .i64 n) (.slice a rows.length c) (.string (S x)) (.string (S y)) (.int .i64 0) (.int .i64 0) (.slice none 0 0) 47 82 47)
  have e1 : ((P : Nat) : Int) ≤ ((rows.length : Nat) : Int) := by omega
  have e0 : (0 : Int) ≤ ((P : Nat) : Int) := by omega
  have hne0 : w.heap.size ≠ w.heap.size + 1 := by omega
  clear hr
  go_enter Tryd.func63, Tryd.ntmps63
  go_upto_if 11 with fail
  obtain ⟨Wr, hWr⟩ : ∃ Wr, (((w.alloc (.cells #[.int .i64 kd, .int .i64 n, .slice a rows.length c] 47)).alloc (.cells #[.string (S x), .string (S y)] 82)).alloc (.cells #[.int .i64 0, .int .i64 0, .slice none 0 0] 47)) = Wr := ⟨_, rfl⟩
  rw [hWr] at HST ⊢
  clear hWr
  obtain ⟨⟨p0, p1, p2⟩, ⟨r0, r1⟩, f2, f3⟩ := (unhide HST).facts
  go_cut [5, 11] (fun s5 _ wx => s5 = .int .i64 (P : Int) ∧ Bw w (.int .i64 kd) (.int .i64 n) (.slice a rows.length c) (.string (S x)) (.string (S y)) wx)
  case first =>
    by_cases h6 : kd = 6
    · have hP := unhide HP
      rw [if_pos h6] at hP
      have e6 : (kd != 6) = false := by rw [h6]; rfl
      subst hP
      clear h6
      go_wp2_with fail
      go_meet
      case rel => exact ⟨rfl, unhide HST⟩
    · have hP := unhide HP
      rw [if_neg h6] at hP
      have e6 : (kd != 6) = true := by rw [bne_iff_ne]; exact h6
      have HP2 := hide hP
      clear h6 hP HP HC hs1 hs2 e0 e1
      go_wp2_with fail
      go_loopw [5] (fun s5 wx => ∃ k : Nat, k ≤ rows.length ∧ s5 = .int .i64 (k : Int) ∧ place rows x k = P ∧ Bw w (.int .i64 kd) (.int .i64 n) (.slice a rows.length c) (.string (S x)) (.string (S y)) wx) (fun s5 _ => (intOf s5).toNat)
      case atStart => exact ⟨rows.length, Nat.le_refl _, rfl, unhide HP2, unhide HST⟩
      case round =>
        obtain ⟨k, hk, rfl, hpl, hbw⟩ := hrel
        have HBW := hide hbw
        clear p0 p1 p2 r0 r1 f2 f3
        obtain ⟨⟨p0, p1, p2⟩, ⟨r0, r1⟩, f2, f3⟩ := hbw.facts
        have HD := hide (fun (q : Nat) => hbw.below (w' := wr.drewN q) ⟨rfl, rfl, rfl, Nat.le_refl _, fun k hk => rfl⟩)
        clear hbw HP2
        rcases Nat.eq_zero_or_pos k with hk0 | hk0
        · subst hk0
          have hP0 : 0 = P := hpl
          subst hP0
          clear hpl
          have z0 : ¬ (0 : Int) < ((0 : Nat) : Int) := by omega
          go_wp2_with fail
          go_quiet (fail)
          go_wp2_with fail
          go_meet
          case rel => exact ⟨rfl, unhide HD _⟩
        · obtain ⟨m, rfl⟩ : ∃ m, k = m + 1 := ⟨k - 1, by omega⟩
          have hm1 : m < rows.length := by omega
          obtain ⟨b, off, rfl, hlt, hcell⟩ := unhide HROW m hm1
          have hc1 := (hcell m hm1).1
          rw [← (unhide HBW).low.cell (p := ⟨b, off + m * 2, none⟩) hlt] at hc1
          have hgd : (rows.getD m ([], [])).1 = (rows[m]'hm1).1 := by simp [List.getD, hm1]
          unfold place at hpl
          rw [hgd] at hpl
          have hg := S_gt (rows[m]'hm1).1 x
          have HPL := hide hpl
          clear hgd hcell hpl
          generalize (rows[m]'hm1).1 = z at *
          have z0 : (0 : Int) < ((m + 1 : Nat) : Int) := by omega
          have hw1 : IntKind.i64.wrap (((m + 1 : Nat) : Int) - 1) = (m : Int) := by rw [IntKind.wrap_i64]; omega
          have hi0 : (0 : Int) ≤ (m : Int) := by omega
          have hi1 : (m : Int) < ((rows.length : Nat) : Int) := by omega
          cases hl : Codec.lt x z
          · rw [hl] at hg HPL
            rw [if_neg (by simp)] at HPL
            have hP0 := unhide HPL
            subst hP0
            have hg2 : (!Op.bytesLess (S z).toList (S x).toList && !(S z).toList == (S x).toList) = false := by rw [← hg]; simp
            clear hl HPL
            go_wp2_with fail
            go_quiet (fail)
            go_wp2_with fail
            go_meet
            case rel => exact ⟨rfl, unhide HD _⟩
          · rw [hl] at hg HPL
            rw [if_pos rfl] at HPL
            have hg2 : (!Op.bytesLess (S z).toList (S x).toList && !(S z).toList == (S x).toList) = true := by rw [← hg]; simp
            clear hl
            go_wp2_with fail
            go_quiet (fail)
            go_wp2_with fail
            go_roundw
            case rel => exact ⟨m, by omega, by go_num, unhide HPL, unhide HD _⟩
            case measure => simp [intOf]
  case rest =>
  obtain ⟨rfl, hbw⟩ := hcut
  have HST := hide hbw
  clear p0 p1 p2 r0 r1 f2 f3 hbw HP HROW
  rename_i Wx _
  obtain ⟨⟨p0, p1, p2⟩, ⟨r0, r1⟩, f2, f3⟩ := (unhide HST).facts
  have A0 := fun o => ((unhide HST).below (under_box o)).facts
  have q0 := fun o => (A0 o).1.2.2
  have q1 := fun o => (A0 o).2.1.1
  have q2 := fun o => (A0 o).2.1.2
  have HLR := hide (unhide HST).low
  have HLS := hide (unhide HST).low.size
  clear A0
  go_upto_region 5 with fail
  go_cut [] (fun wx => ∃ wk ka kc, wx = wk.setCell ⟨w.heap.size, 2, none⟩ (.slice ka L.length kc) ∧ Bw w (.int .i64 kd) (.int .i64 n) (.slice a rows.length c) (.string (S x)) (.string (S y)) wk ∧ wk.ownsRow (w.heap.size + 1 + 1 + 1) 82 2 (.slice ka L.length kc) L.length (R9 L))
  case first =>
    go_region_with (go_at_call 76; refine (unhide HC _ (vlow_two (unhide HLR) (unhide HLS) _ _) _ _ (by exact valloc_new (by simp)) (by exact valloc_old (by simp) (valloc_new (by simp)))).mono ?_; rintro e wk ⟨kv, rfl, hok, hbk⟩; obtain ⟨ka, kc, rfl, _⟩ := ownsRow_slice hok; have HOK := hide (ownsRow_less hok (show w.heap.size + 1 + 1 + 1 ≤ _ by have := (unhide HST).size; simp; omega)); have HW3 := hide ((unhide HST).below ((vlow_two (Below.refl _ _) (Nat.le_refl _) _ _).trans (hbk.mono (by simp; omega)))); obtain ⟨⟨u0, u1, u2⟩, _, g2, g3⟩ := (unhide HW3).facts; clear hok hbk)
    all_goals go_wp2_with fail
    all_goals go_meet
    all_goals exact ⟨wk, ka, kc, rfl, unhide HW3, unhide HOK⟩
  case rest =>
  obtain ⟨wk, ka, kc, rfl, hW3, hok⟩ := hcut
  clear p0 p1 p2 r0 r1 f2 f3 q0 q1 q2
  obtain ⟨⟨u0, u1, u2⟩, _, g2, g3⟩ := hW3.facts
  obtain ⟨ra, rb, rc, rt, hres⟩ := hW3.res
  have y0 : wk.cell? ⟨w.heap.size + 1 + 1, 0, none⟩ = some ra := by rw [block_cell hres]; rfl
  have y1 : wk.cell? ⟨w.heap.size + 1 + 1, 1, none⟩ = some rb := by rw [block_cell hres]; rfl
  have y2 : wk.cell? ⟨w.heap.size + 1 + 1, 2, none⟩ = some rc := by rw [block_cell hres]; rfl
  clear hres
  obtain ⟨z0, z1, z2, zlow, zown⟩ := hW3.done (.slice ka L.length kc) (.int .i64 kd) (.int .i64 n) (.slice ka L.length kc)
  have hown := zown _ _ _ _ hok
  unfold put3 at z0 z1 z2 zlow hown
  clear hW3 zown hok
  go_wp2_with fail
  exact bodyPost_ret (v := .agg #[.int .i64 kd, .int .i64 n, .slice ka L.length kc]) (by simp [results, Tryd.results63, go_sem, z0, z1, z2]) rfl ⟨_, rfl, ⟨_, rfl, hown⟩, zlow⟩
end Go.Proofs.YteaiidcconggcaaDoor
