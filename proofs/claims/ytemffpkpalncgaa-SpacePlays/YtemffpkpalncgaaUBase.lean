/- A space in memory: its block and its row of states; the contracts of slices.Repeat at a row of one number, and of a space's small calls. -/
import Derived.Test.YtemffpkpalncgaaDBase
import Derived.Test.YtemffpkpalncgaaDShelf
import Derived.Test.YtemffpkpalncgaaUShelf
import Derived.Test.YtemffpkpalncgaaUMath
import Derived.Laws.CopyOwn
import Derived.Laws.OwnMore
namespace Go.Proofs.Ytemffpkpalncgaa
open Go.RowKit
set_option linter.unusedVariables false

theorem info_int : (Try.prog.info? 3).map (fun i => (i.zero, i.size, i.bytes)) = some (some (.int .i64 0), 1, 8) := by kernel_rfl
theorem info_int1 : (Try.prog.info? 3).map (·.size) = some 1 := by kernel_rfl
theorem under_ints : Try.prog.underlying 28 = some (.slice 3) := by kernel_rfl

def nums (l : List Nat) : List Value := l.map fun (x : Nat) => Value.int .i64 (x : Int)
theorem nums_length (l : List Nat) : (nums l).length = l.length := by simp [nums]
theorem nums_get (l : List Nat) (k : Nat) (h : k < l.length) : (nums l)[k]? = some (.int .i64 ((l[k]'h : Nat) : Int)) := by simp [nums, h]
theorem nums_set (l : List Nat) (k v : Nat) : nums (l.set k v) = (nums l).set k (.int .i64 (v : Int)) := by simp [nums, List.map_set]

structure SpAt (base : Nat) (w : World) (b g : Nat) (l : List Nat) : Prop where
  lo : base ≤ b
  log : base ≤ g
  blk : w.heap[b]? = some (.cells #[.slice (some ⟨g, 0, none⟩) l.length l.length] 51 (0, 0))
  row : w.heap[g]? = some (.cells (nums l).toArray 3 (0, 0))
  pos : 0 < l.length
  len : l.length ≤ 128
  st : ∀ x ∈ l, x ≤ 3

section
variable {base : Nat} {w w' : World} {b g : Nat} {l : List Nat}
theorem SpAt.lt (h : SpAt base w b g l) : b < w.heap.size := block_lt h.blk
theorem SpAt.glt (h : SpAt base w b g l) : g < w.heap.size := block_lt h.row
theorem SpAt.ne (h : SpAt base w b g l) : b ≠ g := by
  intro e
  have h1 := h.blk
  rw [e, h.row] at h1
  injection h1 with h1
  injection h1 with _ h2 _
  exact absurd h2 (by decide)
theorem SpAt.c0 (h : SpAt base w b g l) : w.cell? ⟨b, 0, none⟩ = some (.slice (some ⟨g, 0, none⟩) l.length l.length) := by rw [block_cell h.blk]; rfl
theorem SpAt.cell (h : SpAt base w b g l) (k : Nat) (hk : k < l.length) : w.cell? ⟨g, k, none⟩ = some (.int .i64 ((l[k]'hk : Nat) : Int)) := by
  rw [block_cell h.row]
  simpa using nums_get l k hk
theorem SpAt.fz (h : SpAt base w b g l) (k : Nat) : w.frozen? ⟨g, k, none⟩ = false := block_frozen h.row k
theorem SpAt.same (h : SpAt base w b g l) (hb : w'.heap[b]? = w.heap[b]?) (hg : w'.heap[g]? = w.heap[g]?) : SpAt base w' b g l := ⟨h.lo, h.log, hb.trans h.blk, hg.trans h.row, h.pos, h.len, h.st⟩
theorem SpAt.later (h : SpAt base w b g l) (hb : Below w.heap.size w w') : SpAt base w' b g l := h.same (hb.block b h.lt) (hb.block g h.glt)
theorem SpAt.set (h : SpAt base w b g l) (k v : Nat) (hv : v ≤ 3) : SpAt base (w.setCell ⟨g, k, none⟩ (.int .i64 (v : Int))) b g (l.set k v) := by
  refine ⟨h.lo, h.log, ?_, ?_, by simpa using h.pos, by simpa using h.len, Sp.set_le _ _ _ hv h.st⟩
  · rw [heap_setCell_other w ⟨g, k, none⟩ b _ h.ne, List.length_set]; exact h.blk
  · rw [heap_setCell_same w g k _ _ _ h.row, nums_set]
    simp
theorem SpAt.less (h : SpAt base w b g l) {B : Nat} (hB : B ≤ base) : SpAt B w b g l := ⟨by have := h.lo; omega, by have := h.log; omega, h.blk, h.row, h.pos, h.len, h.st⟩
theorem But.set0 (B : Nat) (w : World) (g k : Nat) (v : Value) : But g B w (w.setCell ⟨g, k, none⟩ v) := (But.refl _ _ _).setCell k v
end

def ufill (v z : Value) (n k : Nat) : List Value := List.replicate k v ++ List.replicate (n - k) z
theorem ufill_length (v z : Value) (n k : Nat) (h : k ≤ n) : (ufill v z n k).length = n := by simp [ufill]; omega
theorem ufill_get (v z : Value) (n k j : Nat) (h : j < k) : (ufill v z n k)[j]? = some v := by
  unfold ufill
  rw [List.getElem?_append_left (by simpa using h)]
  simp [h]
theorem ufill_first (v z : Value) (n : Nat) (h : 1 ≤ n) : splice (List.replicate n z) 0 [v] = ufill v z n 1 := by
  simp [splice, ufill]
theorem ufill_next (v z : Value) (n k m : Nat) (h : k + m ≤ n) : splice (ufill v z n k) k (List.replicate m v) = ufill v z n (k + m) := by
  unfold splice ufill
  rw [List.take_append_of_le_length (by simp), List.take_of_length_le (by simp), List.length_replicate, List.drop_append, List.drop_of_length_le (by simp), List.length_replicate, List.drop_replicate, List.nil_append, ← List.append_assoc, List.replicate_append_replicate]
  congr 2
  omega
theorem uone_cell {w : World} {bk off : Nat} {x : Value} (h : w.cell? ⟨bk, off, none⟩ = some x) (j : Nat) (u : Value) (hu : [x][j]? = some u) : w.cell? ((⟨bk, off, none⟩ : Addr).add j) = some u := by
  rw [plain_add]
  match j, hu with
  | 0, hu => simp at hu; subst hu; exact h
  | j + 1, hu => simp at hu
theorem umin_one (n : Nat) (x : Value) (h : 1 ≤ n) : [x].length = Nat.min 1 n := by
  show 1 = min 1 n
  omega
theorem uone_cell' (v : Int) : ∀ u ∈ [Value.int .i64 v], u.oneCell' = true := by
  intro u hu
  simp at hu
  subst hu
  rfl

set_option maxHeartbeats 1600000 in
theorem urepeat_one (bk off c n : Nat) (v : Int) (w : World) (h1 : 1 ≤ n) (hn : n ≤ 1099511627776) (hv : w.cell? ⟨bk, off, none⟩ = some (.int .i64 v)) :
    Calls Try.prog 24 #[.slice (some ⟨bk, off, none⟩) 1 c, .int .i64 (n : Int)] w fun e w' => e = .returned (.slice (some ⟨w.heap.size, 0, none⟩) n n) ∧ w'.heap[w.heap.size]? = some (.cells (List.replicate n (Value.int .i64 v)).toArray 3 (0, 0)) ∧ Below w.heap.size w w' := by
  obtain ⟨i0, hi, hz0, hz1, hz2⟩ := info_parts info_int
  have HMUL := hide (Try.bits_Mul 1 n (by omega) (by omega) w)
  have em : (1 * n / 18446744073709551616 : Nat) = 0 := by omega
  have em2 : (1 * n % 18446744073709551616 : Nat) = n := by omega
  rw [em, em2] at HMUL
  obtain ⟨w1, hmk, hown1, hgr1⟩ := run_make_full (P := Try.prog) w w.heap.size 28 3 i0 (.int .i64 0) 1 under_ints hi hz0 hz1 .i64 .i64 n (by rw [hz2]; omega) (by unfold maxLen; omega) (Nat.le_refl _)
  have hb1 : Below w.heap.size w w1 := (Below.refl _ _).grown hgr1 (Nat.le_refl _) (fun k e => by cases e)
  have hblt := cell_lt hv
  have hv1 : w1.cell? ⟨bk, off, none⟩ = some (.int .i64 v) := (hb1.cell (p := ⟨bk, off, none⟩) hblt).trans hv
  have hblk : w1.heap[w.heap.size]? = some (.cells (List.replicate n (Value.int .i64 0)).toArray 3 (0, 0)) := by
    obtain ⟨cur, hh, _⟩ := ownsRow_blk hown1 (k := w.heap.size) rfl
    have e : (madeCells (Value.int .i64 0).cells (n * 1)).toList = List.replicate n (.int .i64 0) := by
      rw [Nat.mul_one]; exact toList_madeCells_one _ n
    rw [e] at hown1
    rcases hown1.2 with ⟨e1, e2⟩ | ⟨g, cap, cur, e1, hb, hh, hc, hm, hcs, ht⟩
    · cases e1
    · cases e1
      rw [hh, ← ht, List.take_of_length_le (by simp [hcs])]
  have hw0 : IntKind.u64.wrap (n : Int) = (n : Int) := by rw [IntKind.wrap_u64]; omega
  have hw1 : IntKind.i64.wrap (n : Int) = (n : Int) := by rw [IntKind.wrap_i64]; omega
  obtain ⟨N, hN⟩ : ∃ N, w.heap.size = N := ⟨_, rfl⟩
  rw [hN] at hmk hblk hb1 hblt ⊢
  have HNN := hide hN
  have HBLK := hide hblk
  have HB1 := hide hb1
  have HV1 := hide hv1
  obtain ⟨w3, hcp, hblk3, hb3⟩ : ∃ w3, (Builtin.copy_ #[28, 28] 3 #[.slice (some ⟨N, 0, none⟩) n n, .slice (some ⟨bk, off, none⟩) 1 c]).run Try.prog w1 = .ok (.int .i64 1) w3 ∧ w3.heap[N]? = some (.cells (ufill (.int .i64 v) (.int .i64 0) n 1).toArray 3 (0, 0)) ∧ Below N w w3 := by
    have hr := run_copy_row (P := Try.prog) w1 28 28 3 3 N 0 n n ⟨bk, off, none⟩ 1 c (List.replicate n (Value.int .i64 0)).toArray 3 [.int .i64 v] under_ints info_int1 hblk (umin_one n _ h1) (uone_cell hv1) (by simp; omega) (uone_cell' v)
    refine ⟨_, hr, ?_, below_setRow hb1 (Nat.le_refl _) _⟩
    rw [setRow_heap w1 N _ _ 3 _ hblk]
    have e := ufill_first (.int .i64 v) (.int .i64 0) n h1
    unfold splice at e
    simpa using congrArg (fun l => some (Obj.cells l.toArray 3 (0, 0))) e
  have HBLK3 := hide hblk3
  have HB3 := hide hb3
  clear hblk3 hb3
  clear hown1 hgr1 hblk hb1 hv1 hv hN
  go_enter Try.func24, Try.ntmps24
  go_wp2_with fail
  refine (unhide HMUL).mono ?_
  rintro e w2 ⟨rfl, rfl⟩
  clear HMUL
  go_wp2_with fail
  clear hcp hmk HBLK HB1 HV1
  go_loopw [8] (fun i wr => ∃ k : Nat, 1 ≤ k ∧ k ≤ n ∧ i = .int .i64 k ∧ wr.heap[N]? = some (.cells (ufill (.int .i64 v) (.int .i64 0) n k).toArray 3 (0, 0)) ∧ Below N w2 wr) (fun i _ => n - (intOf i).toNat)
  case atStart =>
    exact ⟨1, Nat.le_refl _, h1, rfl, unhide HBLK3, unhide HB3⟩
  case round =>
    obtain ⟨k, hk1, hk, rfl, hbk, hbw⟩ := hrel
    clear HBLK3 HB3
    have HBK := hide hbk
    have HBW := hide hbw
    clear hbk hbw
    by_cases hlt : k < n
    · obtain ⟨m, hm⟩ : ∃ m, Nat.min k (n - k) = m := ⟨_, rfl⟩
      have hm1 : 1 ≤ m ∧ m ≤ k ∧ k + m ≤ n := by
        have : Nat.min k (n - k) = min k (n - k) := rfl
        omega
      have hw : IntKind.i64.wrap ((k : Int) + (m : Int)) = (k : Int) + (m : Int) := by rw [IntKind.wrap_i64]; omega
      have HM := hide hm
      have hi1 : (0 : Int) ≤ (k : Int) := by omega
      have hi2 : (k : Int) ≤ (n : Int) := by omega
      have hi3 : (k : Int) < (n : Int) := by omega
      have hrl : (List.replicate m (Value.int .i64 v)).length = m := List.length_replicate
      obtain ⟨cs, hcs⟩ : ∃ cs, List.replicate m (Value.int .i64 v) = cs := ⟨_, rfl⟩
      have HCS := hide hcs
      rw [hcs] at hrl
      clear hm hcs
      have hsrc : ∀ j u, cs[j]? = some u → wr.drew.cell? ((⟨N, 0, none⟩ : Addr).add j) = some u := fun j u hu => by
        rw [plain_add, Nat.zero_add]
        show wr.cell? ⟨N, j, none⟩ = some u
        rw [block_cell (unhide HBK)]
        rw [← unhide HCS] at hu
        rw [List.getElem?_replicate] at hu
        split at hu
        · cases hu
          rw [List.getElem?_toArray]
          exact ufill_get _ _ _ _ _ (by omega)
        · cases hu
      have HSRC := hide hsrc
      clear hsrc
      go_wp2_with fail
      go_region_law (refine step_copy_splice rfl (.tmp 41) (.tmp 44) 28 28 rfl 3 under_ints info_int1 (some ⟨N, k, none⟩) (some ⟨N, 0, none⟩) (n - k) (n - k) k n (by simp [Act.eval, Act.put]; omega) (by simp [Act.eval, Act.put]) N k (ufill (.int .i64 v) (.int .i64 0) n k) 3 (unhide HBK) cs (by rw [hrl]; exact (unhide HM).symm) (fun _ => ⟨rfl, ⟨N, 0, none⟩, rfl, unhide HSRC⟩) (by rw [hrl, ufill_length _ _ _ _ hk]; exact hm1.2.2) (by intro u hu; rw [← unhide HCS] at hu; obtain ⟨_, rfl⟩ := List.mem_replicate.1 hu; rfl) N w2 ((unhide HBW).drew) (Nat.le_refl _) ?_; intro w4 HG4 hb4; have HB4 := hide hb4; clear hb4)
      all_goals
        go_wp2
        go_roundw
        case rel =>
          refine ⟨k + m, by omega, by omega, by first | go_num | omega, ?_, unhide HB4⟩
          have := unhide HG4
          rw [← unhide HCS, ufill_next _ _ _ _ _ hm1.2.2] at this
          exact this
        case measure => simp [intOf]; omega
    · have : k = n := by omega
      subst this
      go_wp2_with fail
      go_ret
      refine ⟨rfl, ?_, unhide HBW⟩
      have := unhide HBK
      simpa [ufill] using this

theorem nums_replicate (n v : Nat) : nums (List.replicate n v) = List.replicate n (.int .i64 (v : Int)) := by simp [nums]

set_option maxHeartbeats 1600000 in
theorem unew_ok (n : Nat) (w : World) (h1 : 1 ≤ n) (hn : n ≤ 128) :
    Calls Try.prog 7 #[.int .i64 (n : Int)] w fun e w' => ∃ b g, e = .returned (.tuple #[.pointer (some ⟨b, 0, none⟩), .int .i64 0]) ∧ SpAt w.heap.size w' b g (List.replicate n 0) ∧ Below w.heap.size w w' := by
  have HREP := hide (fun bk off c v w hv => urepeat_one bk off c n v w h1 (by omega) hv)
  have hi1 : (1 : Int) ≤ (n : Int) := by omega
  have hi2 : (n : Int) ≤ 128 := by omega
  go_enter Try.func7, Try.ntmps7
  go_wp2_with fail
  refine (unhide HREP _ 0 1 0 _ (by simp)).mono ?_
  rintro e w2 ⟨rfl, ho2, hb2⟩
  have HO2 := hide ho2
  have HB2 := hide hb2
  clear ho2 hb2 HREP
  go_wp2_with fail
  go_ret2
  have hs2 := (unhide HB2).size
  rw [World.size_alloc] at hs2
  have hb4 : Below w.heap.size w w2 := ((Below.refl _ _).alloc (Nat.le_refl _) _).trans ((unhide HB2).mono (by simp))
  have hrow := unhide HO2
  rw [World.size_alloc] at hrow
  refine ⟨w2.heap.size, w.heap.size + 1, rfl, ⟨by omega, by omega, ?_, ?_, by rw [List.length_replicate]; omega, by simpa using hn, ?_⟩, hb4.alloc (by omega) _⟩
  · rw [List.length_replicate]; exact heap_alloc_new w2 _
  · rw [nums_replicate, Below.heap_alloc w2 _ _ (block_lt hrow)]; exact hrow
  · intro x hx
    have := List.eq_of_mem_replicate hx
    omega

theorem unew_no (n : Int) (w : World) (hn : n < 1 ∨ 128 < n) :
    Calls Try.prog 7 #[.int .i64 n] w fun e w' => e = .returned (.tuple #[.pointer none, .int .i64 4]) ∧ w' = w := by
  by_cases h1 : n < 1
  · go_enter Try.func7, Try.ntmps7
    go_wp2_with fail
    go_ret2
    exact ⟨rfl, rfl⟩
  have h2 : 128 < n := by omega
  go_enter Try.func7, Try.ntmps7
  go_wp2_with fail
  all_goals first | omega | (go_ret2; exact ⟨rfl, rfl⟩)
end Go.Proofs.Ytemffpkpalncgaa
