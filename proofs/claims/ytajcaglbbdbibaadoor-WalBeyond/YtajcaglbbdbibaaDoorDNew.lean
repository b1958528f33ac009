/- The contracts of slices.Repeat at a row of one text, and of a device's New. -/
import Derived.Test.YtajcaglbbdbibaaDoorDCalls
import Derived.Laws.CopyOwn
import Derived.Laws.OwnMore
namespace Go.Proofs.YtajcaglbbdbibaaDoor
open Go.RowKit
set_option linter.unusedVariables false
set_option maxRecDepth 100000

theorem info_string : (Tryd.prog.info? 9).map (fun i => (i.zero, i.size, i.bytes)) = some (some (.string ⟨#[]⟩), 1, 16) := by kernel_rfl
theorem info_string1 : (Tryd.prog.info? 9).map (·.size) = some 1 := by kernel_rfl
theorem under_strings : Tryd.prog.underlying 50 = some (.slice 9) := by kernel_rfl

def fill (v z : Value) (n k : Nat) : List Value := List.replicate k v ++ List.replicate (n - k) z
theorem fill_length (v z : Value) (n k : Nat) (h : k ≤ n) : (fill v z n k).length = n := by simp [fill]; omega
theorem fill_get (v z : Value) (n k j : Nat) (h : j < k) : (fill v z n k)[j]? = some v := by
  unfold fill
  rw [List.getElem?_append_left (by simpa using h)]
  simp [h]
theorem fill_first (v z : Value) (n : Nat) (h : 1 ≤ n) : splice (List.replicate n z) 0 [v] = fill v z n 1 := by
  simp [splice, fill]
theorem fill_next (v z : Value) (n k m : Nat) (h : k + m ≤ n) : splice (fill v z n k) k (List.replicate m v) = fill v z n (k + m) := by
  unfold splice fill
  rw [List.take_append_of_le_length (by simp), List.take_of_length_le (by simp), List.length_replicate, List.drop_append, List.drop_of_length_le (by simp), List.length_replicate, List.drop_replicate, List.nil_append, ← List.append_assoc, List.replicate_append_replicate]
  congr 2
  omega

theorem one_cell {w : World} {bk off : Nat} {x : Value} (h : w.cell? ⟨bk, off, none⟩ = some x) (j : Nat) (u : Value) (hu : [x][j]? = some u) : w.cell? ((⟨bk, off, none⟩ : Addr).add j) = some u := by
  rw [plain_add]
  match j, hu with
  | 0, hu => simp at hu; subst hu; exact h
  | j + 1, hu => simp at hu
theorem min_one (n : Nat) (x : Value) (h : 1 ≤ n) : [x].length = Nat.min 1 n := by
  show 1 = min 1 n
  omega
theorem one_cell' (v : ByteArray) : ∀ u ∈ [Value.string v], u.oneCell' = true := by
  intro u hu
  simp at hu
  subst hu
  rfl

set_option maxHeartbeats 1600000 in
theorem repeat_one (bk off c n : Nat) (v : ByteArray) (w : World) (h1 : 1 ≤ n) (hn : n ≤ 1099511627776) (hv : w.cell? ⟨bk, off, none⟩ = some (.string v)) :
    Calls Tryd.prog 39 #[.slice (some ⟨bk, off, none⟩) 1 c, .int .i64 (n : Int)] w fun e w' => e = .returned (.slice (some ⟨w.heap.size, 0, none⟩) n n) ∧ w'.ownsRow w.heap.size 9 1 (.slice (some ⟨w.heap.size, 0, none⟩) n n) n (List.replicate n (.string v)) ∧ Below w.heap.size w w' := by
  obtain ⟨i0, hi, hz0, hz1, hz2⟩ := info_parts info_string
  have HMUL := hide (Tryd.bits_Mul 1 n (by omega) (by omega) w)
  have em : (1 * n / 18446744073709551616 : Nat) = 0 := by omega
  have em2 : (1 * n % 18446744073709551616 : Nat) = n := by omega
  rw [em, em2] at HMUL
  obtain ⟨w1, hmk, hown1, hgr1⟩ := run_make_full (P := Tryd.prog) w w.heap.size 50 9 i0 (.string ⟨#[]⟩) 1 under_strings hi hz0 hz1 .i64 .i64 n (by rw [hz2]; omega) (by unfold maxLen; omega) (Nat.le_refl _)
  have hb1 : Below w.heap.size w w1 := (Below.refl _ _).grown hgr1 (Nat.le_refl _) (fun k e => by cases e)
  have hblt := cell_lt hv
  have hv1 : w1.cell? ⟨bk, off, none⟩ = some (.string v) := (hb1.cell (p := ⟨bk, off, none⟩) hblt).trans hv
  have hblk : w1.heap[w.heap.size]? = some (.cells (List.replicate n (Value.string ⟨#[]⟩)).toArray 9 (0, 0)) := by
    obtain ⟨cur, hh, _⟩ := ownsRow_blk hown1 (k := w.heap.size) rfl
    have e : (madeCells (Value.string ⟨#[]⟩).cells (n * 1)).toList = List.replicate n (.string ⟨#[]⟩) := by
      rw [Nat.mul_one]; exact toList_madeCells_one _ n
    rw [e] at hown1
    rcases hown1.2 with ⟨e1, e2⟩ | ⟨g, cap, cur, e1, hb, hh, hc, hm, hcs, ht⟩
    · cases e1
    · cases e1
      rw [hh, ← ht, List.take_of_length_le (by simp [hcs])]
  have hw0 : IntKind.u64.wrap (n : Int) = (n : Int) := by rw [IntKind.wrap_u64]; omega
  have hw1 : IntKind.i64.wrap (n : Int) = (n : Int) := by rw [IntKind.wrap_i64]; omega
  obtain ⟨N, hN⟩ : ∃ N, w.heap.size = N := ⟨_, rfl⟩
  rw [hN] at hmk hblk hb1 hblt ⊢
  have HNN := hide hN
  have HBLK := hide hblk
  have HB1 := hide hb1
  have HV1 := hide hv1
  obtain ⟨w3, hcp, hblk3, hb3⟩ : ∃ w3, (Builtin.copy_ #[50, 50] 3 #[.slice (some ⟨N, 0, none⟩) n n, .slice (some ⟨bk, off, none⟩) 1 c]).run Tryd.prog w1 = .ok (.int .i64 1) w3 ∧ w3.heap[N]? = some (.cells (fill (.string v) (.string ⟨#[]⟩) n 1).toArray 9 (0, 0)) ∧ Below N w w3 := by
    have hr := run_copy_row (P := Tryd.prog) w1 50 50 3 9 N 0 n n ⟨bk, off, none⟩ 1 c (List.replicate n (Value.string ⟨#[]⟩)).toArray 9 [.string v] under_strings info_string1 hblk (min_one n _ h1) (one_cell hv1) (by simp; omega) (one_cell' v)
    refine ⟨_, hr, ?_, below_setRow hb1 (Nat.le_refl _) _⟩
    rw [setRow_heap w1 N _ _ 9 _ hblk]
    have e := fill_first (.string v) (.string ⟨#[]⟩) n h1
    unfold splice at e
    simpa using congrArg (fun l => some (Obj.cells l.toArray 9 (0, 0))) e
  have HBLK3 := hide hblk3
  have HB3 := hide hb3
  clear hblk3 hb3
  clear hown1 hgr1 hblk hb1 hv1 hv hN
  go_enter Tryd.func39, Tryd.ntmps39
  go_wp2_with fail
  refine (unhide HMUL).mono ?_
  rintro e w2 ⟨rfl, rfl⟩
  clear HMUL
  go_wp2_with fail
  clear hcp hmk HBLK HB1 HV1
  go_loopw [8] (fun i wr => ∃ k : Nat, 1 ≤ k ∧ k ≤ n ∧ i = .int .i64 k ∧ wr.heap[N]? = some (.cells (fill (.string v) (.string ⟨#[]⟩) n k).toArray 9 (0, 0)) ∧ Below N w2 wr) (fun i _ => n - (intOf i).toNat)
  case atStart =>
    exact ⟨1, Nat.le_refl _, h1, rfl, unhide HBLK3, unhide HB3⟩
  case round =>
    obtain ⟨k, hk1, hk, rfl, hbk, hbw⟩ := hrel
    clear HBLK3 HB3
    have HBK := hide hbk
    have HBW := hide hbw
    clear hbk hbw
    by_cases hlt : k < n
    · obtain ⟨m, hm⟩ : ∃ m, Nat.min k (n - k) = m := ⟨_, rfl⟩
      have hm1 : 1 ≤ m ∧ m ≤ k ∧ k + m ≤ n := by
        have : Nat.min k (n - k) = min k (n - k) := rfl
        omega
      have hw : IntKind.i64.wrap ((k : Int) + (m : Int)) = (k : Int) + (m : Int) := by rw [IntKind.wrap_i64]; omega
      have HM := hide hm
      have hi1 : (0 : Int) ≤ (k : Int) := by omega
      have hi2 : (k : Int) ≤ (n : Int) := by omega
      have hi3 : (k : Int) < (n : Int) := by omega
      have hrl : (List.replicate m (Value.string v)).length = m := List.length_replicate
      obtain ⟨cs, hcs⟩ : ∃ cs, List.replicate m (Value.string v) = cs := ⟨_, rfl⟩
      have HCS := hide hcs
      rw [hcs] at hrl
      clear hm hcs
      have hsrc : ∀ j u, cs[j]? = some u → wr.drew.cell? ((⟨N, 0, none⟩ : Addr).add j) = some u := fun j u hu => by
        rw [plain_add, Nat.zero_add]
        show wr.cell? ⟨N, j, none⟩ = some u
        rw [block_cell (unhide HBK)]
        rw [← unhide HCS] at hu
        rw [List.getElem?_replicate] at hu
        split at hu
        · cases hu
          rw [List.getElem?_toArray]
          exact fill_get _ _ _ _ _ (by omega)
        · cases hu
      have HSRC := hide hsrc
      clear hsrc
      go_wp2_with fail
      go_region_law (refine step_copy_splice rfl (.tmp 41) (.tmp 44) 50 50 rfl 9 under_strings info_string1 (some ⟨N, k, none⟩) (some ⟨N, 0, none⟩) (n - k) (n - k) k n (by simp [Act.eval, Act.put]; omega) (by simp [Act.eval, Act.put]) N k (fill (.string v) (.string ⟨#[]⟩) n k) 9 (unhide HBK) cs (by rw [hrl]; exact (unhide HM).symm) (fun _ => ⟨rfl, ⟨N, 0, none⟩, rfl, unhide HSRC⟩) (by rw [hrl, fill_length _ _ _ _ hk]; exact hm1.2.2) (by intro u hu; rw [← unhide HCS] at hu; obtain ⟨_, rfl⟩ := List.mem_replicate.1 hu; rfl) N w2 ((unhide HBW).drew) (Nat.le_refl _) ?_; intro w4 HG4 hb4; have HB4 := hide hb4; clear hb4)
      all_goals
        go_wp2
        go_roundw
        case rel =>
          refine ⟨k + m, by omega, by omega, by first | go_num | omega, ?_, unhide HB4⟩
          have := unhide HG4
          rw [← unhide HCS, fill_next _ _ _ _ _ hm1.2.2] at this
          exact this
        case measure => simp [intOf]; omega
    · have : k = n := by omega
      subst this
      go_wp2_with fail
      go_ret
      refine ⟨rfl, ⟨by simp, Or.inr ⟨N, k, _, rfl, Nat.le_refl _, unhide HBK, Nat.le_refl _, by unfold maxLen; omega, by simp [fill], ?_⟩⟩, unhide HBW⟩
      simp [fill]

theorem secs_replicate (n : Nat) (s : List UInt8) : secs (List.replicate n s) = List.replicate n (.string (S s)) := by simp [secs]

set_option maxHeartbeats 1600000 in
theorem new_ok (n : Nat) (w : World) (h1 : 1 ≤ n) (hn : n ≤ 65536) :
    Calls Tryd.prog 25 #[.int .i64 (n : Int)] w fun e w' => ∃ b, e = .returned (.tuple #[.pointer (some ⟨b, 0, none⟩), .int .i64 0]) ∧ DevAt w.heap.size w' b (Dev.new n) ∧ Below w.heap.size w w' := by
  have HW := hide (whole_any [] w)
  have HREP := hide (fun bk off c v w hv => repeat_one bk off c n v w h1 (by omega) hv)
  have HD : Hid (Dev.new n = ⟨List.replicate n (whole []), [], false, false, 0, 0⟩) := rfl
  obtain ⟨z, hz⟩ : ∃ z, whole [] = z := ⟨_, rfl⟩
  rw [hz] at HW HD
  obtain ⟨D, hD⟩ : ∃ D, Dev.new n = D := ⟨_, rfl⟩
  rw [hD] at HD ⊢
  clear hz hD
  have hi1 : (1 : Int) ≤ (n : Int) := by omega
  have hi2 : (n : Int) ≤ 65536 := by omega
  go_enter Tryd.func25, Tryd.ntmps25
  go_wp2_with fail
  refine (unhide HW).mono ?_
  rintro e w1 ⟨rfl, hb1⟩
  have HB1 := hide hb1
  clear hb1 HW
  go_wp2_with fail
  refine (unhide HREP _ 0 1 (S z) _ (by simp)).mono ?_
  rintro e w2 ⟨rfl, ho2, hb2⟩
  have HO2 := hide ho2
  have HB2 := hide hb2
  clear ho2 hb2 HREP
  go_wp2_with fail
  go_ret2
  have hb3 : Below w1.heap.size w1 w2 := ((Below.refl _ _).alloc (Nat.le_refl _) _).trans ((unhide HB2).mono (by simp))
  have hs1 := (unhide HB1).size
  have hs2 := (unhide HB2).size
  rw [World.size_alloc] at hs2
  have hb4 : Below w.heap.size w w2 := (unhide HB1).trans (hb3.mono hs1)
  refine ⟨w2.heap.size, rfl, ⟨.slice (some ⟨w1.heap.size + 1, 0, none⟩) n n, .slice none 0 0, ?_⟩, hb4.alloc (by omega) _⟩
  rw [unhide HD]
  have hrow := unhide HO2
  rw [World.size_alloc] at hrow
  refine ⟨by omega, heap_alloc_new w2 _, ?_, World.ownsRow_nil _ _ _ _⟩
  rw [secs_replicate, List.length_replicate]
  refine ownsRow_less (ownsRow_same hrow fun k hk => ?_) (by omega)
  cases hk
  exact Below.heap_alloc w2 _ _ (by
    obtain ⟨cur, hh, _⟩ := ownsRow_blk hrow (k := w1.heap.size + 1) rfl
    exact block_lt hh)

theorem new_no (n : Int) (w : World) (hn : n < 1 ∨ 65536 < n) :
    Calls Tryd.prog 25 #[.int .i64 n] w fun e w' => e = .returned (.tuple #[.pointer none, .int .i64 4]) ∧ w' = w := by
  by_cases h1 : n < 1
  · go_enter Tryd.func25, Tryd.ntmps25
    go_wp2_with fail
    go_ret2
    exact ⟨rfl, rfl⟩
  have h2 : 65536 < n := by omega
  go_enter Tryd.func25, Tryd.ntmps25
  go_wp2_with fail
  all_goals first | omega | (go_ret2; exact ⟨rfl, rfl⟩)
end Go.Proofs.YtajcaglbbdbibaaDoor
