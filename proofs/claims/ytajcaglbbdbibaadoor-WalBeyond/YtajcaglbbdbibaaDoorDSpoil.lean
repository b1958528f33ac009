/- The contracts of a device's Spoil and Crash. -/
import Derived.Test.YtajcaglbbdbibaaDoorDFlush
namespace Go.Proofs.YtajcaglbbdbibaaDoor
open Go.RowKit
set_option linter.unusedVariables false
set_option maxRecDepth 100000

/- A row of numbers, wherever it lies. -/
def NumRow (w : World) (v : Value) (l : List Int) : Prop := ∃ ao c, v = .slice ao l.length c ∧ ∀ j (h : j < l.length), ∃ bk off, ao = some ⟨bk, off, none⟩ ∧ w.cell? ⟨bk, off + j, none⟩ = some (.int .i64 (l[j]'h))

theorem chosen_take (keep : List Int) (ws : List (Nat × List UInt8)) (k : Nat) (h : k < ws.length) : chosen keep (ws.take (k + 1)) = if keep.contains (k : Int) then chosen keep (ws.take k) ++ [ws[k]'h] else chosen keep (ws.take k) := by
  rw [List.take_succ_eq_append_getElem h]
  unfold chosen
  rw [List.zipIdx_append]
  have e : (ws.take k).length = k := by simp; omega
  rw [e]
  simp only [List.zipIdx_cons, List.zipIdx_nil, List.filter_append, List.map_append, List.filter_cons, List.filter_nil, Nat.zero_add]
  split <;> simp_all
theorem lay_snoc (l : List (List UInt8)) (ws : List (Nat × List UInt8)) (x : Nat × List UInt8) : lay l (ws ++ [x]) = (lay l ws).set x.1 x.2 := by
  unfold lay; rw [List.foldl_append]; rfl

/- Which of n writes are chosen by the first k numbers. -/
def bl (keep : List Int) (n k : Nat) : List Value := (List.range n).map fun (j : Nat) => Value.bool ((keep.take k).contains (j : Int))
theorem bl_length (keep : List Int) (n k : Nat) : (bl keep n k).length = n := by simp [bl]
theorem bl_get (keep : List Int) (n k j : Nat) (h : j < n) : (bl keep n k)[j]? = some (.bool ((keep.take k).contains (j : Int))) := by simp [bl, h]
theorem bl_zero (keep : List Int) (n : Nat) : bl keep n 0 = List.replicate n (.bool false) := by
  simp [bl, List.map_const']
theorem contains_take (keep : List Int) (k : Nat) (h : k < keep.length) (x : Int) : (keep.take (k + 1)).contains x = ((keep.take k).contains x || (keep[k]'h == x)) := by
  rw [List.take_succ_eq_append_getElem h]
  simp only [List.contains_eq_mem, List.mem_append, List.mem_singleton]
  by_cases h1 : x ∈ keep.take k
  · simp [h1]
  · by_cases h2 : x = keep[k]
    · subst h2; simp
    · have h3 : ¬keep[k] = x := fun e => h2 e.symm
      simp [h1, h2, h3]
theorem bl_out (keep : List Int) (n k : Nat) (h : k < keep.length) (hx : (keep[k]'h) < 0 ∨ (n : Int) ≤ (keep[k]'h)) : bl keep n (k + 1) = bl keep n k := by
  unfold bl
  apply List.map_congr_left
  intro j hj
  rw [contains_take _ _ h]
  have hj := List.mem_range.1 hj
  have : (keep[k]'h == (j : Int)) = false := by
    simp; omega
  rw [this]; simp
theorem bl_in (keep : List Int) (n k : Nat) (h : k < keep.length) (y : Nat) (hx : (keep[k]'h) = (y : Int)) (hy : y < n) : (bl keep n k).set y (.bool true) = bl keep n (k + 1) := by
  apply List.ext_getElem?
  intro j
  by_cases hj : j < n
  · rw [bl_get _ _ _ _ hj, contains_take _ _ h, List.getElem?_set, hx]
    by_cases e : y = j
    · subst e; simp [bl_length, hj]
    · rw [if_neg e, bl_get _ _ _ _ hj]
      have : ((y : Int) == (j : Int)) = false := by simp; omega
      rw [this]; simp
  · rw [List.getElem?_eq_none (by simp [bl_length]; omega), List.getElem?_eq_none (by simp [bl_length]; omega)]
theorem bl_all (keep : List Int) (n j : Nat) (h : j < n) : (bl keep n keep.length)[j]? = some (.bool (keep.contains (j : Int))) := by
  rw [bl_get _ _ _ _ h, List.take_length]

theorem info_bool : (Tryd.prog.info? 4).map (fun i => (i.zero, i.size, i.bytes)) = some (some (.bool false), 1, 1) := by kernel_rfl
theorem under_bools : Tryd.prog.underlying 82 = some (.slice 4) := by kernel_rfl

set_option maxHeartbeats 1600000 in
theorem crash_any {base : Nat} {w : World} {b : Nat} {d : Dev} (h : DevAt base w b d) (hok : d.Ok) (kv : Value) (keep : List Int) (hkv : NumRow w kv keep) (hn : d.W.length ≤ 1099511627776) (hm : d.L.length ≤ 1099511627776) (hkl : keep.length ≤ 1099511627776) :
    Calls Tryd.prog 20 #[.pointer (some ⟨b, 0, none⟩), kv] w fun e w' => e = .returned (.tuple #[]) ∧ DevAt base w' b (d.crash keep) ∧ DStep b w w' := by
  obtain ⟨ak, ck, rfl, hkeep⟩ := hkv
  obtain ⟨sv, lv, h⟩ := h
  have HH := hide h
  obtain ⟨ao, c, rfl, hao⟩ := ownsRow_slice h.loo
  have hc1 := h.c1
  obtain ⟨n, hnn⟩ : ∃ n, d.W.length = n := ⟨_, rfl⟩
  rw [hnn] at hc1 hao hn HH
  obtain ⟨m, hmm⟩ : ∃ m, keep.length = m := ⟨_, rfl⟩
  rw [hmm] at hkl
  rw [hmm]
  have HN := hide hnn
  have HM := hide hmm
  have HK := hide hkeep
  have hblt := h.lt
  have HOK := hide hok
  obtain ⟨i0, hi, hz0, hz1, hz2⟩ := info_parts info_bool
  obtain ⟨w1, hmk, hown1, hgr1⟩ := run_make_full (P := Tryd.prog) w w.heap.size 82 4 i0 (.bool false) 1 under_bools hi hz0 hz1 .i64 .i64 n (by rw [hz2]; omega) (by unfold maxLen; omega) (Nat.le_refl _)
  have hb1 : Below w.heap.size w w1 := (Below.refl _ _).grown hgr1 (Nat.le_refl _) (fun k e => by cases e)
  have hown2 : w1.ownsRow w.heap.size 4 1 (.slice (some ⟨w.heap.size, 0, none⟩) n n) n (bl keep n 0) := by
    have e : (madeCells (Value.bool false).cells (n * 1)).toList = List.replicate n (.bool false) := by
      rw [Nat.mul_one]; exact toList_madeCells_one _ n
    rw [bl_zero, ← e]
    exact hown1
  have HO2 := hide hown2
  have HB1 := hide hb1
  clear h hnn hmm hkeep hown1 hgr1 hown2 hb1 hok
  go_enter Tryd.func20, Tryd.ntmps20
  go_wp2_with fail
  go_loopw [17] (fun i wr => ∃ k : Nat, k ≤ m ∧ i = .int .i64 k ∧ wr.ownsRow w.heap.size 4 1 (.slice (some ⟨w.heap.size, 0, none⟩) n n) n (bl keep n k) ∧ Below w.heap.size w wr) (fun i _ => m - (intOf i).toNat)
  case atStart =>
    exact ⟨0, Nat.zero_le _, rfl, unhide HO2, unhide HB1⟩
  case round =>
    obtain ⟨k, hk, rfl, ho, hbw⟩ := hrel
    by_cases hlt : k < m
    · have hkl2 : k < keep.length := by have := unhide HM; omega
      obtain ⟨bk, off, rfl, hck⟩ := unhide HK k hkl2
      have hbk := cell_lt hck
      rw [← hbw.cell (p := ⟨bk, off + k, none⟩) hbk] at hck
      have hout := bl_out keep n k hkl2
      have hin := bl_in keep n k hkl2
      generalize keep[k]'hkl2 = x at *
      by_cases hx : 0 ≤ x ∧ x < n
      · obtain ⟨y, rfl⟩ : ∃ y : Nat, x = (y : Int) := ⟨x.toNat, by omega⟩
        have hy : y < n := by omega
        have HIN := hide (hin y rfl hy)
        have hcy := ownsRow_cell ho rfl y _ (bl_get keep n k y hy)
        have hfy : wr.frozen? ⟨w.heap.size, y, none⟩ = false := by
          obtain ⟨cur, hh, _⟩ := ownsRow_blk ho (k := w.heap.size) rfl
          exact block_frozen hh y
        generalize (keep.take k).contains (y : Int) = bo at *
        have HO := hide ho
        have HBW := hide hbw
        have h1 : (0 : Int) ≤ (y : Int) := by omega
        have h2 : (y : Int) < (n : Int) := by omega
        clear hout hin ho hbw HO2 HB1 hx
        go_wp2_with fail
        go_roundw
        case rel =>
          refine ⟨k + 1, by omega, by go_num, ?_, ?_⟩
          · rw [← unhide HIN]
            exact ownsRow_store (unhide HO) rfl y _
          · exact (unhide HBW).setCell (p := ⟨w.heap.size, y, none⟩) (Nat.le_refl _) _
        case measure => simp [intOf]; omega
      · have HOUT := hide (hout (by omega))
        have HO := hide ho
        have HBW := hide hbw
        clear hout hin ho hbw HO2 HB1
        by_cases hx0 : x < 0
        · go_wp2_with fail
          go_roundw
          case rel => exact ⟨k + 1, by omega, by go_num, by rw [unhide HOUT]; exact unhide HO, unhide HBW⟩
          case measure => simp [intOf]; omega
        · have hxn : (n : Int) ≤ x := by omega
          go_wp2_with fail
          go_roundw
          case rel => exact ⟨k + 1, by omega, by go_num, by rw [unhide HOUT]; exact unhide HO, unhide HBW⟩
          case measure => simp [intOf]; omega
    · have : k = m := by omega
      subst this
      rw [← unhide HM] at ho
      have hwb := hbw.block b hblt
      have hc1' := (hbw.cell (p := ⟨b, 1, none⟩) hblt).trans hc1
      have HO := hide ho
      have HBW := hide hbw
      have HD := hide ((unhide HH).later hbw)
      clear ho hbw HO2 HB1 hwb
      go_wp2_with fail
      obtain ⟨wa, hwa⟩ : ∃ wa, wr = wa := ⟨_, rfl⟩
      rw [hwa] at HO HBW HD ⊢
      clear hc1' hwa hmk
      obtain ⟨N, hN⟩ : ∃ N, w.heap.size = N := ⟨_, rfl⟩
      rw [hN] at HO ⊢
      have HNN := hide hN
      clear hN
      go_loopw [38] (fun i wr => ∃ k : Nat, k ≤ n ∧ i = .int .i64 k ∧ DevIs base wr b sv (.slice ao n c) (d.setL (lay d.L (chosen keep (d.W.take k)))) ∧ wr.ownsRow N 4 1 (.slice (some ⟨N, 0, none⟩) n n) n (bl keep n keep.length) ∧ DStep b wa wr) (fun i _ => n - (intOf i).toNat)
      case atStart =>
        exact ⟨0, Nat.zero_le _, rfl, (unhide HD).1, unhide HO, DStep.refl _ _⟩
      case round =>
        obtain ⟨k, hk, rfl, hr, hch, hbw⟩ := hrel
        have HR := hide hr
        have HCH := hide hch
        by_cases hlt : k < n
        · have hkW : k < d.W.length := by have := unhide HN; omega
          obtain ⟨gl, rfl⟩ := hao (by omega)
          obtain ⟨a2, c2, rfl, has⟩ := ownsRow_slice hr.sec
          have hLl : (d.setL (lay d.L (chosen keep (d.W.take k)))).L.length = d.L.length := lay_length _ _
          have hLp := (unhide HOK).some
          obtain ⟨g, rfl⟩ := has (by rw [hLl]; omega)
          have hat : (d.W[k]'hkW).1 < (d.setL (lay d.L (chosen keep (d.W.take k)))).L.length := by rw [hLl]; exact (unhide HOK).has (d.W[k]'hkW) (List.getElem_mem hkW)
          have hg := wrs_get d.W k hkW
          have hx0 := ownsRow_cell hr.loo (g := gl) (c := c) (by show Value.slice _ n c = Value.slice _ d.W.length c; rw [unhide HN]) _ _ hg.1
          have hx1 := ownsRow_cell hr.loo (g := gl) (c := c) (by show Value.slice _ n c = Value.slice _ d.W.length c; rw [unhide HN]) _ _ hg.2
          have hck := ownsRow_cell hch rfl k _ (bl_all keep n k hlt)
          have HNO : Hid (keep.contains (k : Int) = false → d.setL (lay d.L (chosen keep (d.W.take (k + 1)))) = d.setL (lay d.L (chosen keep (d.W.take k)))) := fun e => by
            rw [chosen_take _ _ _ hkW, e]; rfl
          have HNEW : Hid (keep.contains (k : Int) = true → d.setL (lay d.L (chosen keep (d.W.take (k + 1)))) = { d.setL (lay d.L (chosen keep (d.W.take k))) with L := (d.setL (lay d.L (chosen keep (d.W.take k)))).L.set (d.W[k]'hkW).1 (d.W[k]'hkW).2 }) := fun e => by
            rw [chosen_take _ _ _ hkW, e, if_pos rfl, lay_snoc]; rfl
          clear hg
          generalize d.W[k]'hkW = x at *
          obtain ⟨x, s⟩ := x
          dsimp only at hx0 hx1 hat HNEW
          generalize hd1 : d.setL (lay d.L (chosen keep (d.W.take k))) = d1 at *
          clear hd1
          have hc0 := hr.c0
          have hsec : wr.cell? ⟨g, x, none⟩ = some (.string (S (d1.L[x]'hat))) := ownsRow_cell hr.sec rfl x _ (by simp [secs, List.getElem?_eq_getElem hat])
          have hfz : wr.frozen? ⟨g, x, none⟩ = false := by
            obtain ⟨cur, hh, _⟩ := ownsRow_blk hr.sec (k := g) rfl
            exact block_frozen hh x
          have hgN2 : g ≠ N := fun e => by
            obtain ⟨cur, hh, _⟩ := ownsRow_blk hr.sec (k := g) rfl
            exact ownsRow_unlike hch hh (by decide) (by rw [e]; rfl)
          have hblt2 := hr.lt
          have hglt := cell_lt hsec
          have hNlt := cell_lt hck
          have hbl : ∀ o, Below wr.heap.size wr (wr.alloc o) := fun o => (Below.refl _ wr).alloc (Nat.le_refl _) o
          have hc0A : ∀ o, (wr.alloc o).cell? ⟨b, 0, none⟩ = some (.slice (some ⟨g, 0, none⟩) d1.L.length c2) := fun o => ((hbl o).cell (p := ⟨b, 0, none⟩) hblt2).trans hc0
          have hscA : ∀ o, (wr.alloc o).cell? ⟨g, x, none⟩ = some (.string (S (d1.L[x]'hat))) := fun o => ((hbl o).cell (p := ⟨g, x, none⟩) hglt).trans hsec
          have hfzA : ∀ o, (wr.alloc o).frozen? ⟨g, x, none⟩ = false := fun o => ((hbl o).frozen (p := ⟨g, x, none⟩) hglt).trans hfz
          have hckA : ∀ o, (wr.alloc o).cell? ⟨N, k, none⟩ = some (.bool (keep.contains (k : Int))) := fun o => ((hbl o).cell (p := ⟨N, k, none⟩) hNlt).trans hck
          have hgb : g ≠ b := fun e => hr.nsec (by rw [e]; rfl)
          have hbg := Ne.symm hgb
          have hgN : g ≠ wr.heap.size := by omega
          have hNg := Ne.symm hgN
          have hi1 : (0 : Int) ≤ (x : Int) := by omega
          have hi2 : (x : Int) < (d1.L.length : Int) := by omega
          have hk1 : (0 : Int) ≤ (k : Int) := by omega
          have hk2 : (k : Int) < (n : Int) := by omega
          generalize d1.L[x]'hat = old at *
          clear hat hLl
          have HBW := hide hbw
          obtain ⟨hN0, hN1⟩ := box_two wr ⟨g, x, none⟩ (.string (S s)) (.int .i64 (x : Int)) (.string (S s)) 84
          clear has hr hbl hbw hch
          generalize hkc : keep.contains (k : Int) = ch at *
          clear hkc
          cases ch with
          | false =>
            go_wp2_with fail
            go_roundw
            case rel =>
              refine ⟨k + 1, by omega, by go_num, ?_, ?_, ?_⟩
              · rw [unhide HNO (by simp)]
                exact ((unhide HR).later ((Below.refl _ _).alloc (Nat.le_refl _) _)).1
              · exact ownsRow_later (unhide HCH) ((Below.refl _ _).alloc (Nat.le_refl _) _)
              · exact (unhide HBW).trans ((unhide HR).later ((Below.refl _ _).alloc (Nat.le_refl _) _)).2
            case measure => simp [intOf]; omega
          | true =>
            go_wp2_with fail
            go_region_held3 (fun w' => w'.cell? ⟨b, 0, none⟩ = some (.slice (some ⟨g, 0, none⟩) d1.L.length c2) ∧ w'.cell? ⟨wr.heap.size, 0, none⟩ = some (.int .i64 (x : Int)) ∧ w'.cell? ⟨wr.heap.size, 1, none⟩ = some (.string (S s))) (go_keep) (fail)
            all_goals
              clear hc0A hscA hfzA hckA hc0 hsec hfz hx0 hx1 hN0 hN1 hck
              go_wp2
              go_roundw
              case rel =>
                refine ⟨k + 1, by omega, by go_num, ?_, ?_, ?_⟩
                · rw [unhide HNEW (by simp)]
                  exact (((unhide HR).setSector rfl x s).1.later (((Below.refl _ _).alloc (Nat.le_refl _) _).drew)).1
                · exact ownsRow_later (ownsRow_same (unhide HCH) (w' := wr.setCell ⟨g, x, none⟩ (.string (S s))) (fun j hj => by cases hj; exact heap_setCell_other wr ⟨g, x, none⟩ N _ (Ne.symm hgN2))) (((Below.refl _ _).alloc (Nat.le_refl _) _).drew)
                · exact ((unhide HBW).trans ((unhide HR).setSector rfl x s).2).trans (((unhide HR).setSector rfl x s).1.later (((Below.refl _ _).alloc (Nat.le_refl _) _).drew)).2
              case measure => simp [intOf]; omega
        · have : k = n := by omega
          subst this
          have e : d.W.take k = d.W := List.take_of_length_le (by have := unhide HN; omega)
          rw [e] at HR
          have hr1 := (unhide HR).setNil.1.setDown false
          have HST := hide (((unhide HD).2.trans hbw).trans ((unhide HR).setNil.2.trans ((unhide HR).setNil.1.stepSet 2 (.bool false) (by omega))))
          have HARM := hide (arm_any (n := -1) ⟨_, _, hr1⟩)
          have hq1 := hr.c1
          have hq2 := hr.c2
          have hf1 := hr.fz 1
          have hf2 := hr.fz 2
          clear hr hbw e hch hr1
          go_wp2_with fail
          refine (unhide HARM).mono ?_
          rintro e w9 ⟨rfl, h9, h10⟩
          have H9 := hide (And.intro h9 h10)
          clear h9 h10 HARM
          go_wp2
          go_end0
          exact ⟨rfl, (unhide H9).1, (unhide HST).trans (unhide H9).2⟩
end Go.Proofs.YtajcaglbbdbibaaDoor
