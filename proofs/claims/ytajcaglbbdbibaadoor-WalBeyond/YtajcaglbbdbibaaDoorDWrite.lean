/- The contract of a device's Write. -/
import Derived.Test.YtajcaglbbdbibaaDoorDCalls
namespace Go.Proofs.YtajcaglbbdbibaaDoor
open Go.RowKit
set_option linter.unusedVariables false
set_option maxRecDepth 100000

theorem info_write : (Tryd.prog.info? 84).map (fun i => (i.zero, i.size, i.bytes)) = some (some (.agg #[.int .i64 0, .string ⟨#[]⟩]), 2, 24) := by kernel_rfl
theorem under_writes : Tryd.prog.underlying 69 = some (.slice 84) := by kernel_rfl

theorem cell_two_new (w : World) (u v : Value) (t : TypeId) (j : Nat) (x : Value) (h : [u, v][j]? = some x) : (w.alloc (.cells #[u, v] t)).cell? ((⟨w.heap.size, 0, none⟩ : Addr).add j) = some x := by
  rw [plain_add, Nat.zero_add, block_cell (heap_alloc_new w _)]
  match j, h with
  | 0, h => simpa using h
  | 1, h => simpa using h
  | j + 2, h => simp at h
theorem ownsRow_later {w w' : World} {base : Nat} {e : TypeId} {size : Nat} {v : Value} {n : Nat} {xs : List Value} (h : w.ownsRow base e size v n xs) (hb : Below w.heap.size w w') : w'.ownsRow base e size v n xs :=
  ownsRow_same h fun k hk => hb.block k (by obtain ⟨c, hc, _⟩ := ownsRow_blk h hk; exact block_lt hc)
theorem below_undrew {w w' : World} (h : Below w.drew.heap.size w.drew w') : Below w.heap.size w w' := ⟨h.os, h.tape, h.output, h.size, h.block⟩
theorem d_grown_drew {w w1 : World} {r : Option Nat} (h : w.drew.grownBy w1 r) : w.grownBy w1 r := ⟨h.os, h.tape, h.output, h.size, h.block⟩
theorem d_fresh_of {A : Prop} {v : Option Nat} {M N : Nat} (h : A ∨ ∀ k, v = some k → N ≤ k) (hN : M ≤ N) : A ∨ ∀ k, v = some k → M ≤ k := by
  rcases h with h | h
  · exact Or.inl h
  · exact Or.inr fun k hk => Nat.le_trans hN (h k hk)

section
variable {base : Nat} {w w0 w1 : World} {b : Nat} {sv lv : Value} {d : Dev}
theorem DevIs.grow (h : DevIs base w b sv lv d) (hb0 : Below w.heap.size w w0) (hg : w0.grownBy w1 lv.ownBlock) : w1.heap[b]? = w.heap[b]? ∧ (∀ k, sv.ownBlock = some k → w1.heap[k]? = w.heap[k]?) := by
  have hs0 := hb0.size
  have hlt := h.lt
  refine ⟨?_, fun k hk => ?_⟩
  · rw [hg.block b (by omega) (fun e => h.nloo e.symm), hb0.block b hlt]
  · obtain ⟨cur, hc, _⟩ := ownsRow_blk h.sec hk
    have := block_lt hc
    rw [hg.block k (by omega) (fun e => h.ns hk e.symm), hb0.block k this]
theorem DevIs.grown1 (h : DevIs base w b sv lv d) (hb0 : Below w.heap.size w w0) (hg : w0.grownBy w1 lv.ownBlock) : w1.cell? ⟨b, 1, none⟩ = some lv ∧ w1.frozen? ⟨b, 1, none⟩ = false := by
  have hb := (h.grow hb0 hg).1
  rw [World.cell?_of_block (w := w) (a := ⟨b, 1, none⟩) hb, World.frozen?_of_block (w := w) (a := ⟨b, 1, none⟩) hb]
  exact ⟨h.c1, h.fz 1⟩
theorem DevIs.put (h : DevIs base w b sv lv d) (hb0 : Below w.heap.size w w0) (hg : w0.grownBy w1 lv.ownBlock) {v : Value} {i : Nat} {s : List UInt8}
    (hown : w1.ownsRow base 84 2 v (d.W.length + 1) (wrs d.W ++ [.int .i64 (i : Int), .string (S s)])) (hfr : v.ownBlock = lv.ownBlock ∨ ∀ k, v.ownBlock = some k → w.heap.size ≤ k) :
    DevIs base (w1.setCell ⟨b, 1, none⟩ v) b sv v { d with W := d.W ++ [(i, s)] } ∧ DStep b w (w1.setCell ⟨b, 1, none⟩ v) := by
  obtain ⟨hb, hs⟩ := h.grow hb0 hg
  have hblk : w1.heap[b]? = _ := hb.trans h.blk
  have ho : ∀ j, j ≠ b → (w1.setCell ⟨b, 1, none⟩ v).heap[j]? = w1.heap[j]? := fun j hj => heap_setCell_other w1 ⟨b, 1, none⟩ j v hj
  have hvb : v.ownBlock ≠ some b := ownsRow_unlike hown hblk (by decide)
  refine ⟨⟨h.lo, heap_setCell_same w1 b 1 _ _ v hblk, ?_, ?_⟩, ⟨hg.os.trans hb0.os, hg.tape.trans hb0.tape, hg.output.trans hb0.output, ?_, fun k hk hf => ?_⟩⟩
  · exact ownsRow_same h.sec fun k hk => by rw [ho k (fun e => h.nsec (by rw [hk, e])), hs k hk]
  · have := ownsRow_same hown (w' := w1.setCell ⟨b, 1, none⟩ v) (fun k hk => ho k (fun e => hvb (by rw [hk, e])))
    have e : wrs (d.W ++ [(i, s)]) = wrs d.W ++ [.int .i64 (i : Int), .string (S s)] := by rw [wrs_append]; rfl
    simpa [e] using this
  · have := hg.size; have := hb0.size; simp [World.setCell]; omega
  · have hl := hf.loo lv h.c1
    have hlt0 := hb0.size
    refine ⟨by rw [ho k hf.ne, hg.block k (by omega) (fun e => hl e.symm), hb0.block k hk], hf.ne, fun u hu => ?_, fun u hu => ?_⟩
    · rw [World.cell?_setCell_other] at hu
      · rw [World.cell?_of_block (w := w) (a := ⟨b, 0, none⟩) hb] at hu
        exact hf.sec u hu
      · simp
    · rw [World.cell?_setCell_same _ _ _ (block_cell hblk 1)] at hu
      cases hu
      rcases hfr with e | e
      · rw [e]; exact hl
      · intro ek; have := e k ek; omega
end

set_option maxHeartbeats 1600000 in
theorem write_any {base : Nat} {w : World} {b : Nat} {d : Dev} (h : DevAt base w b d) (i : Int) (s : List UInt8) (hl : d.left < 9223372036854775808) (hc : d.calls < 4611686018427387904) (hn : d.W.length ≤ 1099511627776) (hB : base ≤ w.heap.size) :
    Calls Tryd.prog 42 #[.pointer (some ⟨b, 0, none⟩), .int .i64 i, .string (S s)] w fun e w' => e = .returned (.int .i64 (d.writeE i s)) ∧ DevAt base w' b (d.write i s) ∧ DStep b w w' := by
  obtain ⟨i0, hi, hz0, hz1, hz2⟩ := info_parts info_write
  have HHAS := hide (has_any h i)
  have HBEG := hide (begin_any h hl hc)
  have HW := hide (fun w => whole_any s w)
  have hsz : (S s).size = s.length := rfl
  have HH := hide h
  obtain ⟨E, hE⟩ : ∃ E, d.writeE i s = E := ⟨_, rfl⟩
  have hE2 := hE
  unfold Dev.writeE at hE2
  rw [hE]
  have HE := hide hE
  obtain ⟨D, hD⟩ : ∃ D, d.write i s = D := ⟨_, rfl⟩
  have hD2 := hD
  unfold Dev.write at hD2
  rw [hD]
  obtain ⟨z, hz⟩ : ∃ z, whole s = z := ⟨_, rfl⟩
  rw [hz] at HW hD2
  clear hE hD h hz
  by_cases hno : d.no i
  · rw [if_pos (Or.inl hno)] at hE2 hD2
    subst hE2 hD2
    rw [decide_eq_true hno] at HHAS
    clear HBEG HW
    go_enter Tryd.func42, Tryd.ntmps42
    go_wp2_with fail
    refine (unhide HHAS).mono ?_
    rintro e w1 ⟨rfl, rfl⟩
    go_wp2_with fail
    go_ret
    exact ⟨rfl, unhide HH, DStep.refl _ _⟩
  · rw [decide_eq_false hno] at HHAS
    by_cases h64 : 64 < s.length
    · rw [if_pos (Or.inr h64)] at hE2 hD2
      subst hE2 hD2
      clear HBEG HW
      go_enter Tryd.func42, Tryd.ntmps42
      go_wp2_with fail
      refine (unhide HHAS).mono ?_
      rintro e w1 ⟨rfl, rfl⟩
      go_wp2_with fail
      go_ret
      exact ⟨rfl, unhide HH, DStep.refl _ _⟩
    · rw [if_neg (by simp [hno, h64])] at hE2 hD2
      by_cases ho : d.out
      · rw [if_pos ho] at hE2 hD2
        subst hE2 hD2
        rw [decide_eq_true ho] at HBEG
        clear HW
        go_enter Tryd.func42, Tryd.ntmps42
        go_wp2_with fail
        refine (unhide HHAS).mono ?_
        rintro e w1 ⟨rfl, rfl⟩
        go_wp2_with fail
        refine (unhide HBEG).mono ?_
        rintro e w1 ⟨rfl, h1, h2⟩
        have H12 := hide (And.intro h1 h2)
        clear h1 h2
        go_wp2_with fail
        go_ret
        exact ⟨rfl, (unhide H12).1, (unhide H12).2⟩
      · rw [if_neg ho] at hE2 hD2
        subst hE2 hD2
        rw [decide_eq_false ho] at HBEG
        have hin : (i.toNat : Int) = i := by unfold Dev.no at hno; omega
        have HIN := hide hin
        clear hin
        go_enter Tryd.func42, Tryd.ntmps42
        go_wp2_with fail
        refine (unhide HHAS).mono ?_
        rintro e w1 ⟨rfl, rfl⟩
        go_wp2_with fail
        refine (unhide HBEG).mono ?_
        rintro e wb ⟨rfl, ⟨sv, lv, h1⟩, h2⟩
        have hbW : d.begin.W = d.W := by unfold Dev.begin; rw [if_neg ho]
        have hc1 := h1.c1
        have hblt := h1.lt
        have H2 := hide h2
        have HBW := hide hbW
        have HSZ := hide (Nat.le_trans hB h2.size)
        obtain ⟨ao, c, rfl, _⟩ := ownsRow_slice h1.loo
        have H1 := hide h1
        have HOWN := hide h1.loo
        rw [hbW] at hc1 H1 HOWN
        clear h1 h2 hbW HBEG HHAS
        go_wp2_with fail
        go_region_law (first
            | (go_simp; go_at_call 40; refine (unhide HW _).mono ?_; rintro e w2 ⟨rfl, hb2⟩; replace hb2 := below_undrew hb2; have hc2 := (hb2.cell (p := ⟨b, 1, none⟩) (by simpa using hblt)).trans hc1; have hc2A : ∀ o, (w2.alloc o).cell? ⟨b, 1, none⟩ = some (.slice ao d.W.length c) := (fun o => by rw [World.cell?_of_block (w := w2) (a := ⟨b, 1, none⟩) (Below.heap_alloc w2 o b (by have := hb2.size; omega))]; exact hc2); have HB2 := hide hb2; have HOWN2 := hide (ownsRow_later (unhide HOWN) hb2); have HSZ2 := hide (Nat.le_trans (unhide HSZ) hb2.size); clear hb2)
            | (refine step_append_fresh rfl (.tmp 23) (.tmp 28) 69 rfl base 84 i0 (.agg #[.int .i64 0, .string ⟨#[]⟩]) 2 24 under_writes hi hz0 hz1 hz2 rfl (by decide) (.slice ao d.W.length c) d.W.length (wrs d.W) (by simp [Act.eval]) ((unhide HOWN2).alloc _) ⟨w2.heap.size, 0, none⟩ 1 1 [.int .i64 i, .string (S z)] (by simp [Act.eval]) rfl (fun j x hx => by exact cell_two_new _ _ _ _ j x hx) (fun u hu => by simp at hu; rcases hu with rfl | rfl <;> rfl) (by unfold maxLen; omega) (by omega) (by have := unhide HSZ2; simp; omega) ?_; intro v' w3 hown' hgrow hfresh; have hg1 := (unhide H1).grown1 ((unhide HB2).alloc (unhide HB2).size _) hgrow; have HPUT := hide ((unhide H1).put ((unhide HB2).alloc (unhide HB2).size _) hgrow (i := i.toNat) (s := z) (by rw [unhide HIN, unhide HBW]; exact hown') (d_fresh_of hfresh (by have := (unhide HB2).size; simp; omega))); obtain ⟨hc3, hf3⟩ := hg1; obtain ⟨a1, c1, rfl, _⟩ := ownsRow_slice hown'; clear hown' hgrow hfresh))
        all_goals
          have hput := unhide HPUT
          rw [unhide HBW] at hput
          clear HPUT hc3 hf3 hc2 hc2A hc1
          go_wp2
          go_ret
          exact ⟨rfl, ⟨_, _, hput.1⟩, (unhide H2).trans hput.2⟩
end Go.Proofs.YtajcaglbbdbibaaDoor
