/- Texts that this proof needs, one behind the other: VPMath, VParse, VRefParse, VReadMath, VAwake, VReads, VBackMath, VFew, VRefText, VOpen. -/
import Derived.Test.YtgeibmlhmljhpaaDoorBundleV16
import Derived.Test.YtgeibmlhmljhpaaDoorBundleC17
import Derived.Test.YtgeibmlhmljhpaaDoorBundleV11
import Derived.Test.YtgeibmlhmljhpaaDoorBundleV13
import Derived.Test.YtgeibmlhmljhpaaDoorBundleC15
import Derived.Test.YtgeibmlhmljhpaaDoorBundleC10
import Derived.Sort.AtCall
import Derived.Test.YtgeibmlhmljhpaaDoorBundleV4
import Derived.Test.YtgeibmlhmljhpaaDoorBundleA14
import Derived.Deep.SlicePairs
import Derived.Lib.SmallJoins
/- What bytes are as a state: plain functions. -/
namespace Go.Proofs.YtgeibmlhmljhpaaDoor
open Go.RowKit
set_option linter.unusedVariables false
set_option maxRecDepth 100000

def rdRow (st : Codec.St) : (List UInt8 × List UInt8) × Codec.St := (((Codec.takeS 24 st).1, (Codec.takeS 24 (Codec.takeS 24 st).2).1), (Codec.takeS 24 (Codec.takeS 24 st).2).2)
def rdR : Nat → Codec.St → List (List UInt8 × List UInt8) × Codec.St
  | 0, st => ([], st)
  | k + 1, st => ((rdR k st).1 ++ [(rdRow (rdR k st).2).1], (rdRow (rdR k st).2).2)
theorem rdR_length (st : Codec.St) : ∀ k, (rdR k st).1.length = k
  | 0 => rfl
  | k + 1 => by show ((rdR k st).1 ++ [_]).length = _; rw [List.length_append, rdR_length st k]; rfl
def pK (l : List UInt8) : Nat × Codec.St := Codec.takeN 7 (l, 0)
def pI (l : List UInt8) : Int × Codec.St := Codec.takeI (pK l).2
def pC (l : List UInt8) : Nat × Codec.St := Codec.takeN 8 (pI l).2
def pR (l : List UInt8) : List (List UInt8 × List UInt8) × Codec.St := rdR (pC l).1 (pC l).2
def pV (l : List UInt8) : VS := ⟨((pK l).1 : Nat), (pI l).1, (pR l).1⟩
def pE (l : List UInt8) : Int := if (Codec.endOf (pR l).2).2 ≠ 0 then (Codec.endOf (pR l).2).2 else (pV l).check
def pS (l : List UInt8) : VS := if pE l ≠ 0 then ⟨0, 0, []⟩ else pV l
theorem takeN_most (m : Nat) (s : Codec.St) : (Codec.takeN (m : Int) s).1 ≤ m := by
  unfold Codec.takeN
  split
  · rename_i h
    have : (max (m : Int) 0).toNat = m := by omega
    rwa [this] at h
  · exact Nat.zero_le _
theorem pC_le (l : List UInt8) : (pC l).1 ≤ 8 := takeN_most 8 _
theorem takeI_bounds (s : Codec.St) : -9223372036854775808 ≤ (Codec.takeI s).1 ∧ (Codec.takeI s).1 ≤ 9223372036854775807 := Codec.unfold_bounds _ (Codec.takeU_lt s)
/- Behind an error nothing is read. -/
theorem takeU_stuck (e : Int) (he : e ≠ 0) : Codec.takeU ([], e) = (0, ([], e)) := by
  have hf : Codec.fail 1 ([], e) = ([], e) := by simp [Codec.fail, he]
  have h1 : Codec.take 1 ([], e) = ([], ([], e)) := by simp [Codec.take, hf]
  have h2 : Codec.size ([], e) = (0, ([], e)) := by unfold Codec.size; rw [h1]
  have h3 : Codec.digits ([], e) = ([], ([], e)) := by unfold Codec.digits; rw [h2]; simp [Codec.take]
  unfold Codec.takeU
  rw [h3]
theorem takeS_stuck {s : Codec.St} (hi : Inv s) (he : s.2 ≠ 0) (m : Int) : (Codec.takeS m s).2 = s := by
  obtain ⟨l, e⟩ := s
  have hl : l = [] := hi he
  subst hl
  have hu := takeU_stuck e he
  have hn : Codec.takeN m ([], e) = (0, ([], e)) := by
    unfold Codec.takeN
    rw [hu]
    simp
  unfold Codec.takeS
  rw [hn]
  simp [Codec.take]
theorem rdRow_stuck {s : Codec.St} (hi : Inv s) (he : s.2 ≠ 0) : (rdRow s).2 = s := by
  unfold rdRow
  dsimp only
  rw [takeS_stuck hi he 24, takeS_stuck hi he 24]
theorem rdRow_inv {s : Codec.St} (hi : Inv s) : Inv (rdRow s).2 := by
  unfold rdRow
  exact (hi.takeS 24).takeS 24
theorem rdR_succ (k : Nat) (st : Codec.St) : rdR (k + 1) st = ((rdR k st).1 ++ [(rdRow (rdR k st).2).1], (rdRow (rdR k st).2).2) := by rw [rdR]
theorem rdR_inv {s : Codec.St} (hi : Inv s) : ∀ k, Inv (rdR k s).2
  | 0 => hi
  | k + 1 => by
    have h := rdRow_inv (rdR_inv hi k)
    rw [rdR_succ]
    dsimp only
    exact h
theorem rdR_stuck {s : Codec.St} (hi : Inv s) (k j : Nat) (hkj : k ≤ j) (he : (rdR k s).2.2 ≠ 0) : (rdR j s).2 = (rdR k s).2 := by
  induction j with
  | zero => rw [show k = 0 by omega]
  | succ j ih =>
    by_cases e : k = j + 1
    · rw [e]
    · have := ih (by omega)
      rw [rdR_succ]
      dsimp only
      rw [this]
      exact rdRow_stuck (rdR_inv hi k) he
theorem pK_inv (l : List UInt8) : Inv (pK l).2 := Inv.takeN (s := (l, 0)) (fun h => absurd rfl h) 7
theorem pI_inv (l : List UInt8) : Inv (pI l).2 := (pK_inv l).takeI
theorem pC_inv (l : List UInt8) : Inv (pC l).2 := (pI_inv l).takeN 8
end Go.Proofs.YtgeibmlhmljhpaaDoor
/- The contract of Parse. -/
namespace Go.Proofs.YtgeibmlhmljhpaaDoor
open Go.RowKit
set_option linter.unusedVariables false
set_option maxRecDepth 100000

structure Px (w : World) (R : Obj) (sb : Nat) (kd n : Int) (rows : List (List UInt8 × List UInt8)) (v : Value) (st : Codec.St) (wr : World) : Prop where
  low : Below (w.heap.size + 1) (w.alloc R) wr
  inn : InAt wr (w.heap.size + 1) st
  hsb : w.heap.size + 1 < sb
  bx : ∃ t, wr.heap[sb]? = some (.cells #[.int .i64 kd, .int .i64 n, v] t (0, 0))
  own : wr.ownsRow (sb + 1) 47 2 v rows.length (R9 rows)
section
variable {w wr w' : World} {R : Obj} {sb : Nat} {kd n : Int} {rows : List (List UInt8 × List UInt8)} {v : Value} {st st' : Codec.St}
theorem Px.lt (h : Px w R sb kd n rows v st wr) : sb < wr.heap.size := by obtain ⟨t, hb⟩ := h.bx; exact block_lt hb
theorem Px.call (h : Px w R sb kd n rows v st wr) (hi : InAt w' (w.heap.size + 1) st') (hb : But (w.heap.size + 1) wr.heap.size wr w') : Px w R sb kd n rows v st' w' := by
  have hs := h.lt
  have h1 := h.hsb
  obtain ⟨t, hx⟩ := h.bx
  refine ⟨h.low.trans (hb.below (Nat.le_refl _) (by omega)), hi, h.hsb, ⟨t, (hb.block sb hs (by omega)).trans hx⟩, ownsRow_same h.own fun k hk => ?_⟩
  have := h.own.lt k hk
  exact hb.block k (by omega) (by omega)
theorem Px.later (h : Px w R sb kd n rows v st wr) (hb : Below wr.heap.size wr w') : Px w R sb kd n rows v st w' := by
  have hs := h.lt
  have h1 := h.hsb
  obtain ⟨t, hx⟩ := h.bx
  exact ⟨h.low.trans (hb.mono (by omega)), h.inn.later hb, h.hsb, ⟨t, (hb.block sb hs).trans hx⟩, ownsRow_below h.own hb⟩
theorem Px.cells (h : Px w R sb kd n rows v st wr) : wr.cell? ⟨sb, 0, none⟩ = some (.int .i64 kd) ∧ wr.cell? ⟨sb, 1, none⟩ = some (.int .i64 n) ∧ wr.cell? ⟨sb, 2, none⟩ = some v ∧ wr.frozen? ⟨sb, 2, none⟩ = false := by
  obtain ⟨t, hx⟩ := h.bx
  refine ⟨?_, ?_, ?_, block_frozen hx 2⟩ <;> rw [block_cell hx] <;> rfl
theorem Px.grown (h : Px w R sb kd n rows v st wr) {o : Obj} {w2 : World} (hg : (wr.alloc o).grownBy w2 v.ownBlock) : Below (sb + 1) wr w2 ∧ w2.cell? ⟨sb, 2, none⟩ = some v ∧ w2.frozen? ⟨sb, 2, none⟩ = false := by
  have hs := h.lt
  have hb : Below (sb + 1) wr w2 := ((Below.refl (sb + 1) wr).alloc (by omega) o).grown hg (by simp; omega) (fun j hj => (h.own.lt j hj).1)
  obtain ⟨t, hx⟩ := h.bx
  have hx2 := (hb.block sb (by omega)).trans hx
  exact ⟨hb, by rw [block_cell hx2]; rfl, block_frozen hx2 2⟩
theorem Px.step (h : Px w R sb kd n rows v st wr) {o : Obj} {w2 : World} {v' : Value} {r : List UInt8 × List UInt8} (hg : (wr.alloc o).grownBy w2 v.ownBlock) (ho : w2.ownsRow (sb + 1) 47 2 v' (rows.length + 1) (R9 rows ++ [.string (S r.1), .string (S r.2)])) :
    Px w R sb kd n (rows ++ [r]) v' st (w2.setCell ⟨sb, 2, none⟩ v') := by
  obtain ⟨hb, _, _⟩ := h.grown hg
  have h1 := h.hsb
  have hs := h.lt
  obtain ⟨t, hx⟩ := h.bx
  have hx2 := (hb.block sb (by omega)).trans hx
  have hoth : ∀ k, k ≠ sb → (w2.setCell ⟨sb, 2, none⟩ v').heap[k]? = w2.heap[k]? := fun k hk => heap_setCell_other _ ⟨sb, 2, none⟩ _ _ hk
  have hsame : ∀ k, k < sb → (w2.setCell ⟨sb, 2, none⟩ v').heap[k]? = wr.heap[k]? := fun k hk => (hoth k (by omega)).trans (hb.block k (by omega))
  refine ⟨⟨hb.os.trans h.low.os, hb.tape.trans h.low.tape, hb.output.trans h.low.output, ?_, fun k hk => (hsame k (by omega)).trans (h.low.block k hk)⟩, ?_, h.hsb, ⟨t, ?_⟩, ?_⟩
  · have e1 := h.low.size
    have e2 := hb.size
    simp at e1 ⊢
    omega
  · have e := hsame (w.heap.size + 1) (by omega)
    exact ⟨by have := h.inn.lt; have := hb.size; simp; omega, by rw [World.cell?_of_block (w := wr) (a := ⟨w.heap.size + 1, 0, none⟩) e]; exact h.inn.c0, by rw [World.cell?_of_block (w := wr) (a := ⟨w.heap.size + 1, 1, none⟩) e]; exact h.inn.c1, by rw [World.frozen?_of_block (w := wr) (a := ⟨w.heap.size + 1, 0, none⟩) e]; exact h.inn.f0, by rw [World.frozen?_of_block (w := wr) (a := ⟨w.heap.size + 1, 1, none⟩) e]; exact h.inn.f1, h.inn.len⟩
  · have := heap_setCell_same w2 sb 2 _ _ v' hx2
    simpa [Array.setIfInBounds] using this
  · rw [List.length_append, R9_append]
    refine ownsRow_same ho fun k hk => ?_
    have := (ho.lt k hk).1
    exact hoth k (by omega)
theorem Px.done (h : Px w R sb kd n rows v st wr) {a0 b0 c0 : Value} {t : TypeId} (hR : R = .cells #[a0, b0, c0] t (0, 0)) (a b c : Value) :
    ((put3 wr w.heap.size a b c).cell? ⟨w.heap.size, 0, none⟩ = some a ∧ (put3 wr w.heap.size a b c).cell? ⟨w.heap.size, 1, none⟩ = some b ∧ (put3 wr w.heap.size a b c).cell? ⟨w.heap.size, 2, none⟩ = some c) ∧
    Below w.heap.size w (put3 wr w.heap.size a b c) ∧ (put3 wr w.heap.size a b c).ownsRow w.heap.size 47 2 v rows.length (R9 rows) ∧ (wr.cell? ⟨w.heap.size, 0, none⟩ = some a0 ∧ wr.cell? ⟨w.heap.size, 1, none⟩ = some b0 ∧ wr.cell? ⟨w.heap.size, 2, none⟩ = some c0) ∧ ∀ j, wr.frozen? ⟨w.heap.size, j, none⟩ = false := by
  subst hR
  have hr := (h.low.block w.heap.size (by omega)).trans (heap_alloc_new w _)
  have h1 := h.hsb
  have hsz := h.low.size
  rw [World.size_alloc] at hsz
  refine ⟨put3_cells hr a b c, ⟨h.low.os, h.low.tape, h.low.output, by rw [put3_size]; omega, fun k hk => ?_⟩, ownsRow_less (ownsRow_same h.own fun k hk => ?_) (by omega), ⟨?_, ?_, ?_⟩, fun j => block_frozen hr j⟩
  · rw [put3_other _ _ _ _ (by omega), h.low.block k (by omega)]
    exact Below.heap_alloc w _ k hk
  · have := (h.own.lt k hk).1
    rw [put3_other _ _ _ _ (by omega)]
  · rw [block_cell hr]; rfl
  · rw [block_cell hr]; rfl
  · rw [block_cell hr]; rfl
theorem Px.low' (h : Px w R sb kd n rows v st wr) : Below w.heap.size w wr := (under_box R).trans (h.low.mono (by omega))
end
theorem Px.start {w w3 : World} {R : Obj} {kd n : Int} {st : Codec.St} {t : TypeId} (hb : Below (w.heap.size + 1) (w.alloc R) w3) (hi : InAt w3 (w.heap.size + 1) st) : Px w R w3.heap.size kd n [] (.slice none 0 0) st (w3.alloc (.cells #[.int .i64 kd, .int .i64 n, .slice none 0 0] t)) := by
  have h1 := hi.lt
  exact ⟨hb.alloc (by omega) _, hi.later (under_box _), h1, ⟨t, heap_alloc_new w3 _⟩, World.ownsRow_nil _ _ _ _⟩

set_option maxHeartbeats 12800000 in
theorem vparse_any {w : World} (hw : WD w) (l : List UInt8) (hl : l.length ≤ 1099511627776) :
    Calls Tryd.prog 15 #[.string (S l)] w fun e w' => ∃ v, e = .returned (.tuple #[v, .int .i64 (pE l)]) ∧ StOwn w.heap.size 47 w' v (pS l) ∧ Below w.heap.size w w' := by
  obtain ⟨i0, hi, hz0, hz1, hz2⟩ := info_parts info_vrow
  obtain ⟨R, hR⟩ : ∃ R : Obj, R = .cells #[.int .i64 0, .int .i64 0, .slice none 0 0] 24 (0, 0) := ⟨_, rfl⟩
  have HRD := hide (read_any l (w.alloc R) hl)
  rw [World.size_alloc] at HRD
  have HN1 := hide (fun (w1 : World) (h1 : InAt w1 (w.heap.size + 1) (l, 0)) => n_any (w.heap.size + 1) 7 (l, 0) w1 h1 (by decide) (by decide))
  have HI1 := hide (fun (w1 : World) (h1 : InAt w1 (w.heap.size + 1) (pK l).2) => i_any (w.heap.size + 1) (pK l).2 w1 h1)
  have HN2 := hide (fun (w1 : World) (h1 : InAt w1 (w.heap.size + 1) (pI l).2) => n_any (w.heap.size + 1) 8 (pI l).2 w1 h1 (by decide) (by decide))
  have HSS := hide (fun (st : Codec.St) (w1 : World) (h1 : InAt w1 (w.heap.size + 1) st) => s_any (w.heap.size + 1) 24 st w1 h1 (by decide) (by decide))
  have HEN := hide (fun (st : Codec.St) (w1 : World) (h1 : InAt w1 (w.heap.size + 1) st) => end_any (w.heap.size + 1) st w1 h1)
  have HCK := hide (fun (w1 : World) (hb : Below w.heap.size w w1) (v : Value) (s : VS) (h : StAt w1 v s) => vcheck_any h (hw.later hb))
  change Hid (∀ w1, InAt w1 (w.heap.size + 1) (l, 0) → Calls Tryd.prog 37 #[.pointer (some ⟨w.heap.size + 1, 0, none⟩), .int .i64 7] w1 fun e w' => e = .returned (.int .i64 ((pK l).1 : Nat)) ∧ InAt w' (w.heap.size + 1) (pK l).2 ∧ But (w.heap.size + 1) w1.heap.size w1 w') at HN1
  change Hid (∀ w1, InAt w1 (w.heap.size + 1) (pK l).2 → Calls Tryd.prog 38 #[.pointer (some ⟨w.heap.size + 1, 0, none⟩)] w1 fun e w' => e = .returned (.int .i64 (pI l).1) ∧ InAt w' (w.heap.size + 1) (pI l).2 ∧ But (w.heap.size + 1) w1.heap.size w1 w') at HI1
  change Hid (∀ w1, InAt w1 (w.heap.size + 1) (pI l).2 → Calls Tryd.prog 37 #[.pointer (some ⟨w.heap.size + 1, 0, none⟩), .int .i64 8] w1 fun e w' => e = .returned (.int .i64 ((pC l).1 : Nat)) ∧ InAt w' (w.heap.size + 1) (pC l).2 ∧ But (w.heap.size + 1) w1.heap.size w1 w') at HN2
  have hc8 := pC_le l
  have HPE : Hid (pE l = if (Codec.endOf (rdR (pC l).1 (pC l).2).2).2 ≠ 0 then (Codec.endOf (rdR (pC l).1 (pC l).2).2).2 else VS.check ⟨((pK l).1 : Nat), (pI l).1, (rdR (pC l).1 (pC l).2).1⟩) := rfl
  have HPS : Hid (pS l = if pE l ≠ 0 then ⟨0, 0, []⟩ else ⟨((pK l).1 : Nat), (pI l).1, (rdR (pC l).1 (pC l).2).1⟩) := rfl
  have HRL := hide (rdR_length (pC l).2)
  generalize pE l = E at *
  generalize pS l = V at *
  generalize (pK l).1 = kd at *
  generalize (pK l).2 = s1 at *
  generalize (pI l).1 = nn at *
  generalize (pI l).2 = s2 at *
  generalize (pC l).1 = cnt at *
  generalize (pC l).2 = s3 at *
  clear hw
  go_enter Tryd.func15, Tryd.ntmps15
  go_wp2_with fail
  rw [← hR]
  refine (unhide HRD).mono ?_
  rintro e w1 ⟨rfl, hi1, hb1, hs1⟩
  have HB1 := hide hb1
  clear hs1 HRD hb1
  go_wp2_with fail
  refine (unhide HN1 _ hi1).mono ?_
  rintro e w2 ⟨rfl, hi2, hb2⟩
  have HB2 := hide ((unhide HB1).trans (hb2.below (Nat.le_refl _) (by have := hi1.lt; omega)))
  clear hb2 HN1 HB1 hi1
  go_wp2_with fail
  refine (unhide HI1 _ hi2).mono ?_
  rintro e w3 ⟨rfl, hi3, hb3⟩
  have HPX := hide (fun (t : TypeId) => Px.start (kd := (kd : Int)) (n := nn) (t := t) ((unhide HB2).trans (hb3.below (Nat.le_refl _) (by have := hi2.lt; omega))) hi3)
  clear hb3 HI1 HB2 hi2 hi3
  go_wp2_with fail
  refine (unhide HN2 _ (unhide HPX _).inn).mono ?_
  rintro e w4 ⟨rfl, hi4, hb4⟩
  have HP4 := hide ((unhide HPX _).call hi4 hb4)
  clear hi4 hb4 HN2 HPX
  obtain ⟨sb, hsb⟩ : ∃ sb, w3.heap.size = sb := ⟨_, rfl⟩
  rw [hsb] at HP4
  rw [hsb]
  clear hsb
  go_wp2_with fail
  go_loopw [17] (fun i wr => ∃ (k : Nat) (v : Value), k ≤ cnt ∧ i = .int .i64 (k : Int) ∧ Px w R sb (kd : Int) nn (rdR k s3).1 v (rdR k s3).2 wr) (fun i _ => cnt - (intOf i).toNat)
  case atStart => exact ⟨0, _, Nat.zero_le _, rfl, unhide HP4⟩
  case round =>
    obtain ⟨k, v, hk, rfl, hpx⟩ := hrel
    have hlen := unhide HRL k
    obtain ⟨va, vc, rfl, _⟩ := ownsRow_slice hpx.own
    rw [hlen] at hpx
    by_cases hlt : k < cnt
    · obtain ⟨_, _, p2, pf⟩ := hpx.cells
      have HPD := hide (hpx.later (Below.refl _ _).drew)
      have HSC := hide (rdR_succ k s3)
      have HLN := hide hlen
      clear hpx HP4 hlen
      generalize (rdR k s3).1 = rws at *
      generalize (rdR k s3).2 = st at *
      have HS1 := hide (unhide HSS st)
      have HS2 := hide (unhide HSS (Codec.takeS 24 st).2)
      have HNX : Hid (rdR (k + 1) s3 = (rws ++ [((Codec.takeS 24 st).1, (Codec.takeS 24 (Codec.takeS 24 st).2).1)], (Codec.takeS 24 (Codec.takeS 24 st).2).2)) := by
        show _ = _
        rw [unhide HSC]
        unfold rdRow
        rfl
      clear HSC HSS HEN HCK
      generalize (Codec.takeS 24 st).1 = x at *
      generalize (Codec.takeS 24 st).2 = st1 at *
      generalize (Codec.takeS 24 st1).1 = y at *
      generalize (Codec.takeS 24 st1).2 = st2 at *
      have hi1 : (k : Int) < (cnt : Int) := by omega
      go_wp2_with fail
      go_region_law (first
        | (go_simp; go_at_call 39; refine (unhide HS2 _ (unhide HP1).inn).mono ?_; rintro e w2 ⟨rfl, hi2, hb2⟩; have HP2 := hide ((unhide HP1).call hi2 hb2); obtain ⟨_, _, q2, qf⟩ := (unhide HP2).cells; have qA := fun o => ((unhide HP2).later (under_box o)).cells.2.2.1; clear hi2 hb2)
        | (go_simp; go_at_call 39; refine (unhide HS1 _ (unhide HPD).inn).mono ?_; rintro e w1 ⟨rfl, hi1', hb1⟩; have HP1 := hide ((unhide HPD).call hi1' hb1); obtain ⟨_, _, x2, xf⟩ := (unhide HP1).cells; clear hi1' hb1)
        | (refine step_append_fresh rfl (.tmp 20) (.tmp 26) 22 rfl (sb + 1) 47 i0 (.agg #[.string ⟨#[]⟩, .string ⟨#[]⟩]) 2 32 under_vrows hi hz0 hz1 hz2 rfl (by decide) (.slice va k vc) k (R9 rws) (by simp [Act.eval]) (by have := (unhide HP2).own.alloc (.cells #[.string (S x), .string (S y)] 47); rwa [unhide HLN] at this) ⟨w2.heap.size, 0, none⟩ 1 1 [.string (S x), .string (S y)] (by simp [Act.eval]) rfl (fun j u hu => by exact pair_new _ _ _ _ j u hu) (fun u hu => by simp at hu; rcases hu with rfl | rfl <;> rfl) (by unfold maxLen; omega) (by omega) (by have := (unhide HP2).lt; simp; omega) ?_; intro v' w3 hown' hgrow _; obtain ⟨ua, uc, rfl, _⟩ := ownsRow_slice hown'; obtain ⟨_, g2, gf⟩ := (unhide HP2).grown hgrow; have HN := hide ((unhide HP2).step (r := (x, y)) hgrow (by rw [unhide HLN]; exact hown')); clear hown' hgrow))
      all_goals
        go_wp2_with fail
        go_roundw
        case rel => exact ⟨k + 1, _, by omega, by go_num, by rw [unhide HNX]; exact unhide HN⟩
        case measure => simp [intOf]; omega
    · have hkn : k = cnt := by omega
      subst hkn
      have HPC := hide hpx
      have HE1 := hide (unhide HEN (rdR k s3).2)
      have HLN := hide hlen
      clear hpx HP4 hlen HSS HEN
      generalize (rdR k s3).1 = rws at *
      generalize (rdR k s3).2 = st at *
      have hi1 : ¬ (k : Int) < (k : Int) := by omega
      go_wp2_with fail
      refine (unhide HE1 _ (unhide HPC).inn).mono ?_
      rintro e w5 ⟨rfl, hi5, hb5⟩
      have HPZ := hide ((unhide HPC).call hi5 hb5)
      clear hi5 hb5 HE1 HPC
      generalize Codec.endOf st = se at *
      generalize se.2 = er at *
      by_cases he : er = 0
      · have e0 : (er != 0) = false := by rw [he]; rfl
        have hE : E = VS.check ⟨(kd : Int), nn, rws⟩ := by rw [unhide HPE, if_neg (by simpa using he)]
        obtain ⟨b0, b1, b2, _⟩ := (unhide HPZ).cells
        have HC := hide (unhide HCK w5 (unhide HPZ).low' (.agg #[.int .i64 (kd : Int), .int .i64 nn, .slice va k vc]) ⟨(kd : Int), nn, rws⟩ ⟨_, rfl, Row2.of_own (unhide HPZ).own⟩)
        rw [← hE] at HC
        clear hE HCK he
        go_wp2_with fail
        refine (unhide HC).mono ?_
        rintro e w6 ⟨rfl, hb6⟩
        have HP6 := hide ((unhide HPZ).later hb6)
        clear hb6 HC HPZ b0 b1 b2
        obtain ⟨b0, b1, b2, _⟩ := (unhide HP6).cells
        by_cases hc0 : E = 0
        · have ec : (E != 0) = false := by rw [hc0]; rfl
          have hV : V = ⟨(kd : Int), nn, rws⟩ := by rw [unhide HPS, if_neg (by simpa using hc0)]
          obtain ⟨⟨z0, z1, z2⟩, zlow, zown, ⟨y0, y1, y2⟩, yf⟩ := (unhide HP6).done hR (.int .i64 (kd : Int)) (.int .i64 nn) (.slice va k vc)
          unfold put3 at z0 z1 z2 zlow zown
          have HE0 := hide hc0
          clear hc0
          go_wp2_with fail
          exact bodyPost_ret (v := .tuple #[.agg #[.int .i64 (kd : Int), .int .i64 nn, .slice va k vc], .int .i64 0]) (by simp [results, Tryd.results15, go_sem, z0, z1, z2]) rfl ⟨_, by rw [unhide HE0], by rw [hV]; exact ⟨_, rfl, zown⟩, zlow⟩
        · have ec : (E != 0) = true := by rw [bne_iff_ne]; exact hc0
          have hV : V = ⟨0, 0, []⟩ := by rw [unhide HPS, if_pos hc0]
          clear hc0
          obtain ⟨⟨z0, z1, z2⟩, zlow, zown, ⟨y0, y1, y2⟩, yf⟩ := (unhide HP6).done hR (.int .i64 0) (.int .i64 0) (.slice none 0 0)
          unfold put3 at z0 z1 z2 zlow
          go_wp2_with fail
          exact bodyPost_ret (v := .tuple #[.agg #[.int .i64 0, .int .i64 0, .slice none 0 0], .int .i64 E]) (by simp [results, Tryd.results15, go_sem, z0, z1, z2]) rfl ⟨_, rfl, by rw [hV]; exact ⟨_, rfl, World.ownsRow_nil _ _ _ _⟩, zlow⟩
      · have e0 : (er != 0) = true := by rw [bne_iff_ne]; exact he
        have hE : E = er := by rw [unhide HPE, if_pos he]
        have hV : V = ⟨0, 0, []⟩ := by rw [unhide HPS, hE, if_pos he]
        subst hE
        clear he
        obtain ⟨⟨z0, z1, z2⟩, zlow, zown, ⟨y0, y1, y2⟩, yf⟩ := (unhide HPZ).done hR (.int .i64 0) (.int .i64 0) (.slice none 0 0)
        unfold put3 at z0 z1 z2 zlow
        go_wp2_with fail
        exact bodyPost_ret (v := .tuple #[.agg #[.int .i64 0, .int .i64 0, .slice none 0 0], .int .i64 E]) (by simp [results, Tryd.results15, go_sem, z0, z1, z2]) rfl ⟨_, rfl, by rw [hV]; exact ⟨_, rfl, World.ownsRow_nil _ _ _ _⟩, zlow⟩
end Go.Proofs.YtgeibmlhmljhpaaDoor
/- The contract of the document's Parse. -/
namespace Go.Proofs.YtgeibmlhmljhpaaDoor
open Go.RowKit
set_option linter.unusedVariables false
set_option maxRecDepth 100000

theorem rdRow_len (s : Codec.St) : (rdRow s).2.1.length ≤ s.1.length := by
  unfold rdRow
  exact Nat.le_trans (takeS_length 24 _) (takeS_length 24 s)
theorem rdR_len (s : Codec.St) : ∀ k, (rdR k s).2.1.length ≤ s.1.length
  | 0 => Nat.le_refl _
  | k + 1 => by
    have h := rdRow_len (rdR k s).2
    rw [rdR_succ]
    dsimp only
    exact Nat.le_trans h (rdR_len s k)
theorem pK_len (l : List UInt8) : (pK l).2.1.length ≤ l.length := takeN_length 7 (l, 0)
theorem pI_len (l : List UInt8) : (pI l).2.1.length ≤ l.length := Nat.le_trans (Codec.takeU_length _) (pK_len l)
theorem pC_len (l : List UInt8) : (pC l).2.1.length ≤ l.length := Nat.le_trans (takeN_length 8 _) (pI_len l)
theorem end_zero {s : Codec.St} (h : (Codec.endOf s).2 = 0) : s.2 = 0 := by
  unfold Codec.endOf at h
  split at h
  · unfold Codec.fail at h
    split at h
    · cases h
    · exact h
  · exact h

structure Rx (w : World) (R : Obj) (ib sb : Nat) (kd n : Int) (rows : List (List UInt8 × List UInt8)) (v : Value) (st : Codec.St) (wr : World) : Prop where
  low : Below (w.heap.size + 1) (w.alloc R) wr
  h1 : w.heap.size < ib
  h2 : ib < sb
  ibx : ∃ t, wr.heap[ib]? = some (.cells #[.string (S st.1), .int .i64 st.2] t (0, 0))
  bx : ∃ t, wr.heap[sb]? = some (.cells #[.int .i64 kd, .int .i64 n, v] t (0, 0))
  own : wr.ownsRow (sb + 1) 55 2 v rows.length (R9 rows)
section
variable {w wr w' : World} {R : Obj} {ib sb : Nat} {kd n : Int} {rows : List (List UInt8 × List UInt8)} {v : Value} {st st' : Codec.St}
theorem Rx.lt (h : Rx w R ib sb kd n rows v st wr) : sb < wr.heap.size := by obtain ⟨t, hb⟩ := h.bx; exact block_lt hb
theorem Rx.later (h : Rx w R ib sb kd n rows v st wr) (hb : Below wr.heap.size wr w') : Rx w R ib sb kd n rows v st w' := by
  have hs := h.lt
  have e1 := h.h1
  have e2 := h.h2
  obtain ⟨t, hx⟩ := h.bx
  obtain ⟨t', hi⟩ := h.ibx
  exact ⟨h.low.trans (hb.mono (by omega)), h.h1, h.h2, ⟨t', (hb.block ib (by omega)).trans hi⟩, ⟨t, (hb.block sb hs).trans hx⟩, ownsRow_below h.own hb⟩
theorem Rx.cells (h : Rx w R ib sb kd n rows v st wr) : (wr.cell? ⟨sb, 0, none⟩ = some (.int .i64 kd) ∧ wr.cell? ⟨sb, 1, none⟩ = some (.int .i64 n) ∧ wr.cell? ⟨sb, 2, none⟩ = some v ∧ wr.frozen? ⟨sb, 2, none⟩ = false) ∧ (wr.cell? ⟨ib, 0, none⟩ = some (.string (S st.1)) ∧ wr.cell? ⟨ib, 1, none⟩ = some (.int .i64 st.2) ∧ ∀ j, wr.frozen? ⟨ib, j, none⟩ = false) := by
  obtain ⟨t, hx⟩ := h.bx
  obtain ⟨t', hi⟩ := h.ibx
  refine ⟨⟨?_, ?_, ?_, block_frozen hx 2⟩, ⟨?_, ?_, fun j => block_frozen hi j⟩⟩
  · rw [block_cell hx]; rfl
  · rw [block_cell hx]; rfl
  · rw [block_cell hx]; rfl
  · rw [block_cell hi]; rfl
  · rw [block_cell hi]; rfl
theorem Rx.putI (h : Rx w R ib sb kd n rows v st wr) (st' : Codec.St) : Rx w R ib sb kd n rows v st' ((wr.setCell ⟨ib, 0, none⟩ (.string (S st'.1))).setCell ⟨ib, 1, none⟩ (.int .i64 st'.2)) := by
  have e1 := h.h1
  have e2 := h.h2
  obtain ⟨t, hx⟩ := h.bx
  obtain ⟨t', hi⟩ := h.ibx
  have ho : ∀ k, k ≠ ib → ((wr.setCell ⟨ib, 0, none⟩ (.string (S st'.1))).setCell ⟨ib, 1, none⟩ (.int .i64 st'.2)).heap[k]? = wr.heap[k]? := fun k hk => by
    rw [heap_setCell_other _ ⟨ib, 1, none⟩ _ _ hk, heap_setCell_other _ ⟨ib, 0, none⟩ _ _ hk]
  refine ⟨⟨h.low.os, h.low.tape, h.low.output, by have := h.low.size; simpa using this, fun k hk => (ho k (by omega)).trans (h.low.block k hk)⟩, h.h1, h.h2, ⟨t', ?_⟩, ⟨t, (ho sb (by omega)).trans hx⟩, ownsRow_same h.own fun k hk => ho k (by have := (h.own.lt k hk).1; omega)⟩
  have s1 := heap_setCell_same wr ib 0 _ _ (.string (S st'.1)) hi
  have s2 := heap_setCell_same _ ib 1 _ _ (.int .i64 st'.2) s1
  simpa [Array.setIfInBounds] using s2
theorem Rx.grown (h : Rx w R ib sb kd n rows v st wr) {o : Obj} {w2 : World} (hg : (wr.alloc o).grownBy w2 v.ownBlock) : Below (sb + 1) wr w2 ∧ w2.cell? ⟨sb, 2, none⟩ = some v ∧ w2.frozen? ⟨sb, 2, none⟩ = false := by
  have hs := h.lt
  have hb : Below (sb + 1) wr w2 := ((Below.refl (sb + 1) wr).alloc (by omega) o).grown hg (by simp; omega) (fun j hj => (h.own.lt j hj).1)
  obtain ⟨t, hx⟩ := h.bx
  have hx2 := (hb.block sb (by omega)).trans hx
  exact ⟨hb, by rw [block_cell hx2]; rfl, block_frozen hx2 2⟩
theorem Rx.step (h : Rx w R ib sb kd n rows v st wr) {o : Obj} {w2 : World} {v' : Value} {r : List UInt8 × List UInt8} (hg : (wr.alloc o).grownBy w2 v.ownBlock) (ho : w2.ownsRow (sb + 1) 55 2 v' (rows.length + 1) (R9 rows ++ [.string (S r.1), .string (S r.2)])) :
    Rx w R ib sb kd n (rows ++ [r]) v' st (w2.setCell ⟨sb, 2, none⟩ v') := by
  obtain ⟨hb, _, _⟩ := h.grown hg
  have e1 := h.h1
  have e2 := h.h2
  obtain ⟨t, hx⟩ := h.bx
  obtain ⟨t', hi⟩ := h.ibx
  have hx2 := (hb.block sb (by omega)).trans hx
  have hoth : ∀ k, k ≠ sb → (w2.setCell ⟨sb, 2, none⟩ v').heap[k]? = w2.heap[k]? := fun k hk => heap_setCell_other _ ⟨sb, 2, none⟩ _ _ hk
  have hsame : ∀ k, k < sb → (w2.setCell ⟨sb, 2, none⟩ v').heap[k]? = wr.heap[k]? := fun k hk => (hoth k (by omega)).trans (hb.block k (by omega))
  refine ⟨⟨hb.os.trans h.low.os, hb.tape.trans h.low.tape, hb.output.trans h.low.output, ?_, fun k hk => (hsame k (by omega)).trans (h.low.block k hk)⟩, h.h1, h.h2, ⟨t', (hsame ib (by omega)).trans hi⟩, ⟨t, ?_⟩, ?_⟩
  · have e1 := h.low.size
    have e2 := hb.size
    simp at e1 ⊢
    omega
  · have := heap_setCell_same w2 sb 2 _ _ v' hx2
    simpa [Array.setIfInBounds] using this
  · rw [List.length_append, R9_append]
    refine ownsRow_same ho fun k hk => ?_
    have := (ho.lt k hk).1
    exact hoth k (by omega)
theorem Rx.done (h : Rx w R ib sb kd n rows v st wr) {a0 b0 c0 : Value} {t : TypeId} (hR : R = .cells #[a0, b0, c0] t (0, 0)) (a b c : Value) :
    ((put3 wr w.heap.size a b c).cell? ⟨w.heap.size, 0, none⟩ = some a ∧ (put3 wr w.heap.size a b c).cell? ⟨w.heap.size, 1, none⟩ = some b ∧ (put3 wr w.heap.size a b c).cell? ⟨w.heap.size, 2, none⟩ = some c) ∧
    Below w.heap.size w (put3 wr w.heap.size a b c) ∧ (put3 wr w.heap.size a b c).ownsRow w.heap.size 55 2 v rows.length (R9 rows) ∧ (wr.cell? ⟨w.heap.size, 0, none⟩ = some a0 ∧ wr.cell? ⟨w.heap.size, 1, none⟩ = some b0 ∧ wr.cell? ⟨w.heap.size, 2, none⟩ = some c0) ∧ ∀ j, wr.frozen? ⟨w.heap.size, j, none⟩ = false := by
  subst hR
  have hr := (h.low.block w.heap.size (by omega)).trans (heap_alloc_new w _)
  have e1 := h.h1
  have e2 := h.h2
  have hsz := h.low.size
  rw [World.size_alloc] at hsz
  refine ⟨put3_cells hr a b c, ⟨h.low.os, h.low.tape, h.low.output, by rw [put3_size]; omega, fun k hk => ?_⟩, ownsRow_less (ownsRow_same h.own fun k hk => ?_) (by omega), ⟨?_, ?_, ?_⟩, fun j => block_frozen hr j⟩
  · rw [put3_other _ _ _ _ (by omega), h.low.block k (by omega)]
    exact Below.heap_alloc w _ k hk
  · have := (h.own.lt k hk).1
    rw [put3_other _ _ _ _ (by omega)]
  · rw [block_cell hr]; rfl
  · rw [block_cell hr]; rfl
  · rw [block_cell hr]; rfl
end
theorem Rx.start {w w3 : World} {R : Obj} {kd n : Int} {st : Codec.St} {ib : Nat} {t : TypeId} (hb : Below (w.heap.size + 1) (w.alloc R) w3) (h1 : w.heap.size < ib) (hi : ∃ t', w3.heap[ib]? = some (.cells #[.string (S st.1), .int .i64 st.2] t' (0, 0))) : Rx w R ib w3.heap.size kd n [] (.slice none 0 0) st (w3.alloc (.cells #[.int .i64 kd, .int .i64 n, .slice none 0 0] t)) := by
  obtain ⟨t', hi⟩ := hi
  have hlt := block_lt hi
  exact ⟨hb.alloc (by omega) _, h1, hlt, ⟨t', (Below.heap_alloc _ _ _ hlt).trans hi⟩, ⟨t, heap_alloc_new w3 _⟩, World.ownsRow_nil _ _ _ _⟩

set_option maxHeartbeats 12800000 in
theorem rparse_any {w : World} (l : List UInt8) (hl : l.length ≤ 1099511627776) :
    Calls Tryd.prog 20 #[.string (S l)] w fun e w' => ∃ v, e = .returned (.tuple #[v, .int .i64 (pE l)]) ∧ StOwn w.heap.size 55 w' v (pS l) ∧ Below w.heap.size w w' := by
  obtain ⟨i0, hi, hz0, hz1, hz2⟩ := info_parts info_rrow
  obtain ⟨R, hR⟩ : ∃ R : Obj, R = .cells #[.int .i64 0, .int .i64 0, .slice none 0 0] 29 (0, 0) := ⟨_, rfl⟩
  have HN1 := hide (fun (w1 : World) => rtakeN_any (l, 0) 7 w1 (fun h => absurd rfl h) hl (by decide) (by decide))
  have HI1 := hide (fun (w1 : World) => rtakeI_any (pK l).2 w1 (pK_inv l) (by have := pK_len l; omega))
  have HN2 := hide (fun (w1 : World) => rtakeN_any (pI l).2 8 w1 (pI_inv l) (by have := pI_len l; omega) (by decide) (by decide))
  have HSS := hide (fun (st : Codec.St) (h1 : Inv st) (h2 : st.1.length ≤ 1099511627776) (w1 : World) => rtakeS_any st 24 w1 h1 h2 (by decide) (by decide))
  have HEN := hide (fun (st : Codec.St) (h1 : Inv st) (w1 : World) => rend_any st w1 h1)
  unfold InV at HN1 HI1 HN2 HSS HEN
  change Hid (∀ w1, Calls Tryd.prog 49 #[.agg #[.string (S l), .int .i64 0], .int .i64 7] w1 fun e w' => e = .returned (.tuple #[.agg #[.string (S (pK l).2.1), .int .i64 (pK l).2.2], .int .i64 ((pK l).1 : Nat)]) ∧ Below w1.heap.size w1 w') at HN1
  change Hid (∀ w1, Calls Tryd.prog 50 #[.agg #[.string (S (pK l).2.1), .int .i64 (pK l).2.2]] w1 fun e w' => e = .returned (.tuple #[.agg #[.string (S (pI l).2.1), .int .i64 (pI l).2.2], .int .i64 (pI l).1]) ∧ Below w1.heap.size w1 w') at HI1
  change Hid (∀ w1, Calls Tryd.prog 49 #[.agg #[.string (S (pI l).2.1), .int .i64 (pI l).2.2], .int .i64 8] w1 fun e w' => e = .returned (.tuple #[.agg #[.string (S (pC l).2.1), .int .i64 (pC l).2.2], .int .i64 ((pC l).1 : Nat)]) ∧ Below w1.heap.size w1 w') at HN2
  have hc8 := pC_le l
  have HPE : Hid (pE l = if (Codec.endOf (rdR (pC l).1 (pC l).2).2).2 ≠ 0 then (Codec.endOf (rdR (pC l).1 (pC l).2).2).2 else VS.check ⟨((pK l).1 : Nat), (pI l).1, (rdR (pC l).1 (pC l).2).1⟩) := rfl
  have HPS : Hid (pS l = if pE l ≠ 0 then ⟨0, 0, []⟩ else ⟨((pK l).1 : Nat), (pI l).1, (rdR (pC l).1 (pC l).2).1⟩) := rfl
  have HRL := hide (rdR_length (pC l).2)
  have HIV := hide (rdR_inv (pC_inv l))
  have HLE := hide (fun k => Nat.le_trans (rdR_len (pC l).2 k) (Nat.le_trans (pC_len l) hl))
  have HSTK := hide (fun k j => rdR_stuck (pC_inv l) k j)
  generalize pE l = E at *
  generalize pS l = V at *
  generalize (pK l).1 = kd at *
  generalize (pK l).2 = s1 at *
  generalize (pI l).1 = nn at *
  generalize (pI l).2 = s2 at *
  generalize (pC l).1 = cnt at *
  generalize (pC l).2 = s3 at *
  go_enter Tryd.func20, Tryd.ntmps20
  go_wp2_with fail
  rw [← hR]
  refine (unhide HN1 _).mono ?_
  rintro e w1 ⟨rfl, hb1⟩
  rw [World.size_alloc] at hb1
  have hs1 : w.heap.size + 1 ≤ w1.heap.size := by have := hb1.size; rwa [World.size_alloc] at this
  have HB1 := hide hb1
  clear HN1 hb1
  go_wp2_with fail
  refine (unhide HI1 _).mono ?_
  rintro e w2 ⟨rfl, hb2⟩
  rw [World.size_alloc] at hb2
  have hs2 : w1.heap.size + 1 ≤ w2.heap.size := by have := hb2.size; rwa [World.size_alloc] at this
  have hx2 : w2.heap[w1.heap.size]? = some (.cells #[.string (S s1.1), .int .i64 s1.2] 81 (0, 0)) := (hb2.block w1.heap.size (by omega)).trans (heap_alloc_new w1 _)
  have c0 : w2.cell? ⟨w1.heap.size, 0, none⟩ = some (.string (S s1.1)) := by rw [block_cell hx2]; rfl
  have c1 : w2.cell? ⟨w1.heap.size, 1, none⟩ = some (.int .i64 s1.2) := by rw [block_cell hx2]; rfl
  have cf : ∀ j, w2.frozen? ⟨w1.heap.size, j, none⟩ = false := fun j => block_frozen hx2 j
  have HB2 := hide (((unhide HB1).alloc hs1 _).trans (hb2.mono (by omega)))
  have HX2 := hide hx2
  clear HI1 hb2 HB1 hx2
  go_wp2_with fail
  refine (unhide HN2 _).mono ?_
  rintro e w3 ⟨rfl, hb3⟩
  obtain ⟨ib, hib⟩ : ∃ ib, w1.heap.size = ib := ⟨_, rfl⟩
  rw [hib] at hs1 hs2 HX2 hb3 c0 c1 cf
  rw [hib]
  clear hib
  have hx3 : w3.heap[ib]? = some (.cells #[.string (S s2.1), .int .i64 s2.2] 81 (0, 0)) := by
    have p1 := heap_setCell_same w2 ib 0 _ _ (.string (S s2.1)) (unhide HX2)
    have p2 := heap_setCell_same _ ib 1 _ _ (.int .i64 s2.2) p1
    refine (hb3.block ib (by simp; omega)).trans ?_
    simpa [Array.setIfInBounds] using p2
  have hb3' : Below (w.heap.size + 1) (w.alloc R) w3 := (((unhide HB2).setCell (p := ⟨ib, 0, none⟩) hs1 _).setCell (p := ⟨ib, 1, none⟩) hs1 _).trans (hb3.mono (by simp; omega))
  have hs3 := hb3.size
  clear c0 c1 cf
  have c0 : w3.cell? ⟨ib, 0, none⟩ = some (.string (S s2.1)) := by rw [block_cell hx3]; rfl
  have c1 : w3.cell? ⟨ib, 1, none⟩ = some (.int .i64 s2.2) := by rw [block_cell hx3]; rfl
  have cf : ∀ j, w3.frozen? ⟨ib, j, none⟩ = false := fun j => block_frozen hx3 j
  have HRX := hide (fun (t : TypeId) => Rx.start (kd := (kd : Int)) (n := nn) (t := t) (st := s3) (ib := ib) (w3 := (w3.setCell ⟨ib, 0, none⟩ (.string (S s3.1))).setCell ⟨ib, 1, none⟩ (.int .i64 s3.2)) ((hb3'.setCell (p := ⟨ib, 0, none⟩) hs1 _).setCell (p := ⟨ib, 1, none⟩) hs1 _) (by omega) ⟨81, by
    have p1 := heap_setCell_same w3 ib 0 _ _ (.string (S s3.1)) hx3
    have p2 := heap_setCell_same _ ib 1 _ _ (.int .i64 s3.2) p1
    simpa [Array.setIfInBounds] using p2⟩)
  clear hb3 hb3' hx3 HX2 HB2 HN2 hs2
  obtain ⟨sb, hsb⟩ : ∃ sb, w3.heap.size = sb := ⟨_, rfl⟩
  have hszX : ((w3.setCell ⟨ib, 0, none⟩ (.string (S s3.1))).setCell ⟨ib, 1, none⟩ (.int .i64 s3.2)).heap.size = w3.heap.size := by simp
  rw [hszX] at HRX
  clear hszX
  go_wp2_with fail
  rw [hsb] at HRX
  clear hsb
  go_loopw [9] (fun i wr => ∃ (k : Nat) (v : Value), k ≤ cnt ∧ i = .int .i64 (k : Int) ∧ Rx w R ib sb (kd : Int) nn (rdR k s3).1 v (rdR k s3).2 wr) (fun i _ => cnt - (intOf i).toNat)
  case atStart => exact ⟨0, _, Nat.zero_le _, rfl, unhide HRX _⟩
  case round =>
    obtain ⟨k, v, hk, rfl, hrx⟩ := hrel
    have hlen := unhide HRL k
    obtain ⟨va, vc, rfl, _⟩ := ownsRow_slice hrx.own
    rw [hlen] at hrx
    obtain ⟨⟨a0, a1, a2, af⟩, ⟨b0, b1, bf⟩⟩ := hrx.cells
    have HIVK := hide (unhide HIV k)
    have HLEK := hide (unhide HLE k)
    have HSC := hide (rdR_succ k s3)
    have HSK := hide (fun h => unhide HSTK k cnt hk h)
    have HKC : Hid (k = cnt → (rdR cnt s3) = ((rdR k s3).1, (rdR k s3).2)) := fun h => by rw [h]
    have HLN := hide hlen
    clear hlen HRX c0 c1 cf HIV HLE HSTK
    generalize (rdR k s3).1 = rws at *
    generalize (rdR k s3).2 = st at *
    by_cases hlt : k < cnt
    · have hi1 : (k : Int) < (cnt : Int) := by omega
      by_cases hst : st.2 = 0
      · have es : (st.2 == 0) = true := by rw [hst]; rfl
        have HS1 := hide (unhide HSS st (unhide HIVK) (unhide HLEK))
        have HS2 := hide (unhide HSS (Codec.takeS 24 st).2 ((unhide HIVK).takeS 24) (Nat.le_trans (takeS_length 24 st) (unhide HLEK)))
        have HNX : Hid (rdR (k + 1) s3 = (rws ++ [((Codec.takeS 24 st).1, (Codec.takeS 24 (Codec.takeS 24 st).2).1)], (Codec.takeS 24 (Codec.takeS 24 st).2).2)) := by
          show _ = _
          rw [unhide HSC]
          unfold rdRow
          rfl
        have HRK := hide hrx
        clear HSC HSS HEN HSK HKC hst hrx HIVK HLEK
        generalize (Codec.takeS 24 st).1 = x at *
        generalize (Codec.takeS 24 st).2 = st1 at *
        generalize (Codec.takeS 24 st1).1 = y at *
        generalize (Codec.takeS 24 st1).2 = st2 at *
        go_wp2_with fail
        refine (unhide HS1 wr).mono ?_
        rintro e wa ⟨rfl, hba⟩
        have HRA := hide ((unhide HRK).later hba)
        clear hba HRK HS1 a0 a1 a2 af b0 b1 bf
        go_wp2_with fail
        refine (unhide HS2 _).mono ?_
        rintro e wb ⟨rfl, hbb⟩
        have HRB := hide (((unhide HRA).later (under_box _)).later hbb)
        have hsb2 := (unhide HRB).lt
        have h12 := (unhide HRB).h2
        clear hbb HRA HS2
        have hA := fun o => ((unhide HRB).later (under_box o)).cells
        have a2 := fun o => (hA o).1.2.2.1
        have b0 := fun o => (hA o).2.1
        have b1 := fun o => (hA o).2.2.1
        have bf := fun o j => (hA o).2.2.2 j
        have hneq : ib ≠ sb := by omega
        have HX := hide (fun o => ((unhide HRB).later (under_box o)).putI st2)
        clear hA
        go_wp2_with (first | (at_builtin; refine wpList_append_fresh rfl _ _ 27 rfl (sb + 1) 55 i0 (.agg #[.string ⟨#[]⟩, .string ⟨#[]⟩]) 2 32 under_rrows hi hz0 hz1 hz2 rfl (by decide) _ _ _ rfl ((unhide HX _).own.alloc _) ⟨wb.heap.size + 1, 0, none⟩ 1 1 [.string (S x), .string (S y)] rfl rfl (by have := pair_new (((wb.alloc (.cells #[.string (S st2.1), .int .i64 st2.2] 81)).setCell ⟨ib, 0, none⟩ (.string (S st2.1))).setCell ⟨ib, 1, none⟩ (.int .i64 st2.2)) (.string (S x)) (.string (S y)) 55; simpa using this) ?c2 ?c3 ?c4 ?c5 ?_) | fail)
        case c2 => first | (intro u hu; simp at hu; rcases hu with rfl | rfl <;> rfl) | exact ⟨rfl, rfl⟩
        case c3 => have := unhide HLN; unfold maxLen; omega
        case c4 => have := unhide HLN; omega
        case c5 => simp; omega
        intro v' wd hown' hgrow _
        obtain ⟨ua, uc, rfl, _⟩ := ownsRow_slice hown'
        obtain ⟨_, g2, gf⟩ := (unhide HX _).grown hgrow
        have HN := hide ((unhide HX _).step (r := (x, y)) hgrow hown')
        clear hown' hgrow a2 b0 b1 bf HX
        go_wp2_with fail
        go_roundw
        case rel => exact ⟨k + 1, _, by omega, by go_num, by rw [unhide HNX]; exact unhide HN⟩
        case measure => simp [intOf]; omega
      · have es : (st.2 == 0) = false := by rw [beq_eq_false_iff_ne]; exact hst
        have HQ1 : Hid ((Codec.endOf (rdR cnt s3).2).2 = (Codec.endOf st).2) := by show _ = _; rw [unhide HSK hst]
        have HQ2 : Hid ((Codec.endOf st).2 = 0 → (rdR cnt s3).1 = rws) := fun h => absurd (end_zero h) hst
        clear hst HSK HKC HSC
        have HE1 := hide (unhide HEN st (unhide HIVK))
        have HRK := hide hrx
        clear hrx HEN HSS
        go_wp2_with fail
        refine (unhide HE1 wr).mono ?_
        rintro e w5 ⟨rfl, hb5⟩
        have HR5 := hide ((unhide HRK).later hb5)
        clear hb5 HRK a0 a1 a2 af b0 b1 bf
        obtain ⟨⟨a0, a1, a2, af⟩, ⟨b0, b1, bf⟩⟩ := (unhide HR5).cells
        obtain ⟨er, her⟩ : ∃ er, (Codec.endOf st).2 = er := ⟨_, rfl⟩
        rw [her] at HQ1 HQ2 HE1 ⊢
        clear her
        by_cases he : er = 0
        · have e0 : (er != 0) = false := by rw [he]; rfl
          have hE : E = VS.check ⟨(kd : Int), nn, rws⟩ := by rw [unhide HPE, unhide HQ1, if_neg (by simpa using he), unhide HQ2 he]
          have HC := hide (fun (wy : World) (hb : Below w5.heap.size w5 wy) => rcheck_any (w := wy) (v := .agg #[.int .i64 (kd : Int), .int .i64 nn, .slice va k vc]) (s := ⟨(kd : Int), nn, rws⟩) ⟨_, rfl, (Row2.of_own (unhide HR5).own).later hb⟩)
          rw [← hE] at HC
          have HVV : Hid (E = 0 → V = ⟨(kd : Int), nn, rws⟩) := fun h => by rw [unhide HPS, if_neg (by simpa using h), unhide HQ2 he]
          clear hE he HE1
          go_wp2_with fail
          refine (unhide HC _ (Below.refl _ _)).mono ?_
          rintro e w6 ⟨rfl, hb6⟩
          have HB6 := hide hb6
          have HR6 := hide ((unhide HR5).later hb6)
          clear hb6 a0 a1 a2 af b0 b1 bf
          obtain ⟨⟨a0, a1, a2, af⟩, ⟨b0, b1, bf⟩⟩ := (unhide HR6).cells
          by_cases hc0 : E = 0
          · have ec : (E != 0) = false := by rw [hc0]; rfl
            have hV := unhide HVV hc0
            obtain ⟨⟨z0, z1, z2⟩, zlow, zown, ⟨y0, y1, y2⟩, yf⟩ := (unhide HR6).done hR (.int .i64 (kd : Int)) (.int .i64 nn) (.slice va k vc)
            unfold put3 at z0 z1 z2 zlow zown
            have HE0 := hide hc0
            clear hc0
            go_wp2_with fail
            exact bodyPost_ret (v := .tuple #[.agg #[.int .i64 (kd : Int), .int .i64 nn, .slice va k vc], .int .i64 0]) (by simp [results, Tryd.results20, go_sem, z0, z1, z2]) rfl ⟨_, by rw [unhide HE0], by rw [hV]; exact ⟨_, rfl, zown⟩, zlow⟩
          · have ec : (E != 0) = true := by rw [bne_iff_ne]; exact hc0
            have hV : V = ⟨0, 0, []⟩ := by rw [unhide HPS, if_pos hc0]
            clear hc0
            go_wp2_with fail
            refine (unhide HC _ (unhide HB6)).mono ?_
            rintro e w7 ⟨rfl, hb7⟩
            have HR7 := hide ((unhide HR6).later hb7)
            clear hb7
            obtain ⟨⟨z0, z1, z2⟩, zlow, zown, ⟨y0, y1, y2⟩, yf⟩ := (unhide HR7).done hR (.int .i64 0) (.int .i64 0) (.slice none 0 0)
            unfold put3 at z0 z1 z2 zlow
            go_wp2_with fail
            exact bodyPost_ret (v := .tuple #[.agg #[.int .i64 0, .int .i64 0, .slice none 0 0], .int .i64 E]) (by simp [results, Tryd.results20, go_sem, z0, z1, z2]) rfl ⟨_, rfl, by rw [hV]; exact ⟨_, rfl, World.ownsRow_nil _ _ _ _⟩, zlow⟩
        · have e0 : (er != 0) = true := by rw [bne_iff_ne]; exact he
          have hE : E = er := by rw [unhide HPE, unhide HQ1, if_pos he]
          have hV : V = ⟨0, 0, []⟩ := by rw [unhide HPS, hE, if_pos he]
          subst hE
          clear he
          go_wp2_with fail
          refine (unhide HE1 _).mono ?_
          rintro e w7 ⟨rfl, hb7⟩
          have HR7 := hide ((unhide HR5).later hb7)
          clear hb7
          obtain ⟨⟨z0, z1, z2⟩, zlow, zown, ⟨y0, y1, y2⟩, yf⟩ := (unhide HR7).done hR (.int .i64 0) (.int .i64 0) (.slice none 0 0)
          unfold put3 at z0 z1 z2 zlow
          go_wp2_with fail
          exact bodyPost_ret (v := .tuple #[.agg #[.int .i64 0, .int .i64 0, .slice none 0 0], .int .i64 E]) (by simp [results, Tryd.results20, go_sem, z0, z1, z2]) rfl ⟨_, rfl, by rw [hV]; exact ⟨_, rfl, World.ownsRow_nil _ _ _ _⟩, zlow⟩
    · have hkc : k = cnt := by omega
      have hi1 : ¬ (k : Int) < (cnt : Int) := by omega
      have HQ1 : Hid ((Codec.endOf (rdR cnt s3).2).2 = (Codec.endOf st).2) := by show _ = _; rw [unhide HKC hkc]
      have HQ2 : Hid ((Codec.endOf st).2 = 0 → (rdR cnt s3).1 = rws) := fun h => by rw [unhide HKC hkc]
      clear HSK HKC HSC hkc
      have HE1 := hide (unhide HEN st (unhide HIVK))
      have HRK := hide hrx
      clear hrx HEN HSS
      go_wp2_with fail
      refine (unhide HE1 wr).mono ?_
      rintro e w5 ⟨rfl, hb5⟩
      have HR5 := hide ((unhide HRK).later hb5)
      clear hb5 HRK a0 a1 a2 af b0 b1 bf
      obtain ⟨⟨a0, a1, a2, af⟩, ⟨b0, b1, bf⟩⟩ := (unhide HR5).cells
      obtain ⟨er, her⟩ : ∃ er, (Codec.endOf st).2 = er := ⟨_, rfl⟩
      rw [her] at HQ1 HQ2 HE1 ⊢
      clear her
      by_cases he : er = 0
      · have e0 : (er != 0) = false := by rw [he]; rfl
        have hE : E = VS.check ⟨(kd : Int), nn, rws⟩ := by rw [unhide HPE, unhide HQ1, if_neg (by simpa using he), unhide HQ2 he]
        have HC := hide (fun (wy : World) (hb : Below w5.heap.size w5 wy) => rcheck_any (w := wy) (v := .agg #[.int .i64 (kd : Int), .int .i64 nn, .slice va k vc]) (s := ⟨(kd : Int), nn, rws⟩) ⟨_, rfl, (Row2.of_own (unhide HR5).own).later hb⟩)
        rw [← hE] at HC
        have HVV : Hid (E = 0 → V = ⟨(kd : Int), nn, rws⟩) := fun h => by rw [unhide HPS, if_neg (by simpa using h), unhide HQ2 he]
        clear hE he HE1
        go_wp2_with fail
        refine (unhide HC _ (Below.refl _ _)).mono ?_
        rintro e w6 ⟨rfl, hb6⟩
        have HB6 := hide hb6
        have HR6 := hide ((unhide HR5).later hb6)
        clear hb6 a0 a1 a2 af b0 b1 bf
        obtain ⟨⟨a0, a1, a2, af⟩, ⟨b0, b1, bf⟩⟩ := (unhide HR6).cells
        by_cases hc0 : E = 0
        · have ec : (E != 0) = false := by rw [hc0]; rfl
          have hV := unhide HVV hc0
          obtain ⟨⟨z0, z1, z2⟩, zlow, zown, ⟨y0, y1, y2⟩, yf⟩ := (unhide HR6).done hR (.int .i64 (kd : Int)) (.int .i64 nn) (.slice va k vc)
          unfold put3 at z0 z1 z2 zlow zown
          have HE0 := hide hc0
          clear hc0
          go_wp2_with fail
          exact bodyPost_ret (v := .tuple #[.agg #[.int .i64 (kd : Int), .int .i64 nn, .slice va k vc], .int .i64 0]) (by simp [results, Tryd.results20, go_sem, z0, z1, z2]) rfl ⟨_, by rw [unhide HE0], by rw [hV]; exact ⟨_, rfl, zown⟩, zlow⟩
        · have ec : (E != 0) = true := by rw [bne_iff_ne]; exact hc0
          have hV : V = ⟨0, 0, []⟩ := by rw [unhide HPS, if_pos hc0]
          clear hc0
          go_wp2_with fail
          refine (unhide HC _ (unhide HB6)).mono ?_
          rintro e w7 ⟨rfl, hb7⟩
          have HR7 := hide ((unhide HR6).later hb7)
          clear hb7
          obtain ⟨⟨z0, z1, z2⟩, zlow, zown, ⟨y0, y1, y2⟩, yf⟩ := (unhide HR7).done hR (.int .i64 0) (.int .i64 0) (.slice none 0 0)
          unfold put3 at z0 z1 z2 zlow
          go_wp2_with fail
          exact bodyPost_ret (v := .tuple #[.agg #[.int .i64 0, .int .i64 0, .slice none 0 0], .int .i64 E]) (by simp [results, Tryd.results20, go_sem, z0, z1, z2]) rfl ⟨_, rfl, by rw [hV]; exact ⟨_, rfl, World.ownsRow_nil _ _ _ _⟩, zlow⟩
      · have e0 : (er != 0) = true := by rw [bne_iff_ne]; exact he
        have hE : E = er := by rw [unhide HPE, unhide HQ1, if_pos he]
        have hV : V = ⟨0, 0, []⟩ := by rw [unhide HPS, hE, if_pos he]
        subst hE
        clear he
        go_wp2_with fail
        refine (unhide HE1 _).mono ?_
        rintro e w7 ⟨rfl, hb7⟩
        have HR7 := hide ((unhide HR5).later hb7)
        clear hb7
        obtain ⟨⟨z0, z1, z2⟩, zlow, zown, ⟨y0, y1, y2⟩, yf⟩ := (unhide HR7).done hR (.int .i64 0) (.int .i64 0) (.slice none 0 0)
        unfold put3 at z0 z1 z2 zlow
        go_wp2_with fail
        exact bodyPost_ret (v := .tuple #[.agg #[.int .i64 0, .int .i64 0, .slice none 0 0], .int .i64 E]) (by simp [results, Tryd.results20, go_sem, z0, z1, z2]) rfl ⟨_, rfl, by rw [hV]; exact ⟨_, rfl, World.ownsRow_nil _ _ _ _⟩, zlow⟩
end Go.Proofs.YtgeibmlhmljhpaaDoor
/- What is read is written the same: plain functions. -/
namespace Go.Proofs.YtgeibmlhmljhpaaDoor
open Go.RowKit
set_option linter.unusedVariables false
set_option maxRecDepth 100000

theorem fail_zero {c : Int} {s : Codec.St} (h : (Codec.fail c s).2 = 0) : s.2 = 0 := by
  unfold Codec.fail at h
  split at h
  · rename_i h1; exact h1.1
  · exact h
theorem take_zero {n : Nat} {s : Codec.St} (h : (Codec.take n s).2.2 = 0) : s.2 = 0 := by
  unfold Codec.take at h
  split at h
  · exact h
  · exact fail_zero h
theorem size_zero {s : Codec.St} (h : (Codec.size s).2.2 = 0) : s.2 = 0 := by
  unfold Codec.size at h
  split at h
  · exact take_zero h
  · split at h
    · exact take_zero (fail_zero h)
    · exact take_zero h
theorem takeU_zero {s : Codec.St} (h : (Codec.takeU s).2.2 = 0) : s.2 = 0 := by
  unfold Codec.takeU at h
  have hd : (Codec.digits s).2.2 = 0 → s.2 = 0 := fun h => by
    unfold Codec.digits at h
    exact size_zero (take_zero h)
  split at h
  · exact hd h
  · split at h
    · exact hd (fail_zero h)
    · exact hd h
theorem takeN_zero {m : Int} {s : Codec.St} (h : (Codec.takeN m s).2.2 = 0) : s.2 = 0 := by
  unfold Codec.takeN at h
  split at h
  · exact takeU_zero h
  · exact takeU_zero (fail_zero h)
theorem takeS_zero {m : Int} {s : Codec.St} (h : (Codec.takeS m s).2.2 = 0) : s.2 = 0 := by
  unfold Codec.takeS at h
  exact takeN_zero (take_zero h)
theorem fail_not {c : Int} {s : Codec.St} (hc : c ≠ 0) : (Codec.fail c s).2 ≠ 0 := by
  unfold Codec.fail
  by_cases h : s.2 = 0
  · rw [if_pos ⟨h, hc⟩]; exact hc
  · rw [if_neg (fun x => h x.1)]; exact h
theorem takeU_back {s : Codec.St} (h : (Codec.takeU s).2.2 = 0) : s.1 = Codec.enc (Codec.takeU s).1 ++ (Codec.takeU s).2.1 := by
  have h0 := takeU_zero h
  obtain ⟨l, e⟩ := s
  dsimp only at h0
  subst h0
  exact (Codec.takeU_one l).2 h
theorem takeN_back {m : Int} {s : Codec.St} (h : (Codec.takeN m s).2.2 = 0) : s.1 = Codec.enc (Codec.takeN m s).1 ++ (Codec.takeN m s).2.1 := by
  by_cases hm : (Codec.takeU s).1 ≤ (max m 0).toNat
  · have e : Codec.takeN m s = Codec.takeU s := by unfold Codec.takeN; rw [if_pos hm]
    rw [e] at h ⊢
    exact takeU_back h
  · have e : Codec.takeN m s = (0, Codec.fail 3 (Codec.takeU s).2) := by unfold Codec.takeN; rw [if_neg hm]
    rw [e] at h
    exact absurd h (fail_not (by decide))
theorem fold_unfold (n : Nat) : Codec.fold (Codec.unfold n) = n := by
  unfold Codec.unfold
  split
  · unfold Codec.fold
    rw [if_neg (by omega)]
    omega
  · unfold Codec.fold
    rw [if_pos (by omega)]
    omega
theorem takeI_back {s : Codec.St} (h : (Codec.takeI s).2.2 = 0) : s.1 = Codec.enc (Codec.fold (Codec.takeI s).1) ++ (Codec.takeI s).2.1 := by
  have e := takeU_back (s := s) h
  show s.1 = Codec.enc (Codec.fold (Codec.unfold (Codec.takeU s).1)) ++ (Codec.takeU s).2.1
  rw [fold_unfold]
  exact e
theorem takeS_back {m : Int} {s : Codec.St} (h : (Codec.takeS m s).2.2 = 0) : s.1 = Codec.encS (Codec.takeS m s).1 ++ (Codec.takeS m s).2.1 := by
  have hn : (Codec.takeN m s).2.2 = 0 := by unfold Codec.takeS at h; exact take_zero h
  have e := takeN_back hn
  unfold Codec.takeS at h ⊢
  generalize (Codec.takeN m s).1 = n at *
  generalize (Codec.takeN m s).2 = t at *
  by_cases hl : n ≤ t.1.length
  · have e2 : Codec.take n t = (t.1.take n, (t.1.drop n, t.2)) := by unfold Codec.take; rw [if_pos hl]
    rw [e2]
    unfold Codec.encS
    have e3 : (t.1.take n).length = n := by simp; omega
    dsimp only
    rw [e3, List.append_assoc, List.take_append_drop]
    exact e
  · have e2 : Codec.take n t = ([], Codec.fail 1 t) := by unfold Codec.take; rw [if_neg hl]
    rw [e2] at h
    exact absurd h (fail_not (by decide))
theorem takeI_zero {s : Codec.St} (h : (Codec.takeI s).2.2 = 0) : s.2 = 0 := by
  unfold Codec.takeI at h
  exact takeU_zero h
theorem row_back {s : Codec.St} {p q : List UInt8 × Codec.St} (h1 : Codec.takeS 24 s = p) (h2 : Codec.takeS 24 p.2 = q) (h : q.2.2 = 0) : s.2 = 0 ∧ s.1 = Codec.encS p.1 ++ (Codec.encS q.1 ++ q.2.1) := by
  have e2 := takeS_back (m := 24) (s := p.2) (by rw [h2]; exact h)
  have z1 := takeS_zero (m := 24) (s := p.2) (by rw [h2]; exact h)
  have e1 := takeS_back (m := 24) (s := s) (by rw [h1]; exact z1)
  have z0 := takeS_zero (m := 24) (s := s) (by rw [h1]; exact z1)
  rw [h2] at e2
  rw [h1, e2] at e1
  exact ⟨z0, e1⟩
theorem rdRow_is (s : Codec.St) : ∃ p q : List UInt8 × Codec.St, Codec.takeS 24 s = p ∧ Codec.takeS 24 p.2 = q ∧ rdRow s = ((p.1, q.1), q.2) := ⟨_, _, rfl, rfl, by rw [rdRow]⟩
theorem rdRow_back {s : Codec.St} (h : (rdRow s).2.2 = 0) : s.1 = rowT (rdRow s).1 ++ (rdRow s).2.1 := by
  obtain ⟨p, q, h1, h2, h3⟩ := rdRow_is s
  rw [h3] at h ⊢
  dsimp only at h ⊢
  unfold rowT
  rw [List.append_assoc]
  exact (row_back h1 h2 h).2
theorem rdRow_zero {s : Codec.St} (h : (rdRow s).2.2 = 0) : s.2 = 0 := by
  obtain ⟨p, q, h1, h2, h3⟩ := rdRow_is s
  rw [h3] at h
  dsimp only at h
  exact (row_back h1 h2 h).1
theorem rdR_zero {s : Codec.St} (k : Nat) (h : (rdR k s).2.2 = 0) : s.2 = 0 := by
  induction k with
  | zero => rw [rdR] at h; exact h
  | succ k ih =>
    rw [rdR_succ] at h
    dsimp only at h
    exact ih (rdRow_zero h)
theorem rdR_back {s : Codec.St} (k : Nat) (h : (rdR k s).2.2 = 0) : s.1 = (rdR k s).1.flatMap rowT ++ (rdR k s).2.1 := by
  induction k with
  | zero => rw [rdR]; simp
  | succ k ih =>
    rw [rdR_succ] at h ⊢
    dsimp only at h ⊢
    have h1 := rdRow_zero h
    have e1 := ih h1
    have e2 := rdRow_back h
    rw [List.flatMap_append, List.append_assoc]
    have e3 : [(rdRow (rdR k s).2).1].flatMap rowT ++ (rdRow (rdR k s).2).2.1 = (rdR k s).2.1 := by
      rw [e2]
      simp
    rw [e3]
    exact e1
theorem end_none {s : Codec.St} (h : (Codec.endOf s).2 = 0) : s.1 = [] := by
  unfold Codec.endOf at h
  split at h
  · exact absurd h (fail_not (by decide))
  · rename_i h1
    exact List.eq_nil_of_length_eq_zero (by omega)
theorem pE_zero {l : List UInt8} (h : pE l = 0) : (Codec.endOf (pR l).2).2 = 0 ∧ (pV l).check = 0 ∧ pS l = pV l := by
  have hs : pS l = pV l := by unfold pS; rw [if_neg (by simpa using h)]
  unfold pE at h
  split at h
  · rename_i h1; exact absurd h h1
  · rename_i h1
    exact ⟨by simpa using h1, h, hs⟩
theorem back_all {l : List UInt8} {pk pc : Nat × Codec.St} {pi : Int × Codec.St} {pr : List (List UInt8 × List UInt8) × Codec.St} (h1 : Codec.takeN 7 (l, 0) = pk) (h2 : Codec.takeI pk.2 = pi) (h3 : Codec.takeN 8 pi.2 = pc) (h4 : rdR pc.1 pc.2 = pr) (he : (Codec.endOf pr.2).2 = 0) :
    Codec.enc pk.1 ++ (Codec.enc (Codec.fold pi.1) ++ (Codec.enc pc.1 ++ pr.1.flatMap rowT)) = l := by
  have hz := end_zero he
  have hn := end_none he
  have hr : (rdR pc.1 pc.2).2.2 = 0 := by rw [h4]; exact hz
  have hc := rdR_zero pc.1 hr
  have b4 := rdR_back pc.1 hr
  rw [h4, hn, List.append_nil] at b4
  have hc' : (Codec.takeN 8 pi.2).2.2 = 0 := by rw [h3]; exact hc
  have hi := takeN_zero (m := 8) (s := pi.2) hc'
  have b3 := takeN_back (m := 8) (s := pi.2) hc'
  rw [h3] at b3
  have hi' : (Codec.takeI pk.2).2.2 = 0 := by rw [h2]; exact hi
  have hk := takeI_zero (s := pk.2) hi'
  have b2 := takeI_back (s := pk.2) hi'
  rw [h2] at b2
  have hk' : (Codec.takeN 7 (l, 0)).2.2 = 0 := by rw [h1]; exact hk
  have b1 := takeN_back (m := 7) (s := (l, 0)) hk'
  rw [h1] at b1
  dsimp only at b1
  rw [← b4, ← b3, ← b2, ← b1]
theorem text_is (k n : Int) (r : List (List UInt8 × List UInt8)) : VS.text ⟨k, n, r⟩ = Codec.enc (max k 0).toNat ++ (Codec.enc (Codec.fold n) ++ (Codec.enc r.length ++ r.flatMap rowT)) := by
  unfold VS.text headT
  simp only [List.append_assoc]
theorem text_of_parts {l : List UInt8} {pk pc : Nat × Codec.St} {pi : Int × Codec.St} {pr : List (List UInt8 × List UInt8) × Codec.St} (h1 : Codec.takeN 7 (l, 0) = pk) (h2 : Codec.takeI pk.2 = pi) (h3 : Codec.takeN 8 pi.2 = pc) (h4 : rdR pc.1 pc.2 = pr) (he : (Codec.endOf pr.2).2 = 0) : VS.text ⟨(pk.1 : Int), pi.1, pr.1⟩ = l := by
  have hb := back_all h1 h2 h3 h4 he
  have hl := rdR_length pc.2 pc.1
  rw [h4] at hl
  have e1 : (max (pk.1 : Int) 0).toNat = pk.1 := by omega
  rw [text_is, e1, hl]
  exact hb
theorem pS_text {l : List UInt8} (h : pE l = 0) : (pS l).text = l := by
  obtain ⟨h1, h2, h3⟩ := pE_zero h
  rw [h3, pV]
  have e1 : Codec.takeN 7 (l, 0) = pK l := by rw [pK]
  have e2 : Codec.takeI (pK l).2 = pI l := by rw [pI]
  have e3 : Codec.takeN 8 (pI l).2 = pC l := by rw [pC]
  have e4 : rdR (pC l).1 (pC l).2 = pR l := by rw [pR]
  exact text_of_parts e1 e2 e3 e4 h1
theorem pS_may {l : List UInt8} (h : pE l = 0) : (pS l).may := by
  obtain ⟨_, h2, h3⟩ := pE_zero h
  rw [h3]
  exact ⟨h2, takeI_bounds _⟩
end Go.Proofs.YtgeibmlhmljhpaaDoor
/- The contracts of New, and of the law's awake: that states answer what the document's examples say. -/
namespace Go.Proofs.YtgeibmlhmljhpaaDoor
open Go.RowKit
set_option linter.unusedVariables false
set_option maxRecDepth 100000

theorem vnew_any (k : Int) (w : World) : Calls Tryd.prog 29 #[.int .i64 k] w fun e w' => e = .returned (.agg #[.int .i64 k, .int .i64 0, .slice none 0 0]) ∧ Below w.heap.size w w' := by
  go_enter Tryd.func29, Tryd.ntmps29
  go_wp2_with fail
  exact bodyPost_ret (v := .agg #[.int .i64 k, .int .i64 0, .slice none 0 0]) (by simp [results, Tryd.results29, go_sem]) rfl ⟨rfl, under_box _⟩

theorem aw1 : VS.with ⟨4, 0, []⟩ ([98], []) = ⟨4, 0, [([98], [])]⟩ := rfl
theorem aw2 : VS.with ⟨4, 0, [([98], [])]⟩ ([97], []) = ⟨4, 0, [([97], []), ([98], [])]⟩ := by
  have h : VS.spot ⟨4, 0, [([98], [])]⟩ [97] = 0 := by decide
  unfold VS.with
  rw [h]
  rfl
theorem aw3 : S (VS.text ⟨4, 0, [([97], []), ([98], [])]⟩) = ⟨#[1, 4, 0, 1, 2, 1, 1, 97, 0, 1, 1, 98, 0]⟩ := by decide +kernel
theorem aw4 : VS.check ⟨4, 0, [([97], []), ([98], [])]⟩ = 0 := by decide +kernel
theorem aw5 : S (wordOf 3) = ⟨#[97, 99, 99, 111, 117, 110, 116]⟩ := rfl
theorem aw6 : kindOf [113, 117, 101, 117, 101] = 6 := by decide

set_option maxHeartbeats 3200000 in
theorem vawake_any {w : World} (hw : WD w) :
    Calls Tryd.prog 11 #[] w fun e w' => e = .returned (.bool true) ∧ Below w.heap.size w w' := by
  have HN := hide (vnew_any 4 w)
  have HW1 : Hid (∀ w1, Calls Tryd.prog 22 #[.agg #[.int .i64 4, .int .i64 0, .slice none 0 0], .agg #[.string ⟨#[98]⟩, .string ⟨#[]⟩]] w1 fun e w' => ∃ v', e = .returned v' ∧ StOwn w1.heap.size 47 w' v' ⟨4, 0, [([98], [])]⟩ ∧ Below w1.heap.size w1 w') := fun w1 => by
    have := with_any (w := w1) (v := .agg #[.int .i64 4, .int .i64 0, .slice none 0 0]) (s := ⟨4, 0, []⟩) ⟨_, rfl, Row2.nil _⟩ (by simp) ([98], [])
    rw [aw1] at this
    exact this
  have HW2 : Hid (∀ w1 v, StAt w1 v ⟨4, 0, [([98], [])]⟩ → Calls Tryd.prog 22 #[v, .agg #[.string ⟨#[97]⟩, .string ⟨#[]⟩]] w1 fun e w' => ∃ v', e = .returned v' ∧ StOwn w1.heap.size 47 w' v' ⟨4, 0, [([97], []), ([98], [])]⟩ ∧ Below w1.heap.size w1 w') := fun w1 v h => by
    have := with_any h (by simp) ([97], [])
    rw [aw2] at this
    exact this
  have HTX : Hid (∀ w1 v, StAt w1 v ⟨4, 0, [([97], []), ([98], [])]⟩ → Calls Tryd.prog 16 #[v] w1 fun e w' => e = .returned (.string ⟨#[1, 4, 0, 1, 2, 1, 1, 97, 0, 1, 1, 98, 0]⟩) ∧ Below w1.heap.size w1 w') := fun w1 v h => by
    have := vtext_any h ⟨by decide, by decide⟩ ⟨by decide, by decide⟩ (by decide) (by
      intro i hi
      simp at hi
      obtain rfl | rfl : i = 0 ∨ i = 1 := by omega
      all_goals simp)
    rw [aw3] at this
    exact this
  have HCK : Hid (∀ w1 v, StAt w1 v ⟨4, 0, [([97], []), ([98], [])]⟩ → Below w.heap.size w w1 → Calls Tryd.prog 12 #[v] w1 fun e w' => e = .returned (.int .i64 0) ∧ Below w1.heap.size w1 w') := fun w1 v h hb => by
    have := vcheck_any h (hw.later hb)
    rw [aw4] at this
    exact this
  have HWO : Hid (∀ w1, Below w.heap.size w w1 → Calls Tryd.prog 30 #[.int .i64 3] w1 fun e w' => e = .returned (.string ⟨#[97, 99, 99, 111, 117, 110, 116]⟩) ∧ w' = w1) := fun w1 hb => by
    have := word_any (hw.later hb) 3
    rw [aw5] at this
    exact this
  have HKI : Hid (∀ w1, Below w.heap.size w w1 → Calls Tryd.prog 31 #[.string ⟨#[113, 117, 101, 117, 101]⟩] w1 fun e w' => e = .returned (.int .i64 6) ∧ w' = w1) := fun w1 hb => by
    have := kind_any (hw.later hb) [113, 117, 101, 117, 101]
    rw [aw6] at this
    exact this
  clear hw
  go_enter Tryd.func11, Tryd.ntmps11
  go_wp2_with fail
  refine (unhide HN).mono ?_
  rintro e w1 ⟨rfl, hb1⟩
  go_wp2_with fail
  refine (unhide HW1 w1).mono ?_
  rintro e w2 ⟨v2, rfl, ho2, hb2⟩
  obtain ⟨k2, rfl, hr2⟩ := ho2
  obtain ⟨a2, c2, rfl, _⟩ := ownsRow_slice hr2
  have HS2 : Hid (StAt w2 (.agg #[.int .i64 4, .int .i64 0, .slice a2 [(([98] : List UInt8), ([] : List UInt8))].length c2]) ⟨4, 0, [([98], [])]⟩) := ⟨_, rfl, Row2.of_own hr2⟩
  have HL2 := hide (hb1.trans (hb2.mono hb1.size))
  clear hr2 hb1 hb2 HW1 HN
  go_wp2_with fail
  refine (unhide HW2 _ _ (unhide HS2)).mono ?_
  rintro e w3 ⟨v3, rfl, ho3, hb3⟩
  obtain ⟨k3, rfl, hr3⟩ := ho3
  obtain ⟨a3, c3, rfl, _⟩ := ownsRow_slice hr3
  have HS3 : Hid (∀ w4, Below w3.heap.size w3 w4 → StAt w4 (.agg #[.int .i64 4, .int .i64 0, .slice a3 2 c3]) ⟨4, 0, [([97], []), ([98], [])]⟩) := fun w4 h4 => ⟨_, rfl, (Row2.of_own hr3).later h4⟩
  have HL3 := hide ((unhide HL2).trans (hb3.mono (unhide HL2).size))
  have HZ3 := hide (unhide HL3).size
  clear hr3 hb3 HW2 HS2 HL2
  go_wp2_with fail
  refine (unhide HTX _ _ (unhide HS3 _ (under_box _))).mono ?_
  rintro e w4 ⟨rfl, hb4⟩
  rw [World.size_alloc] at hb4
  obtain ⟨p0, p1, p2, hz4, hl4⟩ := box3 hb4
  have HB4 := hide hb4
  clear hb4 HTX
  go_wp2_with fail
  refine (unhide HCK _ _ (unhide HS3 _ hl4) ((unhide HL3).trans (hl4.mono (unhide HZ3)))).mono ?_
  rintro e w5 ⟨rfl, hb5⟩
  obtain ⟨q0, q1, q2, hz5, hl5⟩ := box3 ((unhide HB4).trans (hb5.mono hz4))
  have HL5 := hide ((unhide HL3).trans (hl5.mono (unhide HZ3)))
  clear hb5 HCK p0 p1 p2 hl4 hl5
  go_wp2_with fail
  refine (unhide HWO _ (unhide HL5)).mono ?_
  rintro e w6 ⟨rfl, rfl⟩
  go_wp2_with fail
  refine (unhide HKI _ (unhide HL5)).mono ?_
  rintro e w6 ⟨rfl, rfl⟩
  go_wp2_with fail
  go_ret
  exact ⟨rfl, unhide HL5⟩
end Go.Proofs.YtgeibmlhmljhpaaDoor
/- The walk of ValueReads. -/
namespace Go.Proofs.YtgeibmlhmljhpaaDoor
open Go.RowKit
set_option linter.unusedVariables false
set_option maxRecDepth 100000

def Bl (W w' : World) : Prop := Below W.heap.size W w'
theorem Bl.below {W w w' : World} (h : Bl W w) (hb : Below w.heap.size w w') : Bl W w' := Below.trans h (hb.mono (Below.size h))
theorem Bl.low {W w' : World} (h : Bl W w') : Below W.heap.size W w' := h
theorem alike_self (s : VS) : s.alike s = true := by simp [VS.alike]

set_option maxHeartbeats 25600000 in
theorem valueReads_walk (a0 : ByteArray) (w0 : a0.size ≤ maxLen) (w : World) (hw : WD w) :
    Calls Tryd.prog 4 #[.string a0] w fun e w' => e = .returned (.bool true) ∧ Below w.heap.size w w' := by
  have HCU := hide (fun (wy : World) => cut_any a0 400 wy w0)
  have e400 : ((400 : Nat) : Int) = 400 := rfl
  rw [e400] at HCU
  obtain ⟨l, hl⟩ : ∃ l, a0.data.toList.take 400 = l := ⟨_, rfl⟩
  have hll : l.length ≤ 400 := by rw [← hl]; simp; omega
  rw [hl] at HCU
  have HPA := hide (vparse_any hw l (by omega))
  have HRP := hide (fun (wy : World) => rparse_any (w := wy) l (by omega))
  have HAW0 := hide (fun (wy : World) (hb : Below w.heap.size w wy) => vawake_any (hw.later hb))
  have HMAY : Hid (pE l = 0 → (pS l).may ∧ (pS l).text = l) := fun h => ⟨pS_may h, pS_text h⟩
  have HLIK := hide (alike_self (pS l))
  have HR8 : Hid ((pS l).rows.length ≤ 1000) := by
    show _ ≤ _
    unfold pS
    split
    · simp
    · show (rdR (pC l).1 (pC l).2).1.length ≤ 1000
      rw [rdR_length]
      have := pC_le l
      omega
  generalize pE l = E at *
  generalize pS l = V at *
  have hee : (E == E) = true := by simp
  have hss : ((S l).toList == (S l).toList) = true := by simp
  clear hl e400 w0 hw
  go_enter Tryd.func4, Tryd.ntmps4
  go_wp2_with fail
  refine (unhide HCU _).mono ?_
  rintro e wc ⟨rfl, hww⟩
  have hww2 := hww.symm
  subst hww2
  go_wp2_with fail
  refine (unhide HPA).mono ?_
  rintro e w1 ⟨v1, rfl, ho1, hb1⟩
  obtain ⟨k1, rfl, hr1⟩ := ho1
  obtain ⟨a1, c1, rfl, _⟩ := ownsRow_slice hr1
  have HROW1 := hide (Row2.of_own hr1)
  have HB1 := hide hb1
  clear hr1 hb1 HPA HCU
  go_wp2_with fail
  refine (unhide HRP _).mono ?_
  rintro e w2 ⟨v2, rfl, ho2, hb2⟩
  rw [World.size_alloc] at hb2
  obtain ⟨k2, rfl, hr2⟩ := ho2
  obtain ⟨a2, c2, rfl, _⟩ := ownsRow_slice hr2
  have HROW2 := hide (Row2.of_own hr2)
  obtain ⟨p0, p1, p2, hz2, hl12⟩ := box3 hb2
  obtain ⟨W, hW⟩ : ∃ W, w2.alloc (.cells #[.int .i64 V.kind, .int .i64 V.n, .slice a2 V.rows.length c2] 29) = W := ⟨_, rfl⟩
  have hlW : Below w2.heap.size w2 W := by rw [← hW]; exact under_box _
  have hxW : W.heap[w2.heap.size]? = some (.cells #[.int .i64 V.kind, .int .i64 V.n, .slice a2 V.rows.length c2] 29 (0, 0)) := by rw [← hW]; exact heap_alloc_new w2 _
  have hsW : w2.heap.size < W.heap.size := block_lt hxW
  have f0 : ∀ wy, Bl W wy → wy.cell? ⟨w1.heap.size, 0, none⟩ = some (.int .i64 V.kind) := fun wy h => by rw [h.low.cell (p := ⟨w1.heap.size, 0, none⟩) (by show w1.heap.size < _; omega), hlW.cell (p := ⟨w1.heap.size, 0, none⟩) (by show w1.heap.size < _; omega)]; exact p0
  have f1 : ∀ wy, Bl W wy → wy.cell? ⟨w1.heap.size, 1, none⟩ = some (.int .i64 V.n) := fun wy h => by rw [h.low.cell (p := ⟨w1.heap.size, 1, none⟩) (by show w1.heap.size < _; omega), hlW.cell (p := ⟨w1.heap.size, 1, none⟩) (by show w1.heap.size < _; omega)]; exact p1
  have f2 : ∀ wy, Bl W wy → wy.cell? ⟨w1.heap.size, 2, none⟩ = some (.slice a1 V.rows.length c1) := fun wy h => by rw [h.low.cell (p := ⟨w1.heap.size, 2, none⟩) (by show w1.heap.size < _; omega), hlW.cell (p := ⟨w1.heap.size, 2, none⟩) (by show w1.heap.size < _; omega)]; exact p2
  have q0 : ∀ wy, Bl W wy → wy.cell? ⟨w2.heap.size, 0, none⟩ = some (.int .i64 V.kind) := fun wy h => by rw [h.low.cell (p := ⟨w2.heap.size, 0, none⟩) hsW, block_cell hxW]; rfl
  have q1 : ∀ wy, Bl W wy → wy.cell? ⟨w2.heap.size, 1, none⟩ = some (.int .i64 V.n) := fun wy h => by rw [h.low.cell (p := ⟨w2.heap.size, 1, none⟩) hsW, block_cell hxW]; rfl
  have q2 : ∀ wy, Bl W wy → wy.cell? ⟨w2.heap.size, 2, none⟩ = some (.slice a2 V.rows.length c2) := fun wy h => by rw [h.low.cell (p := ⟨w2.heap.size, 2, none⟩) hsW, block_cell hxW]; rfl
  have hst : Bl W W.drew := (Below.refl _ _).drew
  have h1W : Below w1.heap.size w1 W := hl12.trans (hlW.mono (by omega))
  have HLOW : Hid (∀ wy, Bl W wy → Below w.heap.size w wy) := fun wy h => ((unhide HB1).trans (h1W.mono (unhide HB1).size)).trans (h.low.mono (by have := (unhide HB1).size; omega))
  have HAW := hide (fun (wy : World) (h : Bl W wy) => unhide HAW0 wy (unhide HLOW wy h))
  have HS1 : Hid (∀ wy, Bl W wy → StAt wy (.agg #[.int .i64 V.kind, .int .i64 V.n, .slice a1 V.rows.length c1]) V) := fun wy h => ⟨_, rfl, ((unhide HROW1).later h1W).later h.low⟩
  have HS2 : Hid (∀ wy, Bl W wy → StAt wy (.agg #[.int .i64 V.kind, .int .i64 V.n, .slice a2 V.rows.length c2]) V) := fun wy h => ⟨_, rfl, ((unhide HROW2).later hlW).later h.low⟩
  have HTO := hide (fun (wy : World) (h : Bl W wy) => told_any (unhide HS1 wy h) (unhide HR8))
  have HLI := hide (fun (wy : World) (h : Bl W wy) (vt : Value) (ht : StAt wy vt V) => like_any ht (unhide HS2 wy h))
  rw [unhide HLIK] at HLI
  have HTX0 : Hid (E = 0 → ∀ wy, Bl W wy → Calls Tryd.prog 16 #[.agg #[.int .i64 V.kind, .int .i64 V.n, .slice a1 V.rows.length c1]] wy fun e w' => e = .returned (.string (S l)) ∧ Below wy.heap.size wy w') := fun h wy hy => by
    obtain ⟨hm, ht⟩ := unhide HMAY h
    have hk := VS.may_kind hm
    have hr := Nat.le_trans (VS.may_rows hm).1 (VS.most_le V)
    have := vtext_any (unhide HS1 wy hy) ⟨by omega, by omega⟩ hm.2 (by omega) (fun i hi => by have := VS.may_len hm i hi; omega)
    rwa [ht] at this
  have HWW := hide hW
  clear hr2 hb2 HRP hl12 hlW hxW hsW h1W HROW1 HROW2 HB1 p0 p1 p2 hz2 hW HS1 HS2 HMAY HAW0 HLIK
  by_cases hE : E = 0
  · have ee : (E != 0) = false := by rw [hE]; rfl
    have eb : ∀ t : TypeId, binOp .neq t (.int .i64 E) (.int .i64 0) = pure (.bool false) := fun t => by rw [binOp_neq, ee]
    have HTX := hide (unhide HTX0 hE)
    clear hE HTX0
    go_wp2_with fail
    rw [unhide HWW]
    clear HWW
    refine wp_region_held_drew (S := fun w' => Bl W w') (by kernel_rfl) ?_ (fun hHeld => ?_)
    · exact hst
    refine wpAnyH_ready (rs := [0]) (by kernel_rfl) (by simp) ?_
    refine AllReadyH.cons rfl (fun K hK => ?_) AllReadyH.nil
    go_simp
    (go_at_call 11; refine (unhide HAW _ (by assumption)).mono ?_; rintro e wa ⟨rfl, hba⟩)
    refine hK.out _ _ ?_ (fun hHeld => ?_)
    · exact Bl.below (by assumption) hba
    clear hK K
    try simp only [Act.put, List.setIfInBounds_toArray, List.set_cons_zero, List.set_cons_succ]
    refine wpAnyH_take (i := 1) (oi := { dst := some 20, op := _, type := _, pos := _, after := _, guard := _ }) (v := ?_) rfl (by kernel_rfl) (by kernel_rfl) (by kernel_rfl) (fun _ _ _ h => h) (Or.inl ⟨by kernel_rfl, ?_⟩) (by assumption) ?_
    rotate_left
    · intro w hSw; (try dsimp only at hSw); go_simp; try (with_reducible rfl)
    try simp only [Act.put, List.setIfInBounds_toArray, List.set_cons_zero, List.set_cons_succ]
    refine wpAnyH_take (i := 2) (oi := { dst := some 21, op := _, type := _, pos := _, after := _, guard := _ }) (v := ?_) rfl (by kernel_rfl) (by kernel_rfl) (by kernel_rfl) (fun _ _ _ h => h) (Or.inl ⟨by kernel_rfl, ?_⟩) (by assumption) ?_
    rotate_left
    · intro w hSw; (try dsimp only at hSw); go_simp; try (with_reducible rfl)
    try simp only [Act.put, List.setIfInBounds_toArray, List.set_cons_zero, List.set_cons_succ]
    refine wpAnyH_take (i := 3) (oi := { dst := some 22, op := _, type := _, pos := _, after := _, guard := _ }) (v := ?_) rfl (by kernel_rfl) (by kernel_rfl) (by kernel_rfl) (fun _ _ _ h => h) (Or.inl ⟨by kernel_rfl, ?_⟩) (by assumption) ?_
    rotate_left
    · intro w hSw; (try dsimp only at hSw); go_simp; try (with_reducible rfl)
    try simp only [Act.put, List.setIfInBounds_toArray, List.set_cons_zero, List.set_cons_succ]
    refine wpAnyH_take (i := 4) (oi := { dst := some 23, op := _, type := _, pos := _, after := _, guard := _ }) (v := ?_) rfl (by kernel_rfl) (by kernel_rfl) (by kernel_rfl) (fun _ _ _ h => h) (Or.inl ⟨by kernel_rfl, ?_⟩) (by assumption) ?_
    rotate_left
    · intro w hSw; (try dsimp only at hSw); go_simp; try (with_reducible rfl)
    try simp only [Act.put, List.setIfInBounds_toArray, List.set_cons_zero, List.set_cons_succ]
    refine wpAnyH_take (i := 5) (oi := { dst := some 24, op := _, type := _, pos := _, after := _, guard := _ }) (v := ?_) rfl (by kernel_rfl) (by kernel_rfl) (by kernel_rfl) (fun _ _ _ h => h) (Or.inl ⟨by kernel_rfl, ?_⟩) (by assumption) ?_
    rotate_left
    · intro w hSw; (try dsimp only at hSw); go_simp; try (with_reducible rfl)
    try simp only [Act.put, List.setIfInBounds_toArray, List.set_cons_zero, List.set_cons_succ]
    refine wpAnyH_take (i := 6) (oi := { dst := some 25, op := _, type := _, pos := _, after := _, guard := _ }) (v := ?_) rfl (by kernel_rfl) (by kernel_rfl) (by kernel_rfl) (fun _ _ _ h => h) (Or.inl ⟨by kernel_rfl, ?_⟩) (by assumption) ?_
    rotate_left
    · intro w hSw; (try dsimp only at hSw); go_simp; try (with_reducible rfl)
    try simp only [Act.put, List.setIfInBounds_toArray, List.set_cons_zero, List.set_cons_succ]
    refine wpAnyH_take (i := 7) (oi := { dst := some 26, op := _, type := _, pos := _, after := _, guard := _ }) (v := ?_) rfl (by kernel_rfl) (by kernel_rfl) (by kernel_rfl) (fun _ _ _ h => h) (Or.inl ⟨by kernel_rfl, ?_⟩) (by assumption) ?_
    rotate_left
    · intro w hSw; (try dsimp only at hSw); go_simp; try (with_reducible rfl)
    try simp only [Act.put, List.setIfInBounds_toArray, List.set_cons_zero, List.set_cons_succ]
    refine wpAnyH_take (i := 9) (oi := { dst := some 28, op := _, type := _, pos := _, after := _, guard := _ }) (v := ?_) rfl (by kernel_rfl) (by kernel_rfl) (by kernel_rfl) (fun _ _ _ h => h) (Or.inl ⟨by kernel_rfl, ?_⟩) (by assumption) ?_
    rotate_left
    · intro w hSw; (try dsimp only at hSw); go_simp; try (with_reducible rfl)
    try simp only [Act.put, List.setIfInBounds_toArray, List.set_cons_zero, List.set_cons_succ]
    refine wpAnyH_ready (rs := [8]) (by kernel_rfl) (by simp) ?_
    refine AllReadyH.cons rfl (fun K hK => ?_) AllReadyH.nil
    go_simp
    (go_at_call 14; refine (unhide HTO _ (by assumption)).mono ?_; rintro e wt ⟨vt, rfl, hot, hbt⟩; obtain ⟨kt, rfl, hrt⟩ := hot; obtain ⟨ta, tc, rfl, _⟩ := ownsRow_slice hrt; have HT := hide (Row2.of_own hrt); clear hrt)
    refine hK.out _ _ ?_ (fun hHeld => ?_)
    · exact Bl.below (by assumption) hbt
    clear hK K
    try simp only [Act.put, List.setIfInBounds_toArray, List.set_cons_zero, List.set_cons_succ]
    refine wpAnyH_ready (rs := [10]) (by kernel_rfl) (by simp) ?_
    refine AllReadyH.cons rfl (fun K hK => ?_) AllReadyH.nil
    go_simp
    (go_at_call 21; refine (unhide HLI _ (by assumption) _ ⟨_, rfl, unhide HT⟩).mono ?_; rintro e wl ⟨rfl, hbl⟩)
    refine hK.out _ _ ?_ (fun hHeld => ?_)
    · exact Bl.below (by assumption) hbl
    clear hK K
    try simp only [Act.put, List.setIfInBounds_toArray, List.set_cons_zero, List.set_cons_succ]
    refine wpAnyH_take (i := 11) (oi := { dst := some 30, op := _, type := _, pos := _, after := _, guard := _ }) (v := ?_) rfl (by kernel_rfl) (by kernel_rfl) (by kernel_rfl) (fun _ _ _ h => h) (Or.inl ⟨by kernel_rfl, ?_⟩) (by assumption) ?_
    rotate_left
    · intro w hSw; (try dsimp only at hSw); go_simp; try (with_reducible rfl)
    try simp only [Act.put, List.setIfInBounds_toArray, List.set_cons_zero, List.set_cons_succ]
    refine wpAnyH_take (i := 12) (oi := { dst := some 31, op := _, type := _, pos := _, after := _, guard := _ }) (v := ?_) rfl (by kernel_rfl) (by kernel_rfl) (by kernel_rfl) (fun _ _ _ h => h) (Or.inl ⟨by kernel_rfl, ?_⟩) (by assumption) ?_
    rotate_left
    · intro w hSw; (try dsimp only at hSw); go_simp; try (with_reducible rfl)
    try simp only [Act.put, List.setIfInBounds_toArray, List.set_cons_zero, List.set_cons_succ]
    refine wpAnyH_take (i := 13) (oi := { dst := some 32, op := _, type := _, pos := _, after := _, guard := _ }) (v := ?_) rfl (by kernel_rfl) (by kernel_rfl) (by kernel_rfl) (fun _ _ _ h => h) (Or.inl ⟨by kernel_rfl, ?_⟩) (by assumption) ?_
    rotate_left
    · intro w hSw; (try dsimp only at hSw); go_simp; try (with_reducible rfl)
    try simp only [Act.put, List.setIfInBounds_toArray, List.set_cons_zero, List.set_cons_succ]
    refine wpAnyH_take (i := 14) (oi := { dst := some 33, op := _, type := _, pos := _, after := _, guard := _ }) (v := ?_) rfl (by kernel_rfl) (by kernel_rfl) (by kernel_rfl) (fun _ _ _ h => h) (Or.inl ⟨by kernel_rfl, ?_⟩) (by assumption) ?_
    rotate_left
    · intro w hSw; (try dsimp only at hSw); go_simp; try (with_reducible rfl)
    try simp only [Act.put, List.setIfInBounds_toArray, List.set_cons_zero, List.set_cons_succ]
    refine wpAnyH_take (i := 15) (oi := { dst := some 34, op := _, type := _, pos := _, after := _, guard := _ }) (v := ?_) rfl (by kernel_rfl) (by kernel_rfl) (by kernel_rfl) (fun _ _ _ h => h) (Or.inl ⟨by kernel_rfl, ?_⟩) (by assumption) ?_
    rotate_left
    · intro w hSw; (try dsimp only at hSw); go_simp; try (with_reducible rfl)
    try simp only [Act.put, List.setIfInBounds_toArray, List.set_cons_zero, List.set_cons_succ]
    refine wpAnyH_take (i := 16) (oi := { dst := some 35, op := _, type := _, pos := _, after := _, guard := _ }) (v := ?_) rfl (by kernel_rfl) (by kernel_rfl) (by kernel_rfl) (fun _ _ _ h => h) (Or.inl ⟨by kernel_rfl, ?_⟩) (by assumption) ?_
    rotate_left
    · intro w hSw; (try dsimp only at hSw); go_simp; try (with_reducible rfl)
    try simp only [Act.put, List.setIfInBounds_toArray, List.set_cons_zero, List.set_cons_succ]
    refine wpAnyH_take (i := 18) (oi := { dst := some 37, op := _, type := _, pos := _, after := _, guard := _ }) (v := ?_) rfl (by kernel_rfl) (by kernel_rfl) (by kernel_rfl) (fun _ _ _ h => h) (Or.inl ⟨by kernel_rfl, ?_⟩) (by assumption) ?_
    rotate_left
    · intro w hSw; (try dsimp only at hSw); go_simp; try (with_reducible rfl)
    try simp only [Act.put, List.setIfInBounds_toArray, List.set_cons_zero, List.set_cons_succ]
    refine wpAnyH_ready (rs := [17]) (by kernel_rfl) (by simp) ?_
    refine AllReadyH.cons rfl (fun K hK => ?_) AllReadyH.nil
    go_simp
    (go_at_call 16; refine (unhide HTX _ (by assumption)).mono ?_; rintro e wx ⟨rfl, hbx⟩)
    refine hK.out _ _ ?_ (fun hHeld => ?_)
    · exact Bl.below (by assumption) hbx
    clear hK K
    try simp only [Act.put, List.setIfInBounds_toArray, List.set_cons_zero, List.set_cons_succ]
    refine wpAnyH_take (i := 19) (oi := { dst := some 38, op := _, type := _, pos := _, after := _, guard := _ }) (v := ?_) rfl (by kernel_rfl) (by kernel_rfl) (by kernel_rfl) (fun _ _ _ h => h) (Or.inl ⟨by kernel_rfl, ?_⟩) (by assumption) ?_
    rotate_left
    · intro w hSw; (try dsimp only at hSw); go_simp; try (with_reducible rfl)
    try simp only [Act.put, List.setIfInBounds_toArray, List.set_cons_zero, List.set_cons_succ]
    refine wpAnyH_take (i := 20) (oi := { dst := some 39, op := _, type := _, pos := _, after := _, guard := _ }) (v := ?_) rfl (by kernel_rfl) (by kernel_rfl) (by kernel_rfl) (fun _ _ _ h => h) (Or.inl ⟨by kernel_rfl, ?_⟩) (by assumption) ?_
    rotate_left
    · intro w hSw; (try dsimp only at hSw); go_simp; try (with_reducible rfl)
    try simp only [Act.put, List.setIfInBounds_toArray, List.set_cons_zero, List.set_cons_succ]
    refine wpAnyH_take (i := 21) (oi := { dst := some 40, op := _, type := _, pos := _, after := _, guard := _ }) (v := ?_) rfl (by kernel_rfl) (by kernel_rfl) (by kernel_rfl) (fun _ _ _ h => h) (Or.inl ⟨by kernel_rfl, ?_⟩) (by assumption) ?_
    rotate_left
    · intro w hSw; (try dsimp only at hSw); go_simp; try (with_reducible rfl)
    try simp only [Act.put, List.setIfInBounds_toArray, List.set_cons_zero, List.set_cons_succ]
    refine wpAnyH_take (i := 22) (oi := { dst := some 2, op := _, type := _, pos := _, after := _, guard := _ }) (v := ?_) rfl (by kernel_rfl) (by kernel_rfl) (by kernel_rfl) (fun _ _ _ h => h) (Or.inl ⟨by kernel_rfl, ?_⟩) (by assumption) ?_
    rotate_left
    · intro w hSw; (try dsimp only at hSw); go_simp; try (with_reducible rfl)
    try simp only [Act.put, List.setIfInBounds_toArray, List.set_cons_zero, List.set_cons_succ]
    refine wpAnyH_done (by kernel_rfl) ?_ _
    have HFIN := hide (unhide HLOW _ (by assumption))
    go_wp2_with fail
    go_ret
    exact ⟨rfl, unhide HFIN⟩
  · have ee : (E != 0) = true := by rw [bne_iff_ne]; exact hE
    have eb : ∀ t : TypeId, binOp .neq t (.int .i64 E) (.int .i64 0) = pure (.bool true) := fun t => by rw [binOp_neq, ee]
    clear hE HTX0
    go_wp2_with fail
    rw [unhide HWW]
    clear HWW
    refine wp_region_held_drew (S := fun w' => Bl W w') (by kernel_rfl) ?_ (fun hHeld => ?_)
    · exact hst
    refine wpAnyH_ready (rs := [0]) (by kernel_rfl) (by simp) ?_
    refine AllReadyH.cons rfl (fun K hK => ?_) AllReadyH.nil
    go_simp
    (go_at_call 11; refine (unhide HAW _ (by assumption)).mono ?_; rintro e wa ⟨rfl, hba⟩)
    refine hK.out _ _ ?_ (fun hHeld => ?_)
    · exact Bl.below (by assumption) hba
    clear hK K
    try simp only [Act.put, List.setIfInBounds_toArray, List.set_cons_zero, List.set_cons_succ]
    refine wpAnyH_take (i := 1) (oi := { dst := some 20, op := _, type := _, pos := _, after := _, guard := _ }) (v := ?_) rfl (by kernel_rfl) (by kernel_rfl) (by kernel_rfl) (fun _ _ _ h => h) (Or.inl ⟨by kernel_rfl, ?_⟩) (by assumption) ?_
    rotate_left
    · intro w hSw; (try dsimp only at hSw); go_simp; try (with_reducible rfl)
    try simp only [Act.put, List.setIfInBounds_toArray, List.set_cons_zero, List.set_cons_succ]
    refine wpAnyH_take (i := 2) (oi := { dst := some 21, op := _, type := _, pos := _, after := _, guard := _ }) (v := ?_) rfl (by kernel_rfl) (by kernel_rfl) (by kernel_rfl) (fun _ _ _ h => h) (Or.inl ⟨by kernel_rfl, ?_⟩) (by assumption) ?_
    rotate_left
    · intro w hSw; (try dsimp only at hSw); go_simp; try (with_reducible rfl)
    try simp only [Act.put, List.setIfInBounds_toArray, List.set_cons_zero, List.set_cons_succ]
    refine wpAnyH_take (i := 3) (oi := { dst := some 22, op := _, type := _, pos := _, after := _, guard := _ }) (v := ?_) rfl (by kernel_rfl) (by kernel_rfl) (by kernel_rfl) (fun _ _ _ h => h) (Or.inl ⟨by kernel_rfl, ?_⟩) (by assumption) ?_
    rotate_left
    · intro w hSw; (try dsimp only at hSw); go_simp; try (with_reducible rfl)
    try simp only [Act.put, List.setIfInBounds_toArray, List.set_cons_zero, List.set_cons_succ]
    refine wpAnyH_take (i := 4) (oi := { dst := some 23, op := _, type := _, pos := _, after := _, guard := _ }) (v := ?_) rfl (by kernel_rfl) (by kernel_rfl) (by kernel_rfl) (fun _ _ _ h => h) (Or.inl ⟨by kernel_rfl, ?_⟩) (by assumption) ?_
    rotate_left
    · intro w hSw; (try dsimp only at hSw); go_simp; try (with_reducible rfl)
    try simp only [Act.put, List.setIfInBounds_toArray, List.set_cons_zero, List.set_cons_succ]
    refine wpAnyH_take (i := 5) (oi := { dst := some 24, op := _, type := _, pos := _, after := _, guard := _ }) (v := ?_) rfl (by kernel_rfl) (by kernel_rfl) (by kernel_rfl) (fun _ _ _ h => h) (Or.inl ⟨by kernel_rfl, ?_⟩) (by assumption) ?_
    rotate_left
    · intro w hSw; (try dsimp only at hSw); go_simp; try (with_reducible rfl)
    try simp only [Act.put, List.setIfInBounds_toArray, List.set_cons_zero, List.set_cons_succ]
    refine wpAnyH_take (i := 6) (oi := { dst := some 25, op := _, type := _, pos := _, after := _, guard := _ }) (v := ?_) rfl (by kernel_rfl) (by kernel_rfl) (by kernel_rfl) (fun _ _ _ h => h) (Or.inl ⟨by kernel_rfl, ?_⟩) (by assumption) ?_
    rotate_left
    · intro w hSw; (try dsimp only at hSw); go_simp; try (with_reducible rfl)
    try simp only [Act.put, List.setIfInBounds_toArray, List.set_cons_zero, List.set_cons_succ]
    refine wpAnyH_take (i := 7) (oi := { dst := some 26, op := _, type := _, pos := _, after := _, guard := _ }) (v := ?_) rfl (by kernel_rfl) (by kernel_rfl) (by kernel_rfl) (fun _ _ _ h => h) (Or.inl ⟨by kernel_rfl, ?_⟩) (by assumption) ?_
    rotate_left
    · intro w hSw; (try dsimp only at hSw); go_simp; try (with_reducible rfl)
    try simp only [Act.put, List.setIfInBounds_toArray, List.set_cons_zero, List.set_cons_succ]
    refine wpAnyH_take (i := 9) (oi := { dst := some 28, op := _, type := _, pos := _, after := _, guard := _ }) (v := ?_) rfl (by kernel_rfl) (by kernel_rfl) (by kernel_rfl) (fun _ _ _ h => h) (Or.inl ⟨by kernel_rfl, ?_⟩) (by assumption) ?_
    rotate_left
    · intro w hSw; (try dsimp only at hSw); go_simp; try (with_reducible rfl)
    try simp only [Act.put, List.setIfInBounds_toArray, List.set_cons_zero, List.set_cons_succ]
    refine wpAnyH_ready (rs := [8]) (by kernel_rfl) (by simp) ?_
    refine AllReadyH.cons rfl (fun K hK => ?_) AllReadyH.nil
    go_simp
    (go_at_call 14; refine (unhide HTO _ (by assumption)).mono ?_; rintro e wt ⟨vt, rfl, hot, hbt⟩; obtain ⟨kt, rfl, hrt⟩ := hot; obtain ⟨ta, tc, rfl, _⟩ := ownsRow_slice hrt; have HT := hide (Row2.of_own hrt); clear hrt)
    refine hK.out _ _ ?_ (fun hHeld => ?_)
    · exact Bl.below (by assumption) hbt
    clear hK K
    try simp only [Act.put, List.setIfInBounds_toArray, List.set_cons_zero, List.set_cons_succ]
    refine wpAnyH_ready (rs := [10]) (by kernel_rfl) (by simp) ?_
    refine AllReadyH.cons rfl (fun K hK => ?_) AllReadyH.nil
    go_simp
    (go_at_call 21; refine (unhide HLI _ (by assumption) _ ⟨_, rfl, unhide HT⟩).mono ?_; rintro e wl ⟨rfl, hbl⟩)
    refine hK.out _ _ ?_ (fun hHeld => ?_)
    · exact Bl.below (by assumption) hbl
    clear hK K
    try simp only [Act.put, List.setIfInBounds_toArray, List.set_cons_zero, List.set_cons_succ]
    refine wpAnyH_take (i := 11) (oi := { dst := some 30, op := _, type := _, pos := _, after := _, guard := _ }) (v := ?_) rfl (by kernel_rfl) (by kernel_rfl) (by kernel_rfl) (fun _ _ _ h => h) (Or.inl ⟨by kernel_rfl, ?_⟩) (by assumption) ?_
    rotate_left
    · intro w hSw; (try dsimp only at hSw); go_simp; try (with_reducible rfl)
    try simp only [Act.put, List.setIfInBounds_toArray, List.set_cons_zero, List.set_cons_succ]
    refine wpAnyH_take (i := 12) (oi := { dst := some 31, op := _, type := _, pos := _, after := _, guard := _ }) (v := ?_) rfl (by kernel_rfl) (by kernel_rfl) (by kernel_rfl) (fun _ _ _ h => h) (Or.inl ⟨by kernel_rfl, ?_⟩) (by assumption) ?_
    rotate_left
    · intro w hSw; (try dsimp only at hSw); go_simp; try (with_reducible rfl)
    try simp only [Act.put, List.setIfInBounds_toArray, List.set_cons_zero, List.set_cons_succ]
    refine wpAnyH_take (i := 13) (oi := { dst := some 32, op := _, type := _, pos := _, after := _, guard := _ }) (v := ?_) rfl (by kernel_rfl) (by kernel_rfl) (by kernel_rfl) (fun _ _ _ h => h) (Or.inl ⟨by kernel_rfl, ?_⟩) (by assumption) ?_
    rotate_left
    · intro w hSw; (try dsimp only at hSw); go_simp; try (with_reducible rfl)
    try simp only [Act.put, List.setIfInBounds_toArray, List.set_cons_zero, List.set_cons_succ]
    refine wpAnyH_take (i := 14) (oi := { dst := some 33, op := _, type := _, pos := _, after := _, guard := _ }) (v := ?_) rfl (by kernel_rfl) (by kernel_rfl) (by kernel_rfl) (fun _ _ _ h => h) (Or.inl ⟨by kernel_rfl, ?_⟩) (by assumption) ?_
    rotate_left
    · intro w hSw; (try dsimp only at hSw); go_simp; try (with_reducible rfl)
    try simp only [Act.put, List.setIfInBounds_toArray, List.set_cons_zero, List.set_cons_succ]
    refine wpAnyH_take (i := 15) (oi := { dst := some 34, op := _, type := _, pos := _, after := _, guard := _ }) (v := ?_) rfl (by kernel_rfl) (by kernel_rfl) (by kernel_rfl) (fun _ _ _ h => h) (Or.inl ⟨by kernel_rfl, ?_⟩) (by assumption) ?_
    rotate_left
    · intro w hSw; (try dsimp only at hSw); go_simp; try (with_reducible rfl)
    try simp only [Act.put, List.setIfInBounds_toArray, List.set_cons_zero, List.set_cons_succ]
    refine wpAnyH_take (i := 16) (oi := { dst := some 35, op := _, type := _, pos := _, after := _, guard := _ }) (v := undef) rfl (by kernel_rfl) (by kernel_rfl) (by kernel_rfl) (fun _ _ _ h => h) (Or.inr ⟨by kernel_rfl, rfl⟩) (by assumption) ?_
    try simp only [Act.put, List.setIfInBounds_toArray, List.set_cons_zero, List.set_cons_succ]
    refine wpAnyH_take (i := 17) (oi := { dst := some 36, op := _, type := _, pos := _, after := _, guard := _ }) (v := undef) rfl (by kernel_rfl) (by kernel_rfl) (by kernel_rfl) (fun _ _ _ h => h) (Or.inr ⟨by kernel_rfl, rfl⟩) (by assumption) ?_
    try simp only [Act.put, List.setIfInBounds_toArray, List.set_cons_zero, List.set_cons_succ]
    refine wpAnyH_take (i := 18) (oi := { dst := some 37, op := _, type := _, pos := _, after := _, guard := _ }) (v := undef) rfl (by kernel_rfl) (by kernel_rfl) (by kernel_rfl) (fun _ _ _ h => h) (Or.inr ⟨by kernel_rfl, rfl⟩) (by assumption) ?_
    try simp only [Act.put, List.setIfInBounds_toArray, List.set_cons_zero, List.set_cons_succ]
    refine wpAnyH_take (i := 19) (oi := { dst := some 38, op := _, type := _, pos := _, after := _, guard := _ }) (v := undef) rfl (by kernel_rfl) (by kernel_rfl) (by kernel_rfl) (fun _ _ _ h => h) (Or.inr ⟨by kernel_rfl, rfl⟩) (by assumption) ?_
    try simp only [Act.put, List.setIfInBounds_toArray, List.set_cons_zero, List.set_cons_succ]
    refine wpAnyH_take (i := 20) (oi := { dst := some 39, op := _, type := _, pos := _, after := _, guard := _ }) (v := ?_) rfl (by kernel_rfl) (by kernel_rfl) (by kernel_rfl) (fun _ _ _ h => h) (Or.inl ⟨by kernel_rfl, ?_⟩) (by assumption) ?_
    rotate_left
    · intro w hSw; (try dsimp only at hSw); go_simp; try (with_reducible rfl)
    try simp only [Act.put, List.setIfInBounds_toArray, List.set_cons_zero, List.set_cons_succ]
    refine wpAnyH_take (i := 21) (oi := { dst := some 40, op := _, type := _, pos := _, after := _, guard := _ }) (v := ?_) rfl (by kernel_rfl) (by kernel_rfl) (by kernel_rfl) (fun _ _ _ h => h) (Or.inl ⟨by kernel_rfl, ?_⟩) (by assumption) ?_
    rotate_left
    · intro w hSw; (try dsimp only at hSw); go_simp; try (with_reducible rfl)
    try simp only [Act.put, List.setIfInBounds_toArray, List.set_cons_zero, List.set_cons_succ]
    refine wpAnyH_take (i := 22) (oi := { dst := some 2, op := _, type := _, pos := _, after := _, guard := _ }) (v := ?_) rfl (by kernel_rfl) (by kernel_rfl) (by kernel_rfl) (fun _ _ _ h => h) (Or.inl ⟨by kernel_rfl, ?_⟩) (by assumption) ?_
    rotate_left
    · intro w hSw; (try dsimp only at hSw); go_simp; try (with_reducible rfl)
    try simp only [Act.put, List.setIfInBounds_toArray, List.set_cons_zero, List.set_cons_succ]
    refine wpAnyH_done (by kernel_rfl) ?_ _
    have HFIN := hide (unhide HLOW _ (by assumption))
    go_wp2_with fail
    go_ret
    exact ⟨rfl, unhide HFIN⟩
end Go.Proofs.YtgeibmlhmljhpaaDoor
/- A state's bytes are read as it: plain functions. -/
namespace Go.Proofs.YtgeibmlhmljhpaaDoor
open Go.RowKit
set_option linter.unusedVariables false
set_option maxRecDepth 100000

theorem takeN_enc' (m n : Nat) (rest : List UInt8) (hn : n ≤ m) (hm : m ≤ 1000) : Codec.takeN (m : Int) (Codec.enc n ++ rest, 0) = (n, (rest, 0)) := by
  unfold Codec.takeN
  rw [Codec.takeU_enc n rest (by omega)]
  dsimp only
  rw [if_pos (by omega)]
theorem takeS_enc' (m : Nat) (s rest : List UInt8) (hs : s.length ≤ m) (hm : m ≤ 1000) : Codec.takeS (m : Int) (Codec.encS s ++ rest, 0) = (s, (rest, 0)) := by
  have e : Codec.takeN (m : Int) (Codec.encS s ++ rest, 0) = (s.length, (s ++ rest, 0)) := by
    unfold Codec.encS
    rw [List.append_assoc]
    exact takeN_enc' m s.length (s ++ rest) hs hm
  unfold Codec.takeS
  rw [e]
  simp [Codec.take]
theorem rdRow_enc (r : List UInt8 × List UInt8) (rest : List UInt8) (h1 : r.1.length ≤ 24) (h2 : r.2.length ≤ 24) : rdRow (rowT r ++ rest, 0) = (r, (rest, 0)) := by
  have e1 := takeS_enc' 24 r.1 (Codec.encS r.2 ++ rest) h1 (by decide)
  have e2 := takeS_enc' 24 r.2 rest h2 (by decide)
  have e24 : ((24 : Nat) : Int) = 24 := rfl
  rw [e24] at e1 e2
  unfold rowT
  rw [rdRow, List.append_assoc, e1]
  dsimp only
  rw [e2]
theorem rdR_enc (rows : List (List UInt8 × List UInt8)) (hl : ∀ i (h : i < rows.length), (rows[i]'h).1.length ≤ 24 ∧ (rows[i]'h).2.length ≤ 24) (k : Nat) (hk : k ≤ rows.length) : rdR k (rows.flatMap rowT, 0) = (rows.take k, ((rows.drop k).flatMap rowT, 0)) := by
  induction k with
  | zero => rw [rdR]; simp
  | succ k ih =>
    have hlt : k < rows.length := by omega
    rw [rdR_succ, ih (by omega)]
    dsimp only
    rw [List.drop_eq_getElem_cons hlt, List.flatMap_cons, rdRow_enc _ _ (hl k hlt).1 (hl k hlt).2]
    dsimp only
    rw [List.take_succ_eq_append_getElem hlt]
theorem parse_parts {l : List UInt8} {pk pc : Nat × Codec.St} {pi : Int × Codec.St} {pr : List (List UInt8 × List UInt8) × Codec.St} {s : VS} (hs : s.may) (hl : s.text = l) (h1 : Codec.takeN 7 (l, 0) = pk) (h2 : Codec.takeI pk.2 = pi) (h3 : Codec.takeN 8 pi.2 = pc) (h4 : rdR pc.1 pc.2 = pr) :
    (pk.1 : Int) = s.kind ∧ pi.1 = s.n ∧ pr.1 = s.rows ∧ (Codec.endOf pr.2).2 = 0 := by
  obtain ⟨k1, k2⟩ := VS.may_kind hs
  have l8 := Nat.le_trans (VS.may_rows hs).1 (VS.most_le s)
  obtain ⟨kd, n, rows⟩ := s
  rw [text_is] at hl
  dsimp only at *
  subst hl
  have e7 : ((7 : Nat) : Int) = 7 := rfl
  have e8 : ((8 : Nat) : Int) = 8 := rfl
  have q1 := takeN_enc' 7 (max kd 0).toNat (Codec.enc (Codec.fold n) ++ (Codec.enc rows.length ++ rows.flatMap rowT)) (by omega) (by decide)
  rw [e7, h1] at q1
  subst q1
  have q2 := Codec.takeI_enc n (Codec.enc rows.length ++ rows.flatMap rowT) hs.2.1 hs.2.2
  dsimp only at h2
  rw [h2] at q2
  subst q2
  have q3 := takeN_enc' 8 rows.length (rows.flatMap rowT) l8 (by decide)
  dsimp only at h3
  rw [e8, h3] at q3
  subst q3
  have q4 := rdR_enc rows (fun i hi => VS.may_len hs i hi) rows.length (Nat.le_refl _)
  dsimp only at h4
  rw [h4] at q4
  subst q4
  refine ⟨by show (((max kd 0).toNat : Nat) : Int) = kd; omega, rfl, by simp, ?_⟩
  simp [Codec.endOf]
theorem parse_text {s : VS} (hs : s.may) : pE s.text = 0 ∧ pS s.text = s := by
  have e1 : Codec.takeN 7 (s.text, 0) = pK s.text := by rw [pK]
  have e2 : Codec.takeI (pK s.text).2 = pI s.text := by rw [pI]
  have e3 : Codec.takeN 8 (pI s.text).2 = pC s.text := by rw [pC]
  have e4 : rdR (pC s.text).1 (pC s.text).2 = pR s.text := by rw [pR]
  obtain ⟨q1, q2, q3, q4⟩ := parse_parts hs rfl e1 e2 e3 e4
  have hv : pV s.text = s := by
    rw [pV, q1, q2, q3]
  have hE : pE s.text = 0 := by
    rw [pE, if_neg (by rw [q4]; simp), hv]
    exact hs.1
  exact ⟨hE, by rw [pS, if_neg (by rw [hE]; simp), hv]⟩
end Go.Proofs.YtgeibmlhmljhpaaDoor
/- The contract of the law's Few. -/
namespace Go.Proofs.YtgeibmlhmljhpaaDoor
open Go.RowKit
set_option linter.unusedVariables false
set_option maxRecDepth 100000

def fewR (l : List (List UInt8 × List UInt8)) : List (List UInt8 × List UInt8) := (l.take 10).map fun r => (r.1.take 28, r.2.take 28)
def VS.few (s : VS) : VS := ⟨s.kind, s.n, fewR s.rows⟩
theorem fewR_length (l : List (List UInt8 × List UInt8)) : (fewR l).length = min 10 l.length := by simp [fewR]
theorem fewR_snoc (l : List (List UInt8 × List UInt8)) (k : Nat) (hk : k < l.length) (h10 : k < 10) : (fewR l).take (k + 1) = (fewR l).take k ++ [((l[k]'hk).1.take 28, (l[k]'hk).2.take 28)] := by
  have h : k < (fewR l).length := by rw [fewR_length]; omega
  rw [List.take_succ_eq_append_getElem h]
  congr 2
  simp [fewR]
theorem few_len (s : VS) : s.few.rows.length ≤ 10 := by
  show (fewR s.rows).length ≤ 10
  rw [fewR_length]; omega
theorem few_texts (s : VS) (i : Nat) (h : i < s.few.rows.length) : (s.few.rows[i]'h).1.length ≤ 28 ∧ (s.few.rows[i]'h).2.length ≤ 28 := by
  simp [VS.few, fewR]
  omega
theorem B2.heap {w w1 : World} {A B : Obj} (h : B2 w A B w1) : w1.heap[w.heap.size]? = some A ∧ w1.heap[w.heap.size + 1]? = some B := by
  refine ⟨(Below.block h w.heap.size (by omega)).trans ((Below.heap_alloc _ _ _ (by simp)).trans (heap_alloc_new w A)), (Below.block h (w.heap.size + 1) (by omega)).trans ?_⟩
  have := heap_alloc_new (w.alloc A) B
  rwa [World.size_alloc] at this
theorem B2.size {w w1 : World} {A B : Obj} (h : B2 w A B w1) : w.heap.size + 1 + 1 ≤ w1.heap.size := block_lt h.heap.2
theorem B2.drew {w w1 : World} {A B : Obj} (h : B2 w A B w1) : B2 w A B w1.drew := Below.drew h
theorem B2.alloc {w w1 : World} {A B : Obj} (h : B2 w A B w1) (o : Obj) : B2 w A B (w1.alloc o) := Below.alloc h h.size o
theorem B2.undrew {w w1 : World} {A B : Obj} (h : B2 w A B w1.drew) : B2 w A B w1 := Below.trans h ⟨rfl, rfl, rfl, Nat.le_refl _, fun k hk => rfl⟩
theorem B2.grown {w w1 w2 : World} {A B : Obj} {o : Obj} {v : Value} (h : B2 w A B w1) (hg : (w1.alloc o).grownBy w2 v.ownBlock) (ho : ∀ j, v.ownBlock = some j → w.heap.size + 1 + 1 ≤ j) : B2 w A B w2 := Below.grown (Below.alloc h h.size o) hg (by have := h.size; simp; omega) ho
theorem B2.done {w wr : World} {A B : Obj} (h : B2 w A B wr) {kd n sl a0 b0 c0 : Value} {t t' : TypeId} (hA : A = .cells #[kd, n, sl] t (0, 0)) (hB : B = .cells #[a0, b0, c0] t' (0, 0)) (z a b c : Value) :
    ((put3 (wr.setCell ⟨w.heap.size, 2, none⟩ z) (w.heap.size + 1) a b c).cell? ⟨w.heap.size + 1, 0, none⟩ = some a ∧ (put3 (wr.setCell ⟨w.heap.size, 2, none⟩ z) (w.heap.size + 1) a b c).cell? ⟨w.heap.size + 1, 1, none⟩ = some b ∧ (put3 (wr.setCell ⟨w.heap.size, 2, none⟩ z) (w.heap.size + 1) a b c).cell? ⟨w.heap.size + 1, 2, none⟩ = some c) ∧
    Below w.heap.size w (put3 (wr.setCell ⟨w.heap.size, 2, none⟩ z) (w.heap.size + 1) a b c) ∧
    (∀ (u : Value) (nn : Nat) (xs : List Value) (e : TypeId), wr.ownsRow (w.heap.size + 1 + 1) e 2 u nn xs → (put3 (wr.setCell ⟨w.heap.size, 2, none⟩ z) (w.heap.size + 1) a b c).ownsRow w.heap.size e 2 u nn xs) ∧
    (wr.cell? ⟨w.heap.size, 0, none⟩ = some kd ∧ wr.cell? ⟨w.heap.size, 1, none⟩ = some n ∧ wr.cell? ⟨w.heap.size, 2, none⟩ = some sl ∧ wr.frozen? ⟨w.heap.size, 2, none⟩ = false) ∧ (wr.cell? ⟨w.heap.size + 1, 0, none⟩ = some a0 ∧ wr.cell? ⟨w.heap.size + 1, 1, none⟩ = some b0 ∧ wr.cell? ⟨w.heap.size + 1, 2, none⟩ = some c0) ∧ ∀ j, wr.frozen? ⟨w.heap.size + 1, j, none⟩ = false := by
  subst hA hB
  obtain ⟨h1, h2⟩ := h.heap
  have h2' : (wr.setCell ⟨w.heap.size, 2, none⟩ z).heap[w.heap.size + 1]? = some (.cells #[a0, b0, c0] t' (0, 0)) := by
    rw [heap_setCell_other _ ⟨w.heap.size, 2, none⟩ _ _ (by simp)]; exact h2
  refine ⟨put3_cells h2' a b c, ⟨h.low.os, h.low.tape, h.low.output, by rw [put3_size]; simpa using h.low.size, fun k hk => ?_⟩, fun u nn xs e hu => ownsRow_less (ownsRow_same hu fun k hk => ?_) (by omega), ⟨?_, ?_, ?_, block_frozen h1 2⟩, ⟨?_, ?_, ?_⟩, fun j => block_frozen h2 j⟩
  · rw [put3_other _ _ _ _ (by omega), heap_setCell_other _ ⟨w.heap.size, 2, none⟩ _ _ (by simp; omega)]; exact h.low.block k hk
  · have := (hu.lt k hk).1
    rw [put3_other _ _ _ _ (by omega), heap_setCell_other _ ⟨w.heap.size, 2, none⟩ _ _ (by simp; omega)]
  · rw [block_cell h1]; rfl
  · rw [block_cell h1]; rfl
  · rw [block_cell h1]; rfl
  · rw [block_cell h2]; rfl
  · rw [block_cell h2]; rfl
  · rw [block_cell h2]; rfl

set_option maxHeartbeats 6400000 in
theorem vfew_any {w : World} {v : Value} {s : VS} (h : StAt w v s) (hsz : ∀ i (h : i < s.rows.length), (s.rows[i]'h).1.length ≤ maxLen ∧ (s.rows[i]'h).2.length ≤ maxLen) :
    Calls Tryd.prog 8 #[v] w fun e w' => ∃ v', e = .returned v' ∧ StOwn w.heap.size 47 w' v' s.few ∧ Below w.heap.size w w' := by
  obtain ⟨i0, hi, hz0, hz1, hz2⟩ := info_parts info_vrow
  obtain ⟨k0, rfl, hr⟩ := h
  obtain ⟨a, c, rfl, hc, hm⟩ := hr.shape
  unfold maxLen at hm
  obtain ⟨kd, n, rows⟩ := s
  dsimp only at *
  have hfw : VS.few ⟨kd, n, rows⟩ = ⟨kd, n, fewR rows⟩ := rfl
  rw [hfw]
  have HROW := hide hr
  have HSZ := hide hsz
  obtain ⟨A, hA⟩ : ∃ A : Obj, A = .cells #[.int .i64 kd, .int .i64 n, .slice a rows.length c] 24 (0, 0) := ⟨_, rfl⟩
  obtain ⟨B, hB⟩ : ∃ B : Obj, B = .cells #[.int .i64 0, .int .i64 0, .slice none 0 0] 24 (0, 0) := ⟨_, rfl⟩
  obtain ⟨g1, g2⟩ := B2.cells (w := w) hA hB
  have HDN := hide (fun (wr : World) (h : B2 w A B wr) (z a b c : Value) => h.done hA hB z a b c)
  have HFL := hide (fewR_length rows)
  clear hr hsz hfw
  go_enter Tryd.func8, Tryd.ntmps8
  go_wp2_with fail
  rw [← hA, ← hB]
  clear hA hB
  go_loopw [3, 4] (fun o i wr => ∃ k : Nat, k ≤ rows.length ∧ k ≤ 10 ∧ i = .int .i64 (k : Int) ∧ wr.ownsRow (w.heap.size + 1 + 1) 47 2 o k (R9 ((fewR rows).take k)) ∧ B2 w A B wr) (fun _ i _ => 10 - (intOf i).toNat)
  case atStart => exact ⟨0, Nat.zero_le _, Nat.zero_le _, rfl, World.ownsRow_nil _ _ _ _, B2.start w A B⟩
  case round =>
    obtain ⟨k, hk, hk10, rfl, hown, hb2⟩ := hrel
    obtain ⟨oa, oc, rfl, _⟩ := ownsRow_slice hown
    have HOW := hide hown
    have HB2 := hide hb2
    have q1 := g1 _ hb2
    have hlow := hb2.low
    by_cases hlt : k < rows.length ∧ k < 10
    · obtain ⟨hlt1, hlt2⟩ := hlt
      have j1 : (k : Int) < ((rows.length : Nat) : Int) := by omega
      have j2 : (k : Int) < 10 := by omega
      have hi0 : (0 : Int) ≤ (k : Int) := by omega
      obtain ⟨b, off, rfl, hbl, e1, e2⟩ := (unhide HROW).at k hlt1
      obtain ⟨u1, u2⟩ := unhide HSZ k hlt1
      have f1 : ∀ w1, B2 w A B w1 → w1.cell? ⟨b, off + k * 2, none⟩ = some (.string (S (rows[k]'hlt1).1)) := fun w1 h1 => by rw [h1.low.cell (p := ⟨b, off + k * 2, none⟩) hbl]; exact e1
      have f2 : ∀ w1, B2 w A B w1 → w1.cell? ⟨b, off + k * 2 + 1, none⟩ = some (.string (S (rows[k]'hlt1).2)) := fun w1 h1 => by rw [h1.low.cell (p := ⟨b, off + k * 2 + 1, none⟩) hbl]; exact e2
      have HC1 := hide (fun (wy : World) => cut_any (S (rows[k]'hlt1).1) 28 wy u1)
      have HC2 := hide (fun (wy : World) => cut_any (S (rows[k]'hlt1).2) 28 wy u2)
      have e28 : ((28 : Nat) : Int) = 28 := rfl
      rw [e28] at HC1 HC2
      have HSN := hide (fewR_snoc rows k hlt1 hlt2)
      change Hid (_ = (fewR rows).take k ++ [((S (rows[k]'hlt1).1).data.toList.take 28, (S (rows[k]'hlt1).2).data.toList.take 28)]) at HSN
      generalize (rows[k]'hlt1).1 = kk at *
      generalize (rows[k]'hlt1).2 = vv at *
      generalize (S kk).data.toList.take 28 = p at *
      generalize (S vv).data.toList.take 28 = q at *
      have hst : B2 w A B wr.drew := hb2.drew
      have HOD := hide (ownsRow_below hown (Below.refl _ _).drew)
      have HLT := hide hown.lt
      have hsz2 := hb2.size
      clear hown hb2 hlow e1 e2 e28
      go_wp2_with fail
      go_region_held3 (fun w' => B2 w A B w') (with_reducible (first | exact hst | assumption | (refine B2.drew (B2.alloc (B2.undrew ?_) _); assumption) | (refine B2.alloc ?_ _; assumption)))
        (first
          | (go_at_call_has 19 (Value.string (S kk)); refine (unhide HC1 _).mono ?_; rintro e w1 ⟨rfl, rfl⟩)
          | (go_at_call 19; refine (unhide HC2 _).mono ?_; rintro e w1 ⟨rfl, rfl⟩)
          | (refine step_append_fresh rfl (.tmp 16) (.tmp 32) 22 rfl (w.heap.size + 1 + 1) 47 i0 (.agg #[.string ⟨#[]⟩, .string ⟨#[]⟩]) 2 32 under_vrows hi hz0 hz1 hz2 rfl (by decide) (.slice oa k oc) k (R9 ((fewR rows).take k)) (by simp [Act.eval]) (ownsRow_below ((unhide HOW).alloc _) (Below.refl _ _).drew) ⟨wr.heap.size, 0, none⟩ 1 1 [.string (S p), .string (S q)] (by simp [Act.eval]) rfl (fun j u hu => by exact pair_new _ _ _ _ j u hu) (fun u hu => by simp at hu; rcases hu with rfl | rfl <;> rfl) (by unfold maxLen; omega) (by omega) (by simp; omega) ?_; intro v' w2 hown' hgrow _; obtain ⟨ua, uc, rfl, _⟩ := ownsRow_slice hown'; have hbN : B2 w A B w2 := (unhide HB2).grown (grown_drew hgrow) (fun j hj => ((unhide HLT) j hj).1); have HN := hide hown'; clear hown' hgrow)
          | fail)
      all_goals
        have HBN : Hid (B2 w A B w2) := by assumption
        have HN2 : Hid (w2.ownsRow (w.heap.size + 1 + 1) 47 2 (.slice ua (k + 1) uc) (k + 1) (R9 ((fewR rows).take (k + 1)))) := by
          show World.ownsRow _ _ _ _ _ _ _
          rw [unhide HSN, R9_append]
          exact unhide HN
        go_wp2_with fail
        go_roundw
        case rel => exact ⟨k + 1, by omega, by omega, by go_num, unhide HN2, unhide HBN⟩
        case measure => simp [intOf]; omega
    · have hfl : (fewR rows).length = k := by rw [unhide HFL]; omega
      have e : (fewR rows).take k = fewR rows := by rw [← hfl]; exact List.take_length
      rw [e] at HOW
      obtain ⟨⟨z0, z1, z2⟩, zlow, zown, ⟨y0, y1, y2, yf⟩, ⟨x0, x1, x2⟩, xf⟩ := unhide HDN wr hb2 (.slice oa k oc) (.int .i64 kd) (.int .i64 n) (.slice oa k oc)
      have zo := zown _ (fewR rows).length _ _ (by rw [hfl]; exact unhide HOW)
      unfold put3 at z0 z1 z2 zlow zo
      clear hown hb2 hlow zown e hfl HDN
      by_cases hl1 : k < rows.length
      · have j1 : (k : Int) < ((rows.length : Nat) : Int) := by omega
        have j2 : ¬ (k : Int) < 10 := by omega
        clear hlt
        go_wp2_with fail
        exact bodyPost_ret (v := .agg #[.int .i64 kd, .int .i64 n, .slice oa k oc]) (by simp [results, Tryd.results8, go_sem, z0, z1, z2]) rfl ⟨_, rfl, ⟨_, rfl, zo⟩, zlow⟩
      · have j1 : ¬ (k : Int) < ((rows.length : Nat) : Int) := by omega
        clear hlt
        go_wp2_with fail
        exact bodyPost_ret (v := .agg #[.int .i64 kd, .int .i64 n, .slice oa k oc]) (by simp [results, Tryd.results8, go_sem, z0, z1, z2]) rfl ⟨_, rfl, ⟨_, rfl, zo⟩, zlow⟩
end Go.Proofs.YtgeibmlhmljhpaaDoor
/- The contract of the document's Text. -/
namespace Go.Proofs.YtgeibmlhmljhpaaDoor
open Go.RowKit
set_option linter.unusedVariables false
set_option maxRecDepth 100000

theorem Bx.cells2 {w0 : World} {o : Obj} {a b : Value} {t : TypeId} (ho : o = .cells #[a, b] t (0, 0)) : (∀ w1, Bx w0 o w1 → w1.cell? ⟨w0.heap.size, 0, none⟩ = some a) ∧ (∀ w1, Bx w0 o w1 → w1.cell? ⟨w0.heap.size, 1, none⟩ = some b) := by
  subst ho
  refine ⟨fun w1 h => ?_, fun w1 h => ?_⟩ <;> rw [block_cell h.heap] <;> rfl

set_option maxHeartbeats 6400000 in
theorem rtext_any {w : World} {v : Value} {s : VS} (h : StAt w v s) (hk : -9223372036854775808 ≤ s.kind ∧ s.kind ≤ 9223372036854775807) (hn : -9223372036854775808 ≤ s.n ∧ s.n ≤ 9223372036854775807) (hr8 : s.rows.length ≤ 10) (hrl : ∀ i (h : i < s.rows.length), (s.rows[i]'h).1.length ≤ 40 ∧ (s.rows[i]'h).2.length ≤ 40) :
    Calls Tryd.prog 17 #[v] w fun e w' => e = .returned (.string (S s.text)) ∧ Below w.heap.size w w' := by
  obtain ⟨k, rfl, hr⟩ := h
  obtain ⟨a, c, rfl, hc, hm⟩ := hr.shape
  unfold maxLen at hm
  obtain ⟨kd, n, rows⟩ := s
  dsimp only at *
  obtain ⟨B, hB⟩ : ∃ B : Obj, B = .cells #[.int .i64 kd, .int .i64 n, .slice a rows.length c] 29 (0, 0) := ⟨_, rfl⟩
  obtain ⟨c0, c1, c2⟩ := Bx.cells3 (w0 := w) hB
  have HROW : Hid (∀ w1, Bx w B w1 → Row2 w1 (.slice a rows.length c) rows) := fun w1 h1 => hr.later h1.low
  have HN1 := hide (fun (w1 : World) => refN_any kd w1 hk.1 hk.2)
  have HI1 := hide (fun (w1 : World) => refI_any n w1 hn.1 hn.2)
  have HN2 := hide (fun (w1 : World) => refN_any ((rows.length : Nat) : Int) w1 (by omega) (by omega))
  have HS0 := hide (fun (l : List UInt8) (hl : l.length ≤ 40) (w1 : World) => refS_any l w1 (by omega))
  have hmx : (max ((rows.length : Nat) : Int) 0).toNat = rows.length := by omega
  rw [hmx] at HN2
  have hst : Bx w B (w.alloc B).drew := (Bx.start w B).drew
  have HT : Hid (VS.text ⟨kd, n, rows⟩ = Codec.enc (max kd 0).toNat ++ Codec.enc (Codec.fold n) ++ Codec.enc rows.length ++ rows.flatMap rowT) := rfl
  obtain ⟨T, hT⟩ : ∃ T, VS.text ⟨kd, n, rows⟩ = T := ⟨_, rfl⟩
  rw [hT] at HT ⊢
  have hA9 := Codec.enc_short (max kd 0).toNat (by omega)
  have hN9 := Codec.enc_short (Codec.fold n) (Codec.fold_lt n hn.1 hn.2)
  have hZ9 := Codec.enc_short rows.length (by omega)
  generalize Codec.enc (max kd 0).toNat = A at *
  generalize Codec.enc (Codec.fold n) = N at *
  generalize Codec.enc rows.length = Z at *
  have z1 : (S A).size = A.length := S_size A
  have z2 : (S N).size = N.length := S_size N
  have z3 : (S Z).size = Z.length := S_size Z
  have z4 : (S (A ++ N)).size = (A ++ N).length := S_size _
  have l4 : (A ++ N).length ≤ 18 := by simp; omega
  have ap1 := S_append A N
  have ap2 := S_append (A ++ N) Z
  have HY27 : Hid ((A ++ N ++ Z).length ≤ 27) := by show _ ≤ _; simp; omega
  have n1 : ¬ 9223372036854775807 < A.length + N.length := by omega
  have n2 : ¬ 9223372036854775807 < (A ++ N).length + Z.length := by omega
  generalize A ++ N = AN at *
  clear hT hr hmx
  go_enter Tryd.func17, Tryd.ntmps17
  go_wp2_with fail
  rw [← hB]
  clear hB
  go_region_held3 (fun w' => Bx w B w') (with_reducible (first | exact hst | (refine Bx.below ?_ (by assumption) <;> assumption)))
    (first
      | (go_at_call_has 45 (Value.int .i64 kd); refine (unhide HN1 _).mono ?_; rintro e wa ⟨rfl, hba⟩)
      | (go_at_call 46; refine (unhide HI1 _).mono ?_; rintro e wb ⟨rfl, hbb⟩)
      | (go_at_call 45; refine (unhide HN2 _).mono ?_; rintro e wd ⟨rfl, hbd⟩)
      | fail)
  all_goals
    have hbx : Bx w B wd := by assumption
    have HX := hide hbx
    have d2 := c2 _ hbx
    have HH : Hid (AN ++ Z ++ (rows.take 0).flatMap rowT = AN ++ Z) := by show _ = _; simp
    have HSN := hide (rows_snoc rows)
    have HSH := hide (rows_short rows hrl)
    have HRL := hide hrl
    have HTK : Hid (rows.take rows.length = rows) := List.take_length
    generalize AN ++ Z = Y at *
    clear hbx hba hbb hbd HN1 HI1 HN2 c0 c1 hst hrl z1 z2 z3 z4 l4 ap1 ap2 hA9 hN9 hZ9 n1 n2
    go_wp2_with fail
    clear d2 c2
    go_loopw [3, 21] (fun t i wr => ∃ k : Nat, k ≤ rows.length ∧ i = .int .i64 (k : Int) ∧ t = .string (S (Y ++ (rows.take k).flatMap rowT)) ∧ Bx w B wr) (fun _ i _ => rows.length - (intOf i).toNat)
    case atStart => exact ⟨0, Nat.zero_le _, rfl, by rw [unhide HH], unhide HX⟩
    case round =>
      obtain ⟨k, hk2, rfl, rfl, hbw⟩ := hrel
      have HBW := hide hbw
      by_cases hlt : k < rows.length
      · obtain ⟨b, off, rfl, hbl, e1, e2⟩ := (unhide HROW _ hbw).at k hlt
        obtain ⟨x40, y40⟩ := unhide HRL k hlt
        have hsh := unhide HSH k hk2
        have hy27 := unhide HY27
        have HSNK := hide (unhide HSN k hlt)
        generalize (rows[k]'hlt) = r at *
        obtain ⟨x, y⟩ := r
        dsimp only at *
        obtain ⟨BB, hBB⟩ : ∃ BB : Obj, BB = .cells #[.string (S x), .string (S y)] 55 (0, 0) := ⟨_, rfl⟩
        obtain ⟨f0, f1⟩ := Bx.cells2 (w0 := wr) hBB
        have HC1 := hide (fun (w1 : World) => unhide HS0 x x40 w1)
        have HC2 := hide (fun (w1 : World) => unhide HS0 y y40 w1)
        have l1 : (Codec.encS x).length ≤ 49 := by
          have := Codec.enc_short x.length (by omega)
          simp only [Codec.encS, List.length_append]; omega
        have l2 : (Codec.encS y).length ≤ 49 := by
          have := Codec.enc_short y.length (by omega)
          simp only [Codec.encS, List.length_append]; omega
        have z1 := S_size (Codec.encS x)
        have z2 := S_size (Codec.encS y)
        have z3 := S_size (Codec.encS x ++ Codec.encS y)
        have l3 : (Codec.encS x ++ Codec.encS y).length ≤ 98 := by rw [List.length_append]; omega
        have z4 := S_size (Y ++ (rows.take k).flatMap rowT)
        have l4 : (Y ++ (rows.take k).flatMap rowT).length ≤ 2000 := by rw [List.length_append]; omega
        have ap1 := S_append (Codec.encS x) (Codec.encS y)
        have ap2 := S_append (Y ++ (rows.take k).flatMap rowT) (Codec.encS x ++ Codec.encS y)
        have HF : Hid (Y ++ (rows.take k).flatMap rowT ++ (Codec.encS x ++ Codec.encS y) = Y ++ (rows.take (k + 1)).flatMap rowT) := by
          show _ = _
          rw [unhide HSNK, List.append_assoc]; rfl
        rw [unhide HF] at ap2
        have n3 : ¬ 9223372036854775807 < (Codec.encS x).length + (Codec.encS y).length := by omega
        have n4 : ¬ 9223372036854775807 < (Y ++ (rows.take k).flatMap rowT).length + (Codec.encS x ++ Codec.encS y).length := by omega
        generalize Codec.encS x = ex at *
        generalize Codec.encS y = ey at *
        generalize ex ++ ey = exy at *
        generalize Y ++ (rows.take k).flatMap rowT = Yk at *
        obtain ⟨Yn, hYn⟩ : ∃ Yn, Y ++ (rows.take (k + 1)).flatMap rowT = Yn := ⟨_, rfl⟩
        rw [hYn] at ap2
        have HYN := hide hYn
        clear hYn
        have hi0 : (0 : Int) ≤ (k : Int) := by omega
        have hi1 : (k : Int) < ((rows.length : Nat) : Int) := by omega
        have hst2 : Bx wr BB (wr.alloc BB).drew := (Bx.start wr BB).drew
        have hnew : wr.heap.size ≠ b := by omega
        clear hbw HSNK HF HSN HSH HS0 hsh HRL
        go_wp2_with fail
        rw [← hBB]
        clear hBB
        go_region_held3 (fun w' => Bx wr BB w') (with_reducible (first | exact hst2 | (refine Bx.below ?_ (by assumption) <;> assumption)))
          (first
            | (go_at_call_has 47 (Value.string (S x)); refine (unhide HC1 _).mono ?_; rintro e wa' ⟨rfl, hba'⟩)
            | (go_at_call 47; refine (unhide HC2 _).mono ?_; rintro e wb' ⟨rfl, hbb'⟩)
            | fail)
        all_goals
          have hb9 : Bx wr BB wb' := by assumption
          have HN := hide ((unhide HBW).below hb9.low)
          clear hb9 hba' hbb'
          go_wp2_with fail
          go_roundw
          case rel => exact ⟨k + 1, by omega, by go_num, by rw [unhide HYN], unhide HN⟩
          case measure => simp [intOf]; omega
      · have hkn : k = rows.length := by omega
        subst hkn
        rw [unhide HTK, ← unhide HT]
        have HLO := hide hbw.low
        clear hbw
        go_wp2_with fail
        go_ret
        exact ⟨rfl, unhide HLO⟩
end Go.Proofs.YtgeibmlhmljhpaaDoor
/- A raw state, as a law is handed it. -/
namespace Go.Proofs.YtgeibmlhmljhpaaDoor
open Go.RowKit Go.ChangeShapes Go.WideShapes
set_option linter.unusedVariables false
set_option maxRecDepth 100000

theorem R9_inv (l : List (List UInt8 × List UInt8)) (j : Nat) (u : Value) (h : (R9 l)[j]? = some u) : ∃ i, ∃ hi : i < l.length, (j = i * 2 ∧ u = .string (S (l[i]'hi).1)) ∨ (j = i * 2 + 1 ∧ u = .string (S (l[i]'hi).2)) := by
  have hj : j < l.length * 2 := by
    rcases Nat.lt_or_ge j (l.length * 2) with h1 | h1
    · exact h1
    · rw [List.getElem?_eq_none (by rw [R9_length]; exact h1)] at h; cases h
  obtain ⟨g0, g1⟩ := R9_get l (j / 2) (by omega)
  refine ⟨j / 2, by omega, ?_⟩
  rcases Nat.mod_two_eq_zero_or_one j with e | e
  · left
    have e1 : j / 2 * 2 = j := by omega
    rw [e1, h] at g0
    exact ⟨e1.symm, Option.some.inj g0⟩
  · right
    have e1 : j / 2 * 2 + 1 = j := by omega
    rw [e1, h] at g1
    exact ⟨e1.symm, Option.some.inj g1⟩
def strOf : Value → List UInt8
  | .string s => s.data.toList
  | _ => []
theorem vwf_i64 {n : Int} (h : (Lit.int .i64 n).wf = true) : -9223372036854775808 ≤ n ∧ n ≤ 9223372036854775807 := by
  simpa [Lit.wf, IntKind.min, IntKind.bits, IntKind.signed] using h

theorem open_state {H : Type} {enc : TypeId × Value → H} {W : World} {base b0 : Nat} {spare : Nat → Bool} {held : Bool} {r : Reach} {v : Value} {d : DataW H} {p : List MemPlace}
    (hv : Value.okWide Tryd.prog W r b0 24 v) (hd : DataW.Trod enc Tryd.prog W base spare held 24 v d p) :
    ∃ s : VS, StAt W v s ∧ (-9223372036854775808 ≤ s.kind ∧ s.kind ≤ 9223372036854775807) ∧ (-9223372036854775808 ≤ s.n ∧ s.n ≤ 9223372036854775807) ∧ ∀ i (h : i < s.rows.length), (s.rows[i]'h).1.length ≤ maxLen ∧ (s.rows[i]'h).2.length ≤ maxLen := by
  obtain ⟨v0, v1, v2, y0, y1, y2, m, rfl, _, _, t0, t1, t2⟩ := Go.Joins.open_agg3 Tryd.underlying24 (by kernel_rfl) (by kernel_rfl) hv hd
  obtain ⟨k, e0, _, w0⟩ := DataW.trod_int Tryd.underlying3 t0
  obtain ⟨n, e1, _, w1⟩ := DataW.trod_int Tryd.underlying2 t1
  simp only [List.cons.injEq, and_true] at e0 e1
  subst e0 e1
  rcases Go.Deep.open_slice_pairs Tryd.underlying22 Tryd.underlying47 (by kernel_rfl) rfl rfl (by kernel_rfl) (by kernel_rfl) t2 with ⟨hc, hx⟩ | ⟨x, len, cap, m2, k2, V0, V1, D0, D1, P0, P1, hc, _, hl, hm, hmm, hx, hall⟩
  · simp only [List.cons.injEq, and_true] at hc
    subst hc
    exact ⟨⟨k, n, []⟩, ⟨_, rfl, Row2.nil W⟩, vwf_i64 w0, vwf_i64 w1, fun i hi => by simp at hi⟩
  · simp only [List.cons.injEq, and_true] at hc
    subst hc
    have hcell : ∀ i, i < len → ∃ s0 s1 : ByteArray, V0 i = .string s0 ∧ V1 i = .string s1 ∧ s0.size ≤ maxLen ∧ s1.size ≤ maxLen ∧ W.cell? (x.add (i * 2)) = some (.string s0) ∧ W.cell? (x.add (i * 2 + 1)) = some (.string s1) := fun i hi => by
      have him : i < m2 := by rw [hmm]; split <;> omega
      obtain ⟨h0, h1, q0, q1⟩ := hall i him
      obtain ⟨s0, f0, _, z0⟩ := DataW.trod_string Tryd.underlying9 q0
      obtain ⟨s1, f1, _, z1⟩ := DataW.trod_string Tryd.underlying9 q1
      simp only [List.cons.injEq, and_true] at f0 f1
      rw [f0] at h0
      rw [f1] at h1
      exact ⟨s0, s1, f0, f1, z0, z1, by simpa [Nat.mul_comm] using h0, by simpa [Nat.mul_comm] using h1⟩
    obtain ⟨xb, off, spot⟩ := x
    have hspot : 0 < len → spot = none := fun h => by
      obtain ⟨_, _, _, _, _, _, z, _⟩ := hcell 0 h
      simpa [Addr.add] using World.cell?_spot z
    have hlen : ((List.range len).map fun i => (strOf (V0 i), strOf (V1 i))).length = len := by simp
    have hget : ∀ i (hi : i < ((List.range len).map fun i => (strOf (V0 i), strOf (V1 i))).length), ((List.range len).map fun i => (strOf (V0 i), strOf (V1 i)))[i]'hi = (strOf (V0 i), strOf (V1 i)) := fun i hi => by simp
    refine ⟨⟨k, n, (List.range len).map fun i => (strOf (V0 i), strOf (V1 i))⟩, ⟨_, rfl, ⟨some ⟨xb, off, spot⟩, cap, by rw [hlen], by rw [hlen]; exact hl, hm, fun e => (by cases e), fun j u hj => ?_⟩⟩, vwf_i64 w0, vwf_i64 w1, fun i hi => ?_⟩
    · obtain ⟨i, hi, hor⟩ := R9_inv _ j u hj
      have hil : i < len := by rwa [hlen] at hi
      obtain ⟨s0, s1, g0, g1, _, _, c0, c1⟩ := hcell i hil
      have hsp := hspot (by omega)
      subst hsp
      rw [hget i hi, g0, g1] at hor
      rcases hor with ⟨rfl, rfl⟩ | ⟨rfl, rfl⟩
      · rw [plain_add] at c0
        exact ⟨xb, off, rfl, cell_lt c0, c0⟩
      · rw [plain_add] at c1
        exact ⟨xb, off, rfl, cell_lt c1, c1⟩
    · have hil : i < len := by
        have := hlen
        dsimp only at hi
        omega
      obtain ⟨s0, s1, g0, g1, z0, z1, _, _⟩ := hcell i hil
      dsimp only
      rw [hget i hi, g0, g1]
      exact ⟨z0, z1⟩
end Go.Proofs.YtgeibmlhmljhpaaDoor
