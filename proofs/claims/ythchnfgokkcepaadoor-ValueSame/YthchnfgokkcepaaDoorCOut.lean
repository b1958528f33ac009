/- The contracts of an Out that grows by numbers: its bytes behind the call are those before and the number's. -/
import Derived.Test.YthchnfgokkcepaaDoorCBase
import Derived.Test.YthchnfgokkcepaaDoorCMath
import Derived.Test.YthchnfgokkcepaaDoorCShelf
namespace Go.Proofs.YthchnfgokkcepaaDoor
open Go.RowKit
set_option linter.unusedVariables false
set_option maxRecDepth 100000

def B8 (l : List UInt8) : List Value := l.map fun c => Value.int .u8 (c.toNat : Int)
theorem B8_append (a b : List UInt8) : B8 (a ++ b) = B8 a ++ B8 b := by simp [B8]
theorem B8_length (a : List UInt8) : (B8 a).length = a.length := by simp [B8]

/- An Out at block b: its one cell holds a slice that owns a row of a later block. -/
structure OutAt (w : World) (b : Nat) (l : List UInt8) : Prop where
  lt : b < w.heap.size
  frozen : w.frozen? ⟨b, 0, none⟩ = false
  cell : ∃ ao c, w.cell? ⟨b, 0, none⟩ = some (.slice ao l.length c) ∧ w.ownsRow (b + 1) 5 1 (.slice ao l.length c) l.length (B8 l)

/- Block k is neither the Out's own nor that of its row. -/
structure Foreign (w : World) (b k : Nat) : Prop where
  ne : k ≠ b
  own : ∀ v, w.cell? ⟨b, 0, none⟩ = some v → v.ownBlock ≠ some k

/- What a call of an Out leaves: blocks that are foreign to it are as they were, and foreign still. -/
structure Step (b : Nat) (w w' : World) : Prop where
  os : w'.os = w.os
  tape : w'.tape = w.tape
  output : w'.output = w.output
  size : w.heap.size ≤ w'.heap.size
  keep : ∀ k, k < w.heap.size → Foreign w b k → w'.heap[k]? = w.heap[k]? ∧ Foreign w' b k

theorem Step.refl (b : Nat) (w : World) : Step b w w := ⟨rfl, rfl, rfl, Nat.le_refl _, fun _ _ h => ⟨rfl, h⟩⟩
theorem Step.trans {b : Nat} {u v w : World} (h : Step b u v) (k : Step b v w) : Step b u w :=
  ⟨k.os.trans h.os, k.tape.trans h.tape, k.output.trans h.output, Nat.le_trans h.size k.size, fun i hi hf => by
    obtain ⟨e1, f1⟩ := h.keep i hi hf
    obtain ⟨e2, f2⟩ := k.keep i (by have := h.size; omega) f1
    exact ⟨e2.trans e1, f2⟩⟩
theorem Foreign.of_lt {w : World} {b k : Nat} {l : List UInt8} (h : OutAt w b l) (hk : k < b) : Foreign w b k := by
  obtain ⟨ao, c, hc, ho⟩ := h.cell
  refine ⟨by omega, fun v hv e => ?_⟩
  rw [hc] at hv
  injection hv with hv
  subst hv
  have := (ho.lt k e).1
  omega
theorem Step.below {b B : Nat} {w w' : World} {l : List UInt8} (h : Step b w w') (ho : OutAt w b l) (hB : B ≤ b) : Below B w w' :=
  ⟨h.os, h.tape, h.output, h.size, fun k hk => (h.keep k (by have := ho.lt; omega) (Foreign.of_lt ho (by omega))).1⟩
theorem OutAt.later {w w' : World} {b : Nat} {l : List UInt8} (h : OutAt w b l) (hb : Below w.heap.size w w') : OutAt w' b l ∧ Step b w w' := by
  obtain ⟨ao, c, hc, ho⟩ := h.cell
  have hsz := hb.size
  have hlt := h.lt
  have hc' : w'.cell? ⟨b, 0, none⟩ = some (.slice ao l.length c) := by rw [hb.cell (p := ⟨b, 0, none⟩) hlt]; exact hc
  refine ⟨⟨by omega, by rw [hb.frozen (p := ⟨b, 0, none⟩) hlt]; exact h.frozen, ao, c, hc', ownsRow_below ho hb⟩, ⟨hb.os, hb.tape, hb.output, hb.size, fun k hk hf => ⟨hb.block k hk, hf.ne, fun v hv => ?_⟩⟩⟩
  rw [hb.cell (p := ⟨b, 0, none⟩) hlt] at hv
  exact hf.own v hv
/- A new Out. -/
theorem OutAt.new (w : World) : OutAt (w.alloc (.cells #[.slice none 0 0] 72)) w.heap.size [] :=
  ⟨by simp, by simp, none, 0, by simp, World.ownsRow_nil _ _ _ _⟩

theorem fresh_of {A : Prop} {v : Option Nat} {M N : Nat} (h : A ∨ ∀ k, v = some k → N ≤ k) (hN : M ≤ N) : A ∨ ∀ k, v = some k → M ≤ k := by
  rcases h with h | h
  · exact Or.inl h
  · exact Or.inr fun k hk => Nat.le_trans hN (h k hk)

theorem grown_drew {w w1 : World} {r : Option Nat} (h : w.drew.grownBy w1 r) : w.grownBy w1 r := ⟨h.os, h.tape, h.output, h.size, h.block⟩

/- Behind an append: the Out's own cell is as it was. -/
theorem OutAt.grow0 {w w0 w1 : World} {b : Nat} {l : List UInt8} (h : OutAt w b l) (hb0 : Below w.heap.size w w0) {ao : Option Addr} {c : Nat} (hown : w.ownsRow (b + 1) 5 1 (.slice ao l.length c) l.length (B8 l))
    (hg : w0.grownBy w1 (Value.slice ao l.length c).ownBlock) :
    w1.frozen? ⟨b, 0, none⟩ = false ∧ w1.cell? ⟨b, 0, none⟩ = w.cell? ⟨b, 0, none⟩ ∧ b < w1.heap.size := by
  have hlt := h.lt
  have hsz := hg.size
  have hs0 := hb0.size
  have hlo := hown.lt
  have hblk : w1.heap[b]? = w.heap[b]? := by
    rw [hg.block b (by omega) (fun e => by have := hlo b e.symm; omega), hb0.block b hlt]
  refine ⟨?_, World.cell?_of_block (w := w) (a := ⟨b, 0, none⟩) hblk, by omega⟩
  rw [World.frozen?_of_block (w := w) (a := ⟨b, 0, none⟩) hblk]
  exact h.frozen
theorem OutAt.grow {w w1 : World} {b : Nat} {l : List UInt8} (h : OutAt w b l) {o : Obj} {ao : Option Addr} {c : Nat} (hown : w.ownsRow (b + 1) 5 1 (.slice ao l.length c) l.length (B8 l))
    (hg : (w.alloc o).grownBy w1 (Value.slice ao l.length c).ownBlock) :
    w1.frozen? ⟨b, 0, none⟩ = false ∧ w1.cell? ⟨b, 0, none⟩ = w.cell? ⟨b, 0, none⟩ ∧ b < w1.heap.size := h.grow0 ((Below.refl _ _).alloc (Nat.le_refl _) o) hown hg

/- Behind the store of the new slice. -/
theorem OutAt.put0 {w w0 w1 : World} {b : Nat} {l : List UInt8} (h : OutAt w b l) (hb0 : Below w.heap.size w w0) {ao : Option Addr} {c : Nat} (hcell : w.cell? ⟨b, 0, none⟩ = some (.slice ao l.length c))
    (hown : w.ownsRow (b + 1) 5 1 (.slice ao l.length c) l.length (B8 l)) (hg : w0.grownBy w1 (Value.slice ao l.length c).ownBlock)
    {v : Value} {ys : List UInt8} (hown' : w1.ownsRow (b + 1) 5 1 v (l.length + ys.length) (B8 l ++ B8 ys))
    (hfr : v.ownBlock = (Value.slice ao l.length c).ownBlock ∨ ∀ k, v.ownBlock = some k → w.heap.size ≤ k) :
    OutAt (w1.setCell ⟨b, 0, none⟩ v) b (l ++ ys) ∧ Step b w (w1.setCell ⟨b, 0, none⟩ v) := by
  obtain ⟨hf1, hc1, hlt1⟩ := h.grow0 hb0 hown hg
  have hsz := hg.size
  have hs0 := hb0.size
  have hnew : (w1.setCell ⟨b, 0, none⟩ v).cell? ⟨b, 0, none⟩ = some v := World.cell?_setCell_same _ _ _ (hc1.trans hcell)
  have hown2 := ownsRow_setCell_below hown' (a := ⟨b, 0, none⟩) (by simp) v
  rw [← B8_append, ← List.length_append] at hown2
  refine ⟨?_, ?_⟩
  · obtain ⟨ao', c', rfl, _⟩ := ownsRow_slice hown2
    refine ⟨by simpa using hlt1, by rw [World.frozen?_setCell]; exact hf1, ao', c', hnew, hown2⟩
  · refine ⟨hg.os.trans hb0.os, hg.tape.trans hb0.tape, hg.output.trans hb0.output, by simp [World.setCell]; omega, fun k hk hf => ⟨?_, hf.ne, ?_⟩⟩
    · rw [Below.heap_setCell _ _ _ _ hf.ne, hg.block k (by omega) (fun e => hf.own _ hcell e.symm), hb0.block k hk]
    · intro u hu
      rw [hnew] at hu
      injection hu with hu
      subst hu
      rcases hfr with e | e
      · rw [e]; exact hf.own _ hcell
      · intro ek
        have := e k ek
        omega
theorem OutAt.put {w w1 : World} {b : Nat} {l : List UInt8} (h : OutAt w b l) {o : Obj} {ao : Option Addr} {c : Nat} (hcell : w.cell? ⟨b, 0, none⟩ = some (.slice ao l.length c))
    (hown : w.ownsRow (b + 1) 5 1 (.slice ao l.length c) l.length (B8 l)) (hg : (w.alloc o).grownBy w1 (Value.slice ao l.length c).ownBlock)
    {v : Value} {ys : List UInt8} (hown' : w1.ownsRow (b + 1) 5 1 v (l.length + ys.length) (B8 l ++ B8 ys))
    (hfr : v.ownBlock = (Value.slice ao l.length c).ownBlock ∨ ∀ k, v.ownBlock = some k → w.heap.size ≤ k) :
    OutAt (w1.setCell ⟨b, 0, none⟩ v) b (l ++ ys) ∧ Step b w (w1.setCell ⟨b, 0, none⟩ v) := h.put0 ((Below.refl _ _).alloc (Nat.le_refl _) o) hcell hown hg hown' hfr

theorem u8_of (n : Nat) (h : n < 256) : ((n : Nat) : Int) = ((UInt8.ofNat n).toNat : Int) := by rw [UInt8.toNat_ofNat']; omega

theorem shifted (n j : Nat) (h : j < 8) : IntKind.u8.wrap ((n : Int) / 2 ^ (8 * (j : Int)).toNat) = ((UInt8.ofNat (n / 256 ^ j % 256)).toNat : Int) := by
  have e : (8 * (j : Int)).toNat = 8 * j := by omega
  rw [e, IntKind.wrap_u8', Codec.byte_of, Codec.pow256]
  have : ((n : Int) / 2 ^ (8 * j)) = ((n / 2 ^ (8 * j) : Nat) : Int) := by simp
  rw [this]
  omega

set_option maxHeartbeats 400000 in
theorem number_any (b n : Nat) (l : List UInt8) (w : World) (h : OutAt w b l) (hn : n < 18446744073709551616) (hl : l.length ≤ 1099511627776) :
    Calls Tryd.prog 62 #[.pointer (some ⟨b, 0, none⟩), .int .u64 n] w fun e w' => e = .returned (.tuple #[]) ∧ OutAt w' b (l ++ Codec.enc n) ∧ Step b w w' := by
  obtain ⟨i0, hi, hz0, hz1, hz2⟩ := info_parts info_byte
  have HLEN := hide (Tryd.bits_Len64 n w (by omega) (by omega))
  have hb8 := Codec.blen_le n hn
  have hbl := Codec.bitLen_le64 n hn
  obtain ⟨m, hm⟩ : ∃ m, m = Codec.blen n := ⟨_, rfl⟩
  have hdiv : ((Lib.bitLen n : Int) + 7) / 8 = (m : Int) := by rw [hm]; unfold Codec.blen; omega
  rw [← hm] at hb8
  have HM := hide hm
  rw [Int.toNat_natCast] at HLEN
  generalize Lib.bitLen n = kk at *
  have hm256 : ((m : Nat) : Int) % 256 = (m : Int) := by omega
  have HBYTE := hide (u8_of m (by omega))
  obtain ⟨ao, c, hcell, hown⟩ := h.cell
  have hfr := h.frozen
  have HOWN := hide hown
  have HCELL := hide hcell
  have HH := hide h
  have HN := hide hn
  clear hn hm h hown
  go_enter Tryd.func62, Tryd.ntmps62
  go_wp2_with fail
  refine (unhide HLEN).mono ?_
  rintro e wq ⟨rfl, rfl⟩
  clear HLEN
  go_wp2_with (first | (at_builtin; refine wpList_append_fresh rfl _ _ 70 rfl (b + 1) 5 i0 (.int .u8 0) 1 1 under_bytes hi hz0 hz1 hz2 rfl (by decide) _ _ _ rfl ((unhide HOWN).alloc _) ⟨wq.heap.size, 0, none⟩ 1 1 [.int .u8 (m : Int)] rfl rfl (cell_one_new _ _ _) ?c2 ?c3 ?c4 ?c5 ?_) | fail)
  case c2 => intro u hu; simp at hu; subst hu; rfl
  case c3 => unfold maxLen; omega
  case c4 => omega
  case c5 => have := (unhide HH).lt; simp; omega
  intro v' w1 hown' hgrow hfresh
  have hgr := (unhide HH).grow (unhide HOWN) hgrow
  have hput := (unhide HH).put (unhide HCELL) (unhide HOWN) hgrow (ys := [UInt8.ofNat m]) (by rw [unhide HBYTE] at hown'; exact hown') (fresh_of hfresh (by simp))
  obtain ⟨hf1, hc1, _⟩ := hgr
  rw [unhide HCELL] at hc1
  obtain ⟨a1, c1, rfl, _⟩ := ownsRow_slice hown'
  have HPUT := hide hput
  clear hown' hgrow hcell hfr hfresh hput
  go_wp2_with fail
  go_loopw [22] (fun i wr => ∃ k : Nat, k ≤ m ∧ i = .int .i64 k ∧ OutAt wr b (l ++ UInt8.ofNat m :: (Codec.be m n).take k) ∧ Step b wq wr) (fun i _ => m - (intOf i).toNat)
  case atStart =>
    have e : l ++ UInt8.ofNat m :: (Codec.be m n).take 0 = l ++ [UInt8.ofNat m] := by simp
    refine ⟨0, Nat.zero_le _, rfl, ?_, (unhide HPUT).2⟩
    rw [e]
    exact (unhide HPUT).1
  case round =>
    obtain ⟨k, hk, rfl, ho, hbw⟩ := hrel
    clear HPUT HH HOWN HCELL hf1 hc1
    by_cases hlt : k < m
    · obtain ⟨ao, c, hcell, hown⟩ := ho.cell
      have hfr := ho.frozen
      have hlen : (l ++ UInt8.ofNat m :: (Codec.be m n).take k).length ≤ 1099511627776 + 9 := by
        rw [List.length_append, List.length_cons, List.length_take, Codec.be_length]; omega
      have hblt : b < wr.heap.size := ho.lt
      have hcellA : ∀ o, (wr.alloc o).cell? ⟨b, 0, none⟩ = some (.slice ao (l ++ UInt8.ofNat m :: (Codec.be m n).take k).length c) := fun o => by
        rw [World.cell?_of_block (w := wr) (a := ⟨b, 0, none⟩) (Below.heap_alloc wr o b hblt)]; exact hcell
      have HO := hide ho
      have HOWN := hide hown
      have HCELL := hide hcell
      clear ho hown
      generalize hl2 : l ++ UInt8.ofNat m :: (Codec.be m n).take k = l2 at *
      have HL2 := hide hl2
      clear hl2
      obtain ⟨j, hj⟩ : ∃ j : Nat, (m : Int) - 1 - (k : Int) = (j : Int) := ⟨m - 1 - k, by omega⟩
      have hj8 : j < 8 := by omega
      have hw1 : IntKind.i64.wrap ((m : Int) - 1) = (m : Int) - 1 := by rw [IntKind.wrap_i64]; omega
      have hw2 : IntKind.i64.wrap ((m : Int) - 1 - (k : Int)) = (j : Int) := by rw [IntKind.wrap_i64]; omega
      have hw3 : IntKind.i64.wrap (8 * (j : Int)) = 8 * (j : Int) := by rw [IntKind.wrap_i64]; omega
      have HJ := hide hj
      clear hj
      have hjn : j = m - 1 - k := by have := unhide HJ; omega
      have HBY := hide (shifted n j hj8)
      have hl3 : l ++ UInt8.ofNat m :: (Codec.be m n).take (k + 1) = l2 ++ [UInt8.ofNat (n / 256 ^ j % 256)] := by
        rw [← unhide HL2, Codec.be_take m n k hlt, hjn]; simp
      have HL3 := hide hl3
      clear hl3 hjn
      go_wp2_with fail
      go_region_law (refine step_append_fresh rfl (.tmp 29) (.tmp 38) 70 rfl (b + 1) 5 i0 (.int .u8 0) 1 1 under_bytes hi hz0 hz1 hz2 rfl (by decide) (.slice ao l2.length c) l2.length (B8 l2) (by simp [Act.eval]) ((unhide HOWN).alloc _) ⟨wr.heap.size, 0, none⟩ 1 1 [.int .u8 (IntKind.u8.wrap ((n : Int) / 2 ^ (8 * (j : Int)).toNat))] (by simp [Act.eval]) rfl (fun jj u hu => by exact cell_one_new _ _ _ jj u hu) (fun u hu => by simp at hu; subst hu; rfl) (by unfold maxLen; omega) (by omega) (by simp; omega) ?_; intro v' w2 hown' hgrow hfresh; have hgr := (unhide HO).grow (unhide HOWN) (grown_drew hgrow); have HPUT := hide ((unhide HO).put (unhide HCELL) (unhide HOWN) (grown_drew hgrow) (ys := [UInt8.ofNat (n / 256 ^ j % 256)]) (by rw [unhide HBY] at hown'; exact hown') (fresh_of hfresh (by simp))); obtain ⟨hf2, hc2, _⟩ := hgr; rw [unhide HCELL] at hc2; obtain ⟨a2, c2, rfl, _⟩ := ownsRow_slice hown'; clear hown' hgrow hfresh)
      all_goals
        obtain ⟨ho3, hst3⟩ := unhide HPUT
        rw [← unhide HL3] at ho3
        have HO3 := hide ho3
        have HB3 := hide (hbw.trans hst3)
        clear ho3 hst3 HPUT hf2 hc2 hcell hcellA hw1 hw2 hw3
        go_wp2
        go_roundw
        case rel => exact ⟨k + 1, by omega, by go_num, unhide HO3, unhide HB3⟩
        case measure => simp [intOf]; omega
    · have : k = m := by omega
      subst this
      have e : (Codec.be k n).take k = Codec.be k n := List.take_of_length_le (by rw [Codec.be_length]; exact Nat.le_refl _)
      rw [e] at ho
      have e2 : Codec.enc n = UInt8.ofNat k :: Codec.be k n := by unfold Codec.enc; rw [← unhide HM]
      rw [← e2] at ho
      clear e e2
      go_wp2
      go_end0
      exact ⟨rfl, ho, hbw⟩
end Go.Proofs.YthchnfgokkcepaaDoor
