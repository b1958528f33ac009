/- Texts that this proof needs, one behind the other: CShelf, COut, CKey, COut2, COne, CPuts, CCodecPuts, COutAny. -/
import Derived.Shelf.Strconv.Itoa0
import Derived.Test.YtlanogkijgapdaaDoorProg
import Derived.Test.YtlanogkijgapdaaDoorBundleC1
import Derived.Test.YtlanogkijgapdaaDoorBundleC2
import Derived.Test.YtlanogkijgapdaaDoorBundleC3
import Derived.Test.YtlanogkijgapdaaDoorBundleC4
import Derived.OpenShut
import Derived.Test.YtlanogkijgapdaaDoorVBase
/- The library's contract of math/bits.Len64, laid at this program. -/
namespace Go.Proofs
open Go.Shelf
def Tryd.lays129_ren : Go.Shelf.Ren := ⟨fun | 129 => 70 | n => n, fun | 53 => 95 | 3 => 3 | 4 => 4 | 46 => 110 | 5 => 5 | 9 => 9 | n => n, fun | n => n⟩
theorem Tryd.lays129 : Go.Proofs.Lays.n129 Tryd.prog Tryd.lays129_ren := {
  mixed := by kernel_rfl
  f129 := Tryd.func70.trans (congrArg some (by kernel_rfl))
  t3 := Tryd.underlying3
  a3 := Tryd.isAgg3
  z3 := Tryd.sizeOf3
  v3 := Tryd.zeroValue3
  t4 := Tryd.underlying4
  a4 := Tryd.isAgg4
  z4 := Tryd.sizeOf4
  v4 := Tryd.zeroValue4
  t5 := Tryd.underlying5
  a5 := Tryd.isAgg5
  z5 := Tryd.sizeOf5
  v5 := Tryd.zeroValue5
  t9 := Tryd.underlying9
  a9 := Tryd.isAgg9
  z9 := Tryd.sizeOf9
  v9 := Tryd.zeroValue9
  t46 := Tryd.underlying110
  a46 := Tryd.isAgg110
  z46 := Tryd.sizeOf110
  v46 := Tryd.zeroValue110
  t53 := Tryd.underlying95
  a53 := Tryd.isAgg95
  z53 := Tryd.sizeOf95
  v53 := Tryd.zeroValue95 }
theorem Tryd.bits_Len64 (x : Int) (w : World) (h0 : 0 ≤ x) (h1 : x ≤ 18446744073709551615) :
    Calls Tryd.prog 70 #[.int .u64 x] w fun e w' => e = .returned (.int .i64 (Lib.bitLen x.toNat)) ∧ w' = w := Any.bits_Len64 Tryd.lays129 x w h0 h1
end Go.Proofs
/- The contracts of an Out that grows by numbers: its bytes behind the call are those before and the number's. -/
namespace Go.Proofs.YtlanogkijgapdaaDoor
open Go.RowKit
set_option linter.unusedVariables false
set_option maxRecDepth 100000

def B8 (l : List UInt8) : List Value := l.map fun c => Value.int .u8 (c.toNat : Int)
theorem B8_append (a b : List UInt8) : B8 (a ++ b) = B8 a ++ B8 b := by simp [B8]
theorem B8_length (a : List UInt8) : (B8 a).length = a.length := by simp [B8]

/- An Out at block b: its one cell holds a slice that owns a row of a later block. -/
structure OutAt (w : World) (b : Nat) (l : List UInt8) : Prop where
  lt : b < w.heap.size
  frozen : w.frozen? ⟨b, 0, none⟩ = false
  cell : ∃ ao c, w.cell? ⟨b, 0, none⟩ = some (.slice ao l.length c) ∧ w.ownsRow (b + 1) 5 1 (.slice ao l.length c) l.length (B8 l)

/- Block k is neither the Out's own nor that of its row. -/
structure Foreign (w : World) (b k : Nat) : Prop where
  ne : k ≠ b
  own : ∀ v, w.cell? ⟨b, 0, none⟩ = some v → v.ownBlock ≠ some k

/- What a call of an Out leaves: blocks that are foreign to it are as they were, and foreign still. -/
structure Step (b : Nat) (w w' : World) : Prop where
  os : w'.os = w.os
  tape : w'.tape = w.tape
  output : w'.output = w.output
  size : w.heap.size ≤ w'.heap.size
  keep : ∀ k, k < w.heap.size → Foreign w b k → w'.heap[k]? = w.heap[k]? ∧ Foreign w' b k

theorem Step.refl (b : Nat) (w : World) : Step b w w := ⟨rfl, rfl, rfl, Nat.le_refl _, fun _ _ h => ⟨rfl, h⟩⟩
theorem Step.trans {b : Nat} {u v w : World} (h : Step b u v) (k : Step b v w) : Step b u w :=
  ⟨k.os.trans h.os, k.tape.trans h.tape, k.output.trans h.output, Nat.le_trans h.size k.size, fun i hi hf => by
    obtain ⟨e1, f1⟩ := h.keep i hi hf
    obtain ⟨e2, f2⟩ := k.keep i (by have := h.size; omega) f1
    exact ⟨e2.trans e1, f2⟩⟩
theorem Foreign.of_lt {w : World} {b k : Nat} {l : List UInt8} (h : OutAt w b l) (hk : k < b) : Foreign w b k := by
  obtain ⟨ao, c, hc, ho⟩ := h.cell
  refine ⟨by omega, fun v hv e => ?_⟩
  rw [hc] at hv
  injection hv with hv
  subst hv
  have := (ho.lt k e).1
  omega
theorem Step.below {b B : Nat} {w w' : World} {l : List UInt8} (h : Step b w w') (ho : OutAt w b l) (hB : B ≤ b) : Below B w w' :=
  ⟨h.os, h.tape, h.output, h.size, fun k hk => (h.keep k (by have := ho.lt; omega) (Foreign.of_lt ho (by omega))).1⟩
theorem OutAt.later {w w' : World} {b : Nat} {l : List UInt8} (h : OutAt w b l) (hb : Below w.heap.size w w') : OutAt w' b l ∧ Step b w w' := by
  obtain ⟨ao, c, hc, ho⟩ := h.cell
  have hsz := hb.size
  have hlt := h.lt
  have hc' : w'.cell? ⟨b, 0, none⟩ = some (.slice ao l.length c) := by rw [hb.cell (p := ⟨b, 0, none⟩) hlt]; exact hc
  refine ⟨⟨by omega, by rw [hb.frozen (p := ⟨b, 0, none⟩) hlt]; exact h.frozen, ao, c, hc', ownsRow_below ho hb⟩, ⟨hb.os, hb.tape, hb.output, hb.size, fun k hk hf => ⟨hb.block k hk, hf.ne, fun v hv => ?_⟩⟩⟩
  rw [hb.cell (p := ⟨b, 0, none⟩) hlt] at hv
  exact hf.own v hv
/- A new Out. -/
theorem OutAt.new (w : World) : OutAt (w.alloc (.cells #[.slice none 0 0] 72)) w.heap.size [] :=
  ⟨by simp, by simp, none, 0, by simp, World.ownsRow_nil _ _ _ _⟩

theorem fresh_of {A : Prop} {v : Option Nat} {M N : Nat} (h : A ∨ ∀ k, v = some k → N ≤ k) (hN : M ≤ N) : A ∨ ∀ k, v = some k → M ≤ k := by
  rcases h with h | h
  · exact Or.inl h
  · exact Or.inr fun k hk => Nat.le_trans hN (h k hk)

theorem grown_drew {w w1 : World} {r : Option Nat} (h : w.drew.grownBy w1 r) : w.grownBy w1 r := ⟨h.os, h.tape, h.output, h.size, h.block⟩

/- Behind an append: the Out's own cell is as it was. -/
theorem OutAt.grow0 {w w0 w1 : World} {b : Nat} {l : List UInt8} (h : OutAt w b l) (hb0 : Below w.heap.size w w0) {ao : Option Addr} {c : Nat} (hown : w.ownsRow (b + 1) 5 1 (.slice ao l.length c) l.length (B8 l))
    (hg : w0.grownBy w1 (Value.slice ao l.length c).ownBlock) :
    w1.frozen? ⟨b, 0, none⟩ = false ∧ w1.cell? ⟨b, 0, none⟩ = w.cell? ⟨b, 0, none⟩ ∧ b < w1.heap.size := by
  have hlt := h.lt
  have hsz := hg.size
  have hs0 := hb0.size
  have hlo := hown.lt
  have hblk : w1.heap[b]? = w.heap[b]? := by
    rw [hg.block b (by omega) (fun e => by have := hlo b e.symm; omega), hb0.block b hlt]
  refine ⟨?_, World.cell?_of_block (w := w) (a := ⟨b, 0, none⟩) hblk, by omega⟩
  rw [World.frozen?_of_block (w := w) (a := ⟨b, 0, none⟩) hblk]
  exact h.frozen
theorem OutAt.grow {w w1 : World} {b : Nat} {l : List UInt8} (h : OutAt w b l) {o : Obj} {ao : Option Addr} {c : Nat} (hown : w.ownsRow (b + 1) 5 1 (.slice ao l.length c) l.length (B8 l))
    (hg : (w.alloc o).grownBy w1 (Value.slice ao l.length c).ownBlock) :
    w1.frozen? ⟨b, 0, none⟩ = false ∧ w1.cell? ⟨b, 0, none⟩ = w.cell? ⟨b, 0, none⟩ ∧ b < w1.heap.size := h.grow0 ((Below.refl _ _).alloc (Nat.le_refl _) o) hown hg

/- Behind the store of the new slice. -/
theorem OutAt.put0 {w w0 w1 : World} {b : Nat} {l : List UInt8} (h : OutAt w b l) (hb0 : Below w.heap.size w w0) {ao : Option Addr} {c : Nat} (hcell : w.cell? ⟨b, 0, none⟩ = some (.slice ao l.length c))
    (hown : w.ownsRow (b + 1) 5 1 (.slice ao l.length c) l.length (B8 l)) (hg : w0.grownBy w1 (Value.slice ao l.length c).ownBlock)
    {v : Value} {ys : List UInt8} (hown' : w1.ownsRow (b + 1) 5 1 v (l.length + ys.length) (B8 l ++ B8 ys))
    (hfr : v.ownBlock = (Value.slice ao l.length c).ownBlock ∨ ∀ k, v.ownBlock = some k → w.heap.size ≤ k) :
    OutAt (w1.setCell ⟨b, 0, none⟩ v) b (l ++ ys) ∧ Step b w (w1.setCell ⟨b, 0, none⟩ v) := by
  obtain ⟨hf1, hc1, hlt1⟩ := h.grow0 hb0 hown hg
  have hsz := hg.size
  have hs0 := hb0.size
  have hnew : (w1.setCell ⟨b, 0, none⟩ v).cell? ⟨b, 0, none⟩ = some v := World.cell?_setCell_same _ _ _ (hc1.trans hcell)
  have hown2 := ownsRow_setCell_below hown' (a := ⟨b, 0, none⟩) (by simp) v
  rw [← B8_append, ← List.length_append] at hown2
  refine ⟨?_, ?_⟩
  · obtain ⟨ao', c', rfl, _⟩ := ownsRow_slice hown2
    refine ⟨by simpa using hlt1, by rw [World.frozen?_setCell]; exact hf1, ao', c', hnew, hown2⟩
  · refine ⟨hg.os.trans hb0.os, hg.tape.trans hb0.tape, hg.output.trans hb0.output, by simp [World.setCell]; omega, fun k hk hf => ⟨?_, hf.ne, ?_⟩⟩
    · rw [Below.heap_setCell _ _ _ _ hf.ne, hg.block k (by omega) (fun e => hf.own _ hcell e.symm), hb0.block k hk]
    · intro u hu
      rw [hnew] at hu
      injection hu with hu
      subst hu
      rcases hfr with e | e
      · rw [e]; exact hf.own _ hcell
      · intro ek
        have := e k ek
        omega
theorem OutAt.put {w w1 : World} {b : Nat} {l : List UInt8} (h : OutAt w b l) {o : Obj} {ao : Option Addr} {c : Nat} (hcell : w.cell? ⟨b, 0, none⟩ = some (.slice ao l.length c))
    (hown : w.ownsRow (b + 1) 5 1 (.slice ao l.length c) l.length (B8 l)) (hg : (w.alloc o).grownBy w1 (Value.slice ao l.length c).ownBlock)
    {v : Value} {ys : List UInt8} (hown' : w1.ownsRow (b + 1) 5 1 v (l.length + ys.length) (B8 l ++ B8 ys))
    (hfr : v.ownBlock = (Value.slice ao l.length c).ownBlock ∨ ∀ k, v.ownBlock = some k → w.heap.size ≤ k) :
    OutAt (w1.setCell ⟨b, 0, none⟩ v) b (l ++ ys) ∧ Step b w (w1.setCell ⟨b, 0, none⟩ v) := h.put0 ((Below.refl _ _).alloc (Nat.le_refl _) o) hcell hown hg hown' hfr

theorem u8_of (n : Nat) (h : n < 256) : ((n : Nat) : Int) = ((UInt8.ofNat n).toNat : Int) := by rw [UInt8.toNat_ofNat']; omega

theorem shifted (n j : Nat) (h : j < 8) : IntKind.u8.wrap ((n : Int) / 2 ^ (8 * (j : Int)).toNat) = ((UInt8.ofNat (n / 256 ^ j % 256)).toNat : Int) := by
  have e : (8 * (j : Int)).toNat = 8 * j := by omega
  rw [e, IntKind.wrap_u8', Codec.byte_of, Codec.pow256]
  have : ((n : Int) / 2 ^ (8 * j)) = ((n / 2 ^ (8 * j) : Nat) : Int) := by simp
  rw [this]
  omega

set_option maxHeartbeats 400000 in
theorem number_any (b n : Nat) (l : List UInt8) (w : World) (h : OutAt w b l) (hn : n < 18446744073709551616) (hl : l.length ≤ 1099511627776) :
    Calls Tryd.prog 62 #[.pointer (some ⟨b, 0, none⟩), .int .u64 n] w fun e w' => e = .returned (.tuple #[]) ∧ OutAt w' b (l ++ Codec.enc n) ∧ Step b w w' := by
  obtain ⟨i0, hi, hz0, hz1, hz2⟩ := info_parts info_byte
  have HLEN := hide (Tryd.bits_Len64 n w (by omega) (by omega))
  have hb8 := Codec.blen_le n hn
  have hbl := Codec.bitLen_le64 n hn
  obtain ⟨m, hm⟩ : ∃ m, m = Codec.blen n := ⟨_, rfl⟩
  have hdiv : ((Lib.bitLen n : Int) + 7) / 8 = (m : Int) := by rw [hm]; unfold Codec.blen; omega
  rw [← hm] at hb8
  have HM := hide hm
  rw [Int.toNat_natCast] at HLEN
  generalize Lib.bitLen n = kk at *
  have hm256 : ((m : Nat) : Int) % 256 = (m : Int) := by omega
  have HBYTE := hide (u8_of m (by omega))
  obtain ⟨ao, c, hcell, hown⟩ := h.cell
  have hfr := h.frozen
  have HOWN := hide hown
  have HCELL := hide hcell
  have HH := hide h
  have HN := hide hn
  clear hn hm h hown
  go_enter Tryd.func62, Tryd.ntmps62
  go_wp2_with fail
  refine (unhide HLEN).mono ?_
  rintro e wq ⟨rfl, rfl⟩
  clear HLEN
  go_wp2_with (first | (at_builtin; refine wpList_append_fresh rfl _ _ 70 rfl (b + 1) 5 i0 (.int .u8 0) 1 1 under_bytes hi hz0 hz1 hz2 rfl (by decide) _ _ _ rfl ((unhide HOWN).alloc _) ⟨wq.heap.size, 0, none⟩ 1 1 [.int .u8 (m : Int)] rfl rfl (cell_one_new _ _ _) ?c2 ?c3 ?c4 ?c5 ?_) | fail)
  case c2 => intro u hu; simp at hu; subst hu; rfl
  case c3 => unfold maxLen; omega
  case c4 => omega
  case c5 => have := (unhide HH).lt; simp; omega
  intro v' w1 hown' hgrow hfresh
  have hgr := (unhide HH).grow (unhide HOWN) hgrow
  have hput := (unhide HH).put (unhide HCELL) (unhide HOWN) hgrow (ys := [UInt8.ofNat m]) (by rw [unhide HBYTE] at hown'; exact hown') (fresh_of hfresh (by simp))
  obtain ⟨hf1, hc1, _⟩ := hgr
  rw [unhide HCELL] at hc1
  obtain ⟨a1, c1, rfl, _⟩ := ownsRow_slice hown'
  have HPUT := hide hput
  clear hown' hgrow hcell hfr hfresh hput
  go_wp2_with fail
  go_loopw [22] (fun i wr => ∃ k : Nat, k ≤ m ∧ i = .int .i64 k ∧ OutAt wr b (l ++ UInt8.ofNat m :: (Codec.be m n).take k) ∧ Step b wq wr) (fun i _ => m - (intOf i).toNat)
  case atStart =>
    have e : l ++ UInt8.ofNat m :: (Codec.be m n).take 0 = l ++ [UInt8.ofNat m] := by simp
    refine ⟨0, Nat.zero_le _, rfl, ?_, (unhide HPUT).2⟩
    rw [e]
    exact (unhide HPUT).1
  case round =>
    obtain ⟨k, hk, rfl, ho, hbw⟩ := hrel
    clear HPUT HH HOWN HCELL hf1 hc1
    by_cases hlt : k < m
    · obtain ⟨ao, c, hcell, hown⟩ := ho.cell
      have hfr := ho.frozen
      have hlen : (l ++ UInt8.ofNat m :: (Codec.be m n).take k).length ≤ 1099511627776 + 9 := by
        rw [List.length_append, List.length_cons, List.length_take, Codec.be_length]; omega
      have hblt : b < wr.heap.size := ho.lt
      have hcellA : ∀ o, (wr.alloc o).cell? ⟨b, 0, none⟩ = some (.slice ao (l ++ UInt8.ofNat m :: (Codec.be m n).take k).length c) := fun o => by
        rw [World.cell?_of_block (w := wr) (a := ⟨b, 0, none⟩) (Below.heap_alloc wr o b hblt)]; exact hcell
      have HO := hide ho
      have HOWN := hide hown
      have HCELL := hide hcell
      clear ho hown
      generalize hl2 : l ++ UInt8.ofNat m :: (Codec.be m n).take k = l2 at *
      have HL2 := hide hl2
      clear hl2
      obtain ⟨j, hj⟩ : ∃ j : Nat, (m : Int) - 1 - (k : Int) = (j : Int) := ⟨m - 1 - k, by omega⟩
      have hj8 : j < 8 := by omega
      have hw1 : IntKind.i64.wrap ((m : Int) - 1) = (m : Int) - 1 := by rw [IntKind.wrap_i64]; omega
      have hw2 : IntKind.i64.wrap ((m : Int) - 1 - (k : Int)) = (j : Int) := by rw [IntKind.wrap_i64]; omega
      have hw3 : IntKind.i64.wrap (8 * (j : Int)) = 8 * (j : Int) := by rw [IntKind.wrap_i64]; omega
      have HJ := hide hj
      clear hj
      have hjn : j = m - 1 - k := by have := unhide HJ; omega
      have HBY := hide (shifted n j hj8)
      have hl3 : l ++ UInt8.ofNat m :: (Codec.be m n).take (k + 1) = l2 ++ [UInt8.ofNat (n / 256 ^ j % 256)] := by
        rw [← unhide HL2, Codec.be_take m n k hlt, hjn]; simp
      have HL3 := hide hl3
      clear hl3 hjn
      go_wp2_with fail
      go_region_law (refine step_append_fresh rfl (.tmp 29) (.tmp 38) 70 rfl (b + 1) 5 i0 (.int .u8 0) 1 1 under_bytes hi hz0 hz1 hz2 rfl (by decide) (.slice ao l2.length c) l2.length (B8 l2) (by simp [Act.eval]) ((unhide HOWN).alloc _) ⟨wr.heap.size, 0, none⟩ 1 1 [.int .u8 (IntKind.u8.wrap ((n : Int) / 2 ^ (8 * (j : Int)).toNat))] (by simp [Act.eval]) rfl (fun jj u hu => by exact cell_one_new _ _ _ jj u hu) (fun u hu => by simp at hu; subst hu; rfl) (by unfold maxLen; omega) (by omega) (by simp; omega) ?_; intro v' w2 hown' hgrow hfresh; have hgr := (unhide HO).grow (unhide HOWN) (grown_drew hgrow); have HPUT := hide ((unhide HO).put (unhide HCELL) (unhide HOWN) (grown_drew hgrow) (ys := [UInt8.ofNat (n / 256 ^ j % 256)]) (by rw [unhide HBY] at hown'; exact hown') (fresh_of hfresh (by simp))); obtain ⟨hf2, hc2, _⟩ := hgr; rw [unhide HCELL] at hc2; obtain ⟨a2, c2, rfl, _⟩ := ownsRow_slice hown'; clear hown' hgrow hfresh)
      all_goals
        obtain ⟨ho3, hst3⟩ := unhide HPUT
        rw [← unhide HL3] at ho3
        have HO3 := hide ho3
        have HB3 := hide (hbw.trans hst3)
        clear ho3 hst3 HPUT hf2 hc2 hcell hcellA hw1 hw2 hw3
        go_wp2
        go_roundw
        case rel => exact ⟨k + 1, by omega, by go_num, unhide HO3, unhide HB3⟩
        case measure => simp [intOf]; omega
    · have : k = m := by omega
      subst this
      have e : (Codec.be k n).take k = Codec.be k n := List.take_of_length_le (by rw [Codec.be_length]; exact Nat.le_refl _)
      rw [e] at ho
      have e2 : Codec.enc n = UInt8.ofNat k :: Codec.be k n := by unfold Codec.enc; rw [← unhide HM]
      rw [← e2] at ho
      clear e e2
      go_wp2
      go_end0
      exact ⟨rfl, ho, hbw⟩
end Go.Proofs.YtlanogkijgapdaaDoor
/- The contracts of codec's Key: the bytes of the parts' key, in new memory. -/
namespace Go.Proofs.YtlanogkijgapdaaDoor
open Go.RowKit
set_option linter.unusedVariables false
set_option maxRecDepth 100000

/- The text of an owned row of bytes. -/
theorem bytes_text {w : World} {base : Nat} {v : Value} {l : List UInt8} (h : w.ownsRow base 5 1 v l.length (B8 l)) :
    (convert 70 9 v).run Tryd.prog w = .ok (.string (S l)) w := by
  rcases h.2 with ⟨rfl, hn⟩ | ⟨g, cap, cur, rfl, hb, hg, hnc, hcm, hcs, ht⟩
  · have : l = [] := List.length_eq_zero_iff.1 hn
    subst this
    exact run_convert_bytes_nil w 70 5 under_bytes under_byte 0 0 9 under_string
  · refine run_convert_bytes_back w 70 9 5 ⟨g, 0, none⟩ cap l under_bytes under_byte under_string ?_
    intro j hj
    rw [plain_add, Nat.zero_add, h.cellAt j (by omega)]
    simp [B8, hj]

/- A row of bytes of the call's own, apart from block g, which is as it was in w0. -/
structure RowAt (w0 wr : World) (base g : Nat) (v : Value) (l : List UInt8) : Prop where
  own : wr.ownsRow base 5 1 v l.length (B8 l)
  apart : v.ownBlock ≠ some g
  kept : wr.heap[g]? = w0.heap[g]?
  lt : g < wr.heap.size
  base_le : base ≤ wr.heap.size
  below : Below base w0 wr

theorem RowAt.grow {w0 wr w1 : World} {base g : Nat} {v v' : Value} {l ys : List UInt8} {o : Obj} (h : RowAt w0 wr base g v l)
    (hown : w1.ownsRow base 5 1 v' (l.length + ys.length) (B8 l ++ B8 ys)) (hg : (wr.alloc o).grownBy w1 v.ownBlock)
    (hfr : v'.ownBlock = v.ownBlock ∨ ∀ k, v'.ownBlock = some k → wr.heap.size ≤ k) : RowAt w0 w1 base g v' (l ++ ys) := by
  have hlt := h.lt
  have hb := h.base_le
  have hsz := hg.size
  simp at hsz
  have hlo := h.own.lt
  refine ⟨by rw [B8_append, List.length_append]; exact hown, ?_, ?_, by omega, by omega, ?_⟩
  · rcases hfr with e | e
    · rw [e]; exact h.apart
    · intro ek
      have := e g ek
      omega
  · rw [hg.block g (by simp; omega) (fun e => h.apart e.symm), Below.heap_alloc _ _ _ hlt]; exact h.kept
  · exact (h.below.alloc hb o).grown hg (by simp; omega) (fun k hk => (hlo k hk).1)

theorem two_new (w : World) (a b : Value) (t : TypeId) : ∀ j u, [a, b][j]? = some u → (w.alloc (.cells #[a, b] t)).cell? ((⟨w.heap.size, 0, none⟩ : Addr).add j) = some u := by
  intro j u hu
  rw [plain_add, Nat.zero_add]
  match j, hu with
  | 0, hu => simp at hu; subst hu; simp
  | 1, hu => simp at hu; subst hu; simp

/- A slice of texts that came in: its first 'len' texts, at a plain address. -/
def Texts (w : World) (a : Option Addr) (l : List (List UInt8)) : Prop :=
  ∀ i (hi : i < l.length), ∃ b off, a = some ⟨b, off, none⟩ ∧ b < w.heap.size ∧ w.cell? ⟨b, off + i, none⟩ = some (.string (S l[i]))

theorem Texts.later {w w' : World} {a : Option Addr} {l : List (List UInt8)} (h : Texts w a l) (hb : Below w.heap.size w w') : Texts w' a l := by
  intro i hi
  obtain ⟨b, off, e, hlt, hc⟩ := h i hi
  exact ⟨b, off, e, by have := hb.size; omega, by rw [hb.cell (p := ⟨b, off + i, none⟩) hlt]; exact hc⟩

theorem key_small (l : List (List UInt8)) (n k : Nat) (hl : l.length ≤ 64) (hz : ∀ i (h : i < l.length), l[i].length ≤ 1048576) (hk : k ≤ l.length) : (Codec.key (l.take k)).length ≤ 2097154 * k := by
  induction k with
  | zero => simp [Codec.key]
  | succ k ih =>
    rw [Codec.key_snoc l k (by omega), List.length_append]
    have h1 := ih (by omega)
    have h2 := Codec.esc_length l[k]
    have h3 := hz k (by omega)
    have h4 : (Codec.encPart l[k]).length = (Codec.esc l[k]).length + 2 := by simp [Codec.encPart]
    omega

end Go.Proofs.YtlanogkijgapdaaDoor
/- The contracts of an Out's U and Text; that codec answers what the document's examples say. -/
namespace Go.Proofs.YtlanogkijgapdaaDoor
open Go.RowKit
set_option linter.unusedVariables false
set_option maxRecDepth 100000

def encs (l : List Nat) : List UInt8 := l.flatMap Codec.enc
theorem encs_snoc (l : List Nat) (k : Nat) (h : k < l.length) : encs (l.take (k + 1)) = encs (l.take k) ++ Codec.enc l[k] := by
  rw [List.take_succ_eq_append_getElem h]; unfold encs; rw [List.flatMap_append]; congr 1; simp
theorem encs_length (l : List Nat) (hl : ∀ i (h : i < l.length), l[i] < 18446744073709551616) (k : Nat) (hk : k ≤ l.length) : (encs (l.take k)).length ≤ 9 * k := by
  induction k with
  | zero => simp [encs]
  | succ k ih =>
    rw [encs_snoc l k (by omega), List.length_append, Codec.enc_length]
    have h1 := ih (by omega)
    have h2 := Codec.blen_le l[k] (hl k (by omega))
    omega

/- Numbers in cells of a block that is foreign to the Out. -/
def Nums (w : World) (b : Nat) (a : Option Addr) (l : List Nat) (f : Nat → Value) : Prop :=
  ∀ i (hi : i < l.length), ∃ sb off, a = some ⟨sb, off, none⟩ ∧ sb < w.heap.size ∧ Foreign w b sb ∧ w.cell? ⟨sb, off + i, none⟩ = some (f l[i])

set_option maxHeartbeats 400000 in
theorem text_any (b : Nat) (l : List UInt8) (w : World) (h : OutAt w b l) :
    Calls Tryd.prog 44 #[.pointer (some ⟨b, 0, none⟩)] w fun e w' => e = .returned (.string (S l)) ∧ w' = w := by
  obtain ⟨ao, c, hcell, hown⟩ := h.cell
  have kb := bytes_text hown
  clear h hown
  go_enter Tryd.func44, Tryd.ntmps44
  go_wp2
  go_ret
  exact ⟨rfl, rfl⟩

theorem enc300 : Codec.enc 300 = [2, 1, 44] := by decide +kernel
theorem keyA : Codec.key [[97], []] = [97, 0, 1, 0, 1] := by decide +kernel
theorem minusOne : Codec.takeI ([1, 1], 0) = (-1, ([], 0)) := by decide +kernel

theorem foreign_new (w : World) (o : Obj) : Foreign ((w.alloc (.cells #[.slice none 0 0] 72)).alloc o) w.heap.size (w.heap.size + 1) := by
  refine ⟨by omega, fun v hv e => ?_⟩
  have : ((w.alloc (.cells #[.slice none 0 0] 72)).alloc o).cell? ⟨w.heap.size, 0, none⟩ = some (.slice none 0 0) := by
    rw [World.cell?_of_block (w := w.alloc (.cells #[.slice none 0 0] 72)) (a := ⟨w.heap.size, 0, none⟩) (Below.heap_alloc _ o _ (by simp))]
    simp
  rw [this] at hv
  injection hv with hv
  subst hv
  simp [Value.ownBlock] at e

theorem read_none (w : World) :
    Calls Tryd.prog 36 #[.string ⟨#[]⟩] w fun e w' => e = .returned (.pointer (some ⟨w.heap.size, 0, none⟩)) ∧ Below w.heap.size w w' := by
  refine (read_any [] w (by simp)).mono ?_
  rintro e w' ⟨rfl, _, hb, _⟩
  exact ⟨rfl, hb⟩
theorem read_one (w : World) :
    Calls Tryd.prog 36 #[.string ⟨#[1, 1]⟩] w fun e w' => e = .returned (.pointer (some ⟨w.heap.size, 0, none⟩)) ∧ InAt w' w.heap.size ([1, 1], 0) ∧ Below w.heap.size w w' ∧ w'.heap.size = w.heap.size + 1 :=
  read_any [1, 1] w (by simp)
theorem i_minus (b : Nat) (w : World) (h : InAt w b ([1, 1], 0)) :
    Calls Tryd.prog 38 #[.pointer (some ⟨b, 0, none⟩)] w fun e w' => e = .returned (.int .i64 (-1)) ∧ But b w.heap.size w w' := by
  have h1 := i_any b _ w h
  rw [minusOne] at h1
  refine h1.mono ?_
  rintro e w' ⟨rfl, _, hb⟩
  exact ⟨rfl, hb⟩

end Go.Proofs.YtlanogkijgapdaaDoor
/- The contracts of Cut and of the reference's U; the walk of the law CodecOne: for every text the call returns true, and nothing that was there has turned. -/
namespace Go.Proofs.YtlanogkijgapdaaDoor
open Go.RowKit
set_option linter.unusedVariables false
set_option maxRecDepth 100000

set_option maxHeartbeats 400000 in
theorem cut_any (s : ByteArray) (n : Nat) (w : World) (hs : s.size ≤ maxLen) :
    Calls Tryd.prog 19 #[.string s, .int .i64 n] w fun e w' => e = .returned (.string (S (s.data.toList.take n))) ∧ w' = w := by
  unfold maxLen at hs
  have ht : s.extract 0 n = S (s.data.toList.take n) := S_take s.data.toList n
  by_cases h : n < s.size
  · go_enter Tryd.func19, Tryd.ntmps19
    go_wp2
    go_ret
    exact ⟨rfl, rfl⟩
  · have e : S (s.data.toList.take n) = s := by
      rw [List.take_of_length_le (by show s.size ≤ n; omega)]; rfl
    rw [e]
    clear e ht
    go_enter Tryd.func19, Tryd.ntmps19
    go_wp2
    go_ret
    exact ⟨rfl, rfl⟩

theorem one_back (w : World) (a : UInt8) :
    (convert 70 9 (.slice (some ⟨w.heap.size, 0, none⟩) 1 1)).run Tryd.prog (w.alloc (.cells #[.int .u8 (a.toNat : Int)] 5)) =
      .ok (.string (S [a])) (w.alloc (.cells #[.int .u8 (a.toNat : Int)] 5)) := by
  refine run_convert_bytes_back _ 70 9 5 ⟨w.heap.size, 0, none⟩ 1 [a] under_bytes under_byte under_string ?_
  intro j hj
  simp at hj
  subst hj
  rw [plain_add]
  simp

theorem S_append (a b : List UInt8) : S a ++ S b = S (a ++ b) := by
  apply ByteArray.ext
  simp [S]

set_option maxRecDepth 100000 in
set_option maxHeartbeats 400000 in
theorem refU_any (n : Nat) (w : World) (hn : n < 18446744073709551616) :
    Calls Tryd.prog 64 #[.int .u64 n] w fun e w' => e = .returned (.string (S (Codec.enc n))) ∧ Below w.heap.size w w' := by
  have hb8 := Codec.blen_le n hn
  go_enter Tryd.func64, Tryd.ntmps64
  go_wp2_with fail
  go_loopw [0, 3, 4] (fun x s i wr => ∃ k : Nat, k ≤ Codec.blen n ∧ i = .int .i64 k ∧ x = .int .u64 (n / 256 ^ k : Nat) ∧ s = .string (S (Codec.be k n)) ∧ Below w.heap.size w wr) (fun _ _ i _ => 8 - (intOf i).toNat)
  case atStart => exact ⟨0, Nat.zero_le _, rfl, by simp, rfl, Below.refl _ _⟩
  case round =>
    obtain ⟨k, hk, rfl, rfl, rfl, hbw⟩ := hrel
    have hlf := Codec.left_iff n k hn
    have hsz : (S (Codec.be k n)).size = k := by rw [S_size, Codec.be_length]
    by_cases hlt : k < Codec.blen n
    · have hpos := hlf.2 hlt
      have HBC := hide (Codec.be_cons k n)
      have HDD : Hid (n / 256 ^ (k + 1) = n / 256 ^ k / 256) := by
        show _ = _
        rw [Nat.pow_succ, Nat.div_div_eq_div_mul]
      have hxl : n / 256 ^ k < 18446744073709551616 := Nat.lt_of_le_of_lt (Nat.div_le_self _ _) hn
      generalize n / 256 ^ k = x at *
      have hbyte := Codec.byte_of x
      have hb2 : ((x : Int) % 256) = ((UInt8.ofNat (x % 256)).toNat : Int) := by rw [hbyte]; omega
      have k1 := one_back wr (UInt8.ofNat (x % 256))
      rw [← hb2] at k1
      have hap := S_append [UInt8.ofNat (x % 256)] (Codec.be k n)
      have hz1 : (S [UInt8.ofNat (x % 256)]).size = 1 := rfl
      clear hbyte hb2 hlf
      go_wp2
      exact ⟨⟨k + 1, by omega, by go_num, by rw [unhide HDD]; go_num, by rw [unhide HBC], hbw.alloc hbw.size _⟩, by simp [intOf]; omega⟩
    · have hkb : k = Codec.blen n := by omega
      have hx0 : n / 256 ^ k = 0 := by
        rcases Nat.eq_zero_or_pos (n / 256 ^ k) with h | h
        · exact h
        · exact absurd (hlf.1 h) hlt
      have HE : Hid (Codec.enc n = UInt8.ofNat k :: Codec.be k n) := by
        show _ = _
        unfold Codec.enc; rw [hkb]
      rw [hx0]
      have hk8 : k ≤ 8 := by omega
      clear hlf hx0 hlt hk hb8 hkb
      have hb2 : ((k : Nat) : Int) = ((UInt8.ofNat k).toNat : Int) := u8_of k (by omega)
      have k1 := one_back wr (UInt8.ofNat k)
      rw [← hb2] at k1
      have hap := S_append [UInt8.ofNat k] (Codec.be k n)
      have hz1 : (S [UInt8.ofNat k]).size = 1 := rfl
      clear hb2
      by_cases hk7 : k < 8
      · go_wp2
        go_ret
        exact ⟨ret_string (by rw [unhide HE]), hbw.alloc hbw.size _⟩
      · go_wp2
        go_ret
        exact ⟨ret_string (by rw [unhide HE]), hbw.alloc hbw.size _⟩

end Go.Proofs.YtlanogkijgapdaaDoor
/- The contracts of an Out's whole numbers, numbers from 0 on and texts, and of the reference's. -/
namespace Go.Proofs.YtlanogkijgapdaaDoor
open Go.RowKit
set_option linter.unusedVariables false
set_option maxRecDepth 100000

theorem ones64 (n : Nat) (h : n < 2 ^ 64) : 18446744073709551615 ^^^ n = 18446744073709551615 - n := by
  apply Nat.eq_of_testBit_eq
  intro i
  have e : 18446744073709551615 - n = 2 ^ 64 - (n + 1) := by omega
  rw [e, Nat.testBit_two_pow_sub_succ h, Nat.testBit_xor, show 18446744073709551615 = 2 ^ 64 - 1 from by decide, Nat.testBit_two_pow_sub_one]
  by_cases hi : i < 64
  · simp [hi]
  · have : n.testBit i = false := Nat.testBit_lt_two_pow (Nat.lt_of_lt_of_le h (Nat.pow_le_pow_right (by omega) (by omega)))
    simp [hi, this]

theorem not_u64 (n : Nat) (h : n < 18446744073709551616) : bits .xor .u64 IntKind.u64.max (n : Int) = ((18446744073709551615 - n : Nat) : Int) := by
  have e := u64_xor_nat 18446744073709551615 n (by omega) h
  rw [ones64 n h] at e
  exact e

theorem fold_neg (k : Int) (h1 : -9223372036854775808 ≤ k) (h : k < 0) : bits .xor .u64 IntKind.u64.max (IntKind.u64.wrap (IntKind.u64.wrap k * 2)) = ((Codec.fold k : Nat) : Int) := by
  obtain ⟨m, hm⟩ := Int.eq_ofNat_of_zero_le (show 0 ≤ 2 * k + 18446744073709551616 by omega)
  have e : IntKind.u64.wrap (IntKind.u64.wrap k * 2) = (m : Int) := by
    rw [IntKind.wrap_u64, IntKind.wrap_u64]; omega
  rw [e, not_u64 m (by omega)]
  unfold Codec.fold
  rw [if_neg (by omega)]
  omega

set_option maxHeartbeats 400000 in
theorem fold_any (k : Int) (w : World) (h1 : -9223372036854775808 ≤ k) (h2 : k ≤ 9223372036854775807) :
    Calls Tryd.prog 63 #[.int .i64 k] w fun e w' => e = .returned (.int .u64 (Codec.fold k : Nat)) ∧ w' = w := by
  by_cases h : k < 0
  · have HF := hide (fold_neg k h1 h)
    go_enter Tryd.func63, Tryd.ntmps63
    go_wp2
    go_ret
    exact ⟨ret_int (unhide HF), rfl⟩
  · go_enter Tryd.func63, Tryd.ntmps63
    go_wp2
    go_ret
    refine ⟨ret_int ?_, rfl⟩
    unfold Codec.fold
    rw [if_pos (by omega)]
    omega

set_option maxHeartbeats 400000 in
theorem refI_any (k : Int) (w : World) (h1 : -9223372036854775808 ≤ k) (h2 : k ≤ 9223372036854775807) :
    Calls Tryd.prog 46 #[.int .i64 k] w fun e w' => e = .returned (.string (S (Codec.enc (Codec.fold k)))) ∧ Below w.heap.size w w' := by
  have HU := hide (fun wx => refU_any (Codec.fold k) wx (Codec.fold_lt k h1 h2))
  by_cases h : 0 ≤ k
  · have e : ((Codec.fold k : Nat) : Int) = 2 * k := by unfold Codec.fold; rw [if_pos h]; omega
    rw [e] at HU
    clear e
    go_enter Tryd.func46, Tryd.ntmps46
    go_wp2_with fail
    refine (unhide HU _).mono ?_
    rintro e w1 ⟨rfl, hb⟩
    go_wp2
    go_ret
    exact ⟨rfl, hb⟩
  · have e : ((Codec.fold k : Nat) : Int) = 2 * -(k + 1) + 1 := by unfold Codec.fold; rw [if_neg h]; omega
    rw [e] at HU
    clear e
    go_enter Tryd.func46, Tryd.ntmps46
    go_wp2_with fail
    refine (unhide HU _).mono ?_
    rintro e w1 ⟨rfl, hb⟩
    go_wp2
    go_ret
    exact ⟨rfl, hb⟩

set_option maxHeartbeats 400000 in
theorem refN_any (k : Int) (w : World) (h1 : -9223372036854775808 ≤ k) (h2 : k ≤ 9223372036854775807) :
    Calls Tryd.prog 45 #[.int .i64 k] w fun e w' => e = .returned (.string (S (Codec.enc (max k 0).toNat))) ∧ Below w.heap.size w w' := by
  have HU := hide (fun wx => refU_any (max k 0).toNat wx (by omega))
  have e : (((max k 0).toNat : Nat) : Int) = max k 0 := by omega
  rw [e] at HU
  clear e
  go_enter Tryd.func45, Tryd.ntmps45
  go_wp2_with fail
  refine (unhide HU _).mono ?_
  rintro e w1 ⟨rfl, hb⟩
  go_wp2
  go_ret
  exact ⟨rfl, hb⟩

set_option maxHeartbeats 400000 in
theorem refS_any (l : List UInt8) (w : World) (hl : l.length ≤ 1099511627776) :
    Calls Tryd.prog 47 #[.string (S l)] w fun e w' => e = .returned (.string (S (Codec.encS l))) ∧ Below w.heap.size w w' := by
  have HU := hide (fun wx => refU_any l.length wx (by omega))
  have hes := Codec.enc_short l.length (by omega)
  have hsz : (S l).size = l.length := S_size l
  have hsz2 : (S (Codec.enc l.length)).size = (Codec.enc l.length).length := S_size _
  have hap := S_append (Codec.enc l.length) l
  have hE : Codec.encS l = Codec.enc l.length ++ l := rfl
  rw [hE]
  clear hE
  generalize Codec.enc l.length = en at *
  go_enter Tryd.func47, Tryd.ntmps47
  go_wp2_with fail
  refine (unhide HU _).mono ?_
  rintro e w1 ⟨rfl, hb⟩
  go_wp2
  go_ret
  exact ⟨rfl, hb⟩

/- Out.I, Out.N: as Out.U, each number made ahead. -/
def encI (l : List Int) : List UInt8 := l.flatMap fun k => Codec.enc (Codec.fold k)
def encN (l : List Int) : List UInt8 := l.flatMap fun k => Codec.enc (max k 0).toNat
theorem flat_snoc (g : Int → List UInt8) (l : List Int) (k : Nat) (h : k < l.length) : (l.take (k + 1)).flatMap g = (l.take k).flatMap g ++ g l[k] := by
  rw [List.take_succ_eq_append_getElem h, List.flatMap_append]; congr 1; simp
theorem flat_short (g : Int → List UInt8) (l : List Int) (hg : ∀ i (h : i < l.length), (g l[i]).length ≤ 9) (k : Nat) (hk : k ≤ l.length) : ((l.take k).flatMap g).length ≤ 9 * k := by
  induction k with
  | zero => simp
  | succ k ih =>
    rw [flat_snoc g l k (by omega), List.length_append]
    have h1 := ih (by omega)
    have h2 := hg k (by omega)
    omega
def Ints (w : World) (b : Nat) (a : Option Addr) (l : List Int) : Prop :=
  ∀ i (hi : i < l.length), ∃ sb off, a = some ⟨sb, off, none⟩ ∧ sb < w.heap.size ∧ Foreign w b sb ∧ w.cell? ⟨sb, off + i, none⟩ = some (.int .i64 l[i])

set_option maxHeartbeats 400000 in
theorem outI_any (b : Nat) (l : List UInt8) (ns : List Int) (a : Option Addr) (n cap : Nat) (w : World) (h : OutAt w b l) (hn : n = ns.length) (hn64 : ns.length ≤ 64) (hl : l.length ≤ 549755813888)
    (hns : ∀ i (h : i < ns.length), -9223372036854775808 ≤ ns[i] ∧ ns[i] ≤ 9223372036854775807) (hnum : Ints w b a ns) :
    Calls Tryd.prog 42 #[.pointer (some ⟨b, 0, none⟩), .slice a n cap] w fun e w' => e = .returned (.pointer (some ⟨b, 0, none⟩)) ∧ OutAt w' b (l ++ encI ns) ∧ Step b w w' := by
  have HNS := hide hns
  have HNUM := hide hnum
  have HN := hide hn
  have HH := hide h
  have hnn : n ≤ 64 := by omega
  clear hns hnum hn h
  go_enter Tryd.func42, Tryd.ntmps42
  go_wp2_with fail
  go_loopw [9] (fun i wr => ∃ k : Nat, k ≤ n ∧ i = .int .i64 k ∧ OutAt wr b (l ++ encI (ns.take k)) ∧ Step b w wr) (fun i _ => n - (intOf i).toNat)
  case atStart =>
    refine ⟨0, Nat.zero_le _, rfl, ?_, Step.refl _ _⟩
    have e : l ++ encI (ns.take 0) = l := by simp [encI]
    rw [e]
    exact unhide HH
  case round =>
    obtain ⟨k, hk, rfl, ho, hst⟩ := hrel
    have hel : (encI (ns.take k)).length ≤ 9 * k := flat_short _ ns (fun i hi => Codec.enc_short _ (Codec.fold_lt _ (unhide HNS i hi).1 (unhide HNS i hi).2)) k (by have := unhide HN; omega)
    by_cases hlt : k < n
    · have hkl : k < ns.length := by have := unhide HN; omega
      obtain ⟨sb, off, ha, hblt, hfor, hcell⟩ := unhide HNUM k hkl
      subst ha
      rw [← World.cell?_of_block (w := w) (a := ⟨sb, off + k, none⟩) (hst.keep sb hblt hfor).1] at hcell
      have HES : Hid (encI (ns.take (k + 1)) = encI (ns.take k) ++ Codec.enc (Codec.fold ns[k])) := flat_snoc _ ns k hkl
      obtain ⟨hr1, hr2⟩ := unhide HNS k hkl
      have HFO := hide (fun wx => fold_any ns[k] wx hr1 hr2)
      have HNB := hide (number_any b (Codec.fold ns[k]) (l ++ encI (ns.take k)) wr ho (Codec.fold_lt _ hr1 hr2) (by rw [List.length_append]; omega))
      clear ho hr1 hr2
      generalize ns[k] = x at *
      generalize Codec.fold x = y at *
      go_wp2_with fail
      refine (unhide HFO _).mono ?_
      rintro e w1 ⟨rfl, rfl⟩
      go_wp2_with fail
      refine (unhide HNB).mono ?_
      rintro e w2 ⟨rfl, ho2, hst2⟩
      rw [List.append_assoc, ← unhide HES] at ho2
      have HO := hide ho2
      clear ho2 HNB
      go_wp2
      go_roundw
      case rel => exact ⟨k + 1, by omega, by go_num, unhide HO, hst.trans hst2⟩
      case measure => simp [intOf]; omega
    · have hkn : k = ns.length := by have := unhide HN; omega
      have e : ns.take k = ns := by rw [hkn]; exact List.take_length
      rw [e] at ho
      clear e
      go_wp2
      go_ret
      exact ⟨rfl, ho, hst⟩

set_option maxHeartbeats 400000 in
theorem outN_any (b : Nat) (l : List UInt8) (ns : List Int) (a : Option Addr) (n cap : Nat) (w : World) (h : OutAt w b l) (hn : n = ns.length) (hn64 : ns.length ≤ 64) (hl : l.length ≤ 549755813888)
    (hns : ∀ i (h : i < ns.length), -9223372036854775808 ≤ ns[i] ∧ ns[i] ≤ 9223372036854775807) (hnum : Ints w b a ns) :
    Calls Tryd.prog 41 #[.pointer (some ⟨b, 0, none⟩), .slice a n cap] w fun e w' => e = .returned (.pointer (some ⟨b, 0, none⟩)) ∧ OutAt w' b (l ++ encN ns) ∧ Step b w w' := by
  have HNS := hide hns
  have HNUM := hide hnum
  have HN := hide hn
  have HH := hide h
  have hnn : n ≤ 64 := by omega
  clear hns hnum hn h
  go_enter Tryd.func41, Tryd.ntmps41
  go_wp2_with fail
  go_loopw [9] (fun i wr => ∃ k : Nat, k ≤ n ∧ i = .int .i64 k ∧ OutAt wr b (l ++ encN (ns.take k)) ∧ Step b w wr) (fun i _ => n - (intOf i).toNat)
  case atStart =>
    refine ⟨0, Nat.zero_le _, rfl, ?_, Step.refl _ _⟩
    have e : l ++ encN (ns.take 0) = l := by simp [encN]
    rw [e]
    exact unhide HH
  case round =>
    obtain ⟨k, hk, rfl, ho, hst⟩ := hrel
    have hel : (encN (ns.take k)).length ≤ 9 * k := flat_short _ ns (fun i hi => Codec.enc_short _ (by have := unhide HNS i hi; omega)) k (by have := unhide HN; omega)
    by_cases hlt : k < n
    · have hkl : k < ns.length := by have := unhide HN; omega
      obtain ⟨sb, off, ha, hblt, hfor, hcell⟩ := unhide HNUM k hkl
      subst ha
      rw [← World.cell?_of_block (w := w) (a := ⟨sb, off + k, none⟩) (hst.keep sb hblt hfor).1] at hcell
      have HES : Hid (encN (ns.take (k + 1)) = encN (ns.take k) ++ Codec.enc (max ns[k] 0).toNat) := flat_snoc _ ns k hkl
      obtain ⟨hr1, hr2⟩ := unhide HNS k hkl
      have HFO := hide (fun wx => nought_any ns[k] wx hr1 hr2)
      have HNB := hide (number_any b (max ns[k] 0).toNat (l ++ encN (ns.take k)) wr ho (by omega) (by rw [List.length_append]; omega))
      clear ho hr1 hr2
      generalize (max ns[k] 0).toNat = y at *
      generalize ns[k] = x at *
      go_wp2_with fail
      refine (unhide HFO _).mono ?_
      rintro e w1 ⟨rfl, rfl⟩
      go_wp2_with fail
      refine (unhide HNB).mono ?_
      rintro e w2 ⟨rfl, ho2, hst2⟩
      rw [List.append_assoc, ← unhide HES] at ho2
      have HO := hide ho2
      clear ho2 HNB
      go_wp2
      go_roundw
      case rel => exact ⟨k + 1, by omega, by go_num, unhide HO, hst.trans hst2⟩
      case measure => simp [intOf]; omega
    · have hkn : k = ns.length := by have := unhide HN; omega
      have e : ns.take k = ns := by rw [hkn]; exact List.take_length
      rw [e] at ho
      clear e
      go_wp2
      go_ret
      exact ⟨rfl, ho, hst⟩

def encT (l : List (List UInt8)) : List UInt8 := l.flatMap Codec.encS
theorem encT_snoc (l : List (List UInt8)) (k : Nat) (h : k < l.length) : encT (l.take (k + 1)) = encT (l.take k) ++ Codec.encS l[k] := by
  rw [List.take_succ_eq_append_getElem h]; unfold encT; rw [List.flatMap_append]; congr 1; simp
theorem encT_short (l : List (List UInt8)) (hl : ∀ i (h : i < l.length), l[i].length ≤ 1048576) (k : Nat) (hk : k ≤ l.length) : (encT (l.take k)).length ≤ 1048585 * k := by
  induction k with
  | zero => simp [encT]
  | succ k ih =>
    rw [encT_snoc l k (by omega), List.length_append]
    have h1 := ih (by omega)
    have h2 := hl k (by omega)
    have h3 : (Codec.encS l[k]).length = (Codec.enc l[k].length).length + l[k].length := by simp [Codec.encS]
    have h4 := Codec.enc_short l[k].length (by omega)
    omega
def Strs (w : World) (b : Nat) (a : Option Addr) (l : List (List UInt8)) : Prop :=
  ∀ i (hi : i < l.length), ∃ sb off, a = some ⟨sb, off, none⟩ ∧ sb < w.heap.size ∧ Foreign w b sb ∧ w.cell? ⟨sb, off + i, none⟩ = some (.string (S l[i]))

/- One number from 0 on, in a block of its own that was made just ahead. -/
theorem outN_one (b : Nat) (l : List UInt8) (x : Nat) (w : World) (h : OutAt w b l) (hl : l.length ≤ 549755813888) (hx : x ≤ 9223372036854775807) :
    Calls Tryd.prog 41 #[.pointer (some ⟨b, 0, none⟩), .slice (some ⟨w.heap.size, 0, none⟩) 1 1] (w.alloc (.cells #[.int .i64 (x : Int)] 3)) fun e w' =>
      e = .returned (.pointer (some ⟨b, 0, none⟩)) ∧ OutAt w' b (l ++ Codec.enc x) ∧ Step b w w' := by
  obtain ⟨ho, hst⟩ := h.later (w' := w.alloc (.cells #[.int .i64 (x : Int)] 3)) ((Below.refl _ _).alloc (Nat.le_refl _) _)
  have hfor : Foreign (w.alloc (.cells #[.int .i64 (x : Int)] 3)) b w.heap.size := by
    obtain ⟨ao, c, hc, hown⟩ := h.cell
    refine ⟨by have := h.lt; omega, fun v hv e => ?_⟩
    rw [World.cell?_of_block (w := w) (a := ⟨b, 0, none⟩) (Below.heap_alloc _ _ _ h.lt), hc] at hv
    injection hv with hv
    subst hv
    have := (hown.lt _ e).2
    omega
  have hN := outN_any b l [(x : Int)] (some ⟨w.heap.size, 0, none⟩) 1 1 _ ho rfl (by simp) hl (by intro i hi; simp at hi; subst hi; simp; omega)
    (by
      intro i hi
      simp at hi
      subst hi
      refine ⟨_, _, rfl, by simp, hfor, ?_⟩
      simp)
  refine hN.mono ?_
  rintro e w' ⟨rfl, h1, h2⟩
  have e : encN [(x : Int)] = Codec.enc x := by simp [encN]
  rw [e] at h1
  exact ⟨rfl, h1, hst.trans h2⟩

set_option maxHeartbeats 400000 in
theorem outS_any (b : Nat) (l : List UInt8) (ns : List (List UInt8)) (a : Option Addr) (n cap : Nat) (w : World) (h : OutAt w b l) (hn : n = ns.length) (hn64 : ns.length ≤ 64) (hl : l.length ≤ 274877906944)
    (hns : ∀ i (h : i < ns.length), ns[i].length ≤ 1048576) (hnum : Strs w b a ns) :
    Calls Tryd.prog 43 #[.pointer (some ⟨b, 0, none⟩), .slice a n cap] w fun e w' => e = .returned (.pointer (some ⟨b, 0, none⟩)) ∧ OutAt w' b (l ++ encT ns) ∧ Step b w w' := by
  obtain ⟨i0, hi, hz0, hz1, hz2⟩ := info_parts info_byte
  have HNS := hide hns
  have HNUM := hide hnum
  have HN := hide hn
  have HH := hide h
  have hnn : n ≤ 64 := by omega
  clear hns hnum hn h
  go_enter Tryd.func43, Tryd.ntmps43
  go_wp2_with fail
  go_loopw [9] (fun i wr => ∃ k : Nat, k ≤ n ∧ i = .int .i64 k ∧ OutAt wr b (l ++ encT (ns.take k)) ∧ Step b w wr) (fun i _ => n - (intOf i).toNat)
  case atStart =>
    refine ⟨0, Nat.zero_le _, rfl, ?_, Step.refl _ _⟩
    have e : l ++ encT (ns.take 0) = l := by simp [encT]
    rw [e]
    exact unhide HH
  case round =>
    obtain ⟨k, hk, rfl, ho, hst⟩ := hrel
    have hel := encT_short ns (unhide HNS) k (by have := unhide HN; omega)
    by_cases hlt : k < n
    · have hkl : k < ns.length := by have := unhide HN; omega
      obtain ⟨sb, off, ha, hblt, hfor, hcell⟩ := unhide HNUM k hkl
      subst ha
      rw [← World.cell?_of_block (w := w) (a := ⟨sb, off + k, none⟩) (hst.keep sb hblt hfor).1] at hcell
      have hxl := unhide HNS k hkl
      have HES := hide (encT_snoc ns k hkl)
      have hll : (l ++ encT (ns.take k)).length ≤ 274877906944 + 67109440 := by rw [List.length_append]; omega
      have hsz : (S ns[k]).size = ns[k].length := S_size _
      have HN1 := hide (outN_one b (l ++ encT (ns.take k)) ns[k].length wr ho (by omega) (by omega))
      clear ho
      generalize ns[k] = x at *
      go_wp2_with fail
      refine (unhide HN1).mono ?_
      rintro e w2 ⟨rfl, ho2, hst2⟩
      have HO2 := hide ho2
      obtain ⟨ao, c, hcell2, hown2⟩ := ho2.cell
      have hfr2 := ho2.frozen
      have hes := Codec.enc_short x.length (by omega)
      have hll2 : (l ++ encT (ns.take k) ++ Codec.enc x.length).length ≤ 274877906944 + 67109449 := by rw [List.length_append]; omega
      have hne : (l ++ encT (ns.take k) ++ Codec.enc x.length).length ≠ 0 := by rw [List.length_append, Codec.enc_length]; omega
      have hb2 := ho2.lt
      have HOWN2 := hide hown2
      have HC2 := hide hcell2
      have hsrc := Src.ofString (P := Tryd.prog) w2 under_string (S x)
      rw [hsz] at hsrc
      have HSRC := hide hsrc
      have hl4 : l ++ encT (ns.take (k + 1)) = l ++ encT (ns.take k) ++ Codec.enc x.length ++ x := by
        rw [unhide HES]; simp [Codec.encS]
      have HL4 := hide hl4
      clear ho2 hown2 hsrc hl4 hes
      generalize l ++ encT (ns.take k) ++ Codec.enc x.length = l2 at *
      go_wp2_with (first | (at_builtin; refine wpList_append_src rfl _ _ 70 9 rfl (b + 1) 5 i0 (.int .u8 0) 1 1 under_bytes hi hz0 hz1 hz2 rfl (by decide) _ _ _ rfl (unhide HOWN2) (by intro e; injection e with e1 e2 e3; exact hne e2) _ _ _ rfl (unhide HSRC) ?c3 ?c4 ?c5 ?_) | fail)
      case c3 => unfold maxLen; omega
      case c4 => omega
      case c5 => omega
      intro v' w3 hown' hgrow hfresh _
      have hgr := (unhide HO2).grow0 (Below.refl _ _) (unhide HOWN2) hgrow
      have HPUT := hide ((unhide HO2).put0 (Below.refl _ _) (unhide HC2) (unhide HOWN2) hgrow (ys := x) hown' hfresh)
      obtain ⟨hf3, hc3, _⟩ := hgr
      rw [unhide HC2] at hc3
      obtain ⟨a3, c3, rfl, _⟩ := ownsRow_slice hown'
      clear hown' hgrow hfresh hcell2 hfr2
      obtain ⟨ho3, hst3⟩ := unhide HPUT
      rw [← unhide HL4] at ho3
      have HO3 := hide ho3
      have HB3 := hide ((hst.trans hst2).trans hst3)
      clear ho3 hst3 HPUT
      go_wp2
      go_roundw
      case rel => exact ⟨k + 1, by omega, by go_num, unhide HO3, unhide HB3⟩
      case measure => simp [intOf]; omega
    · have hkn : k = ns.length := by have := unhide HN; omega
      have e : ns.take k = ns := by rw [hkn]; exact List.take_length
      rw [e] at ho
      clear e
      go_wp2
      go_ret
      exact ⟨rfl, ho, hst⟩
end Go.Proofs.YtlanogkijgapdaaDoor
/- The walk of the law CodecPuts: for every number, whole numbers, number from 0 on and two texts the call returns true, and nothing that was there has turned. -/
namespace Go.Proofs.YtlanogkijgapdaaDoor
open Go.RowKit
set_option linter.unusedVariables false
set_option maxRecDepth 100000

/- A block that was made just ahead is foreign to an Out. -/
theorem OutAt.arg {w : World} {b : Nat} {l : List UInt8} (h : OutAt w b l) (o : Obj) : OutAt (w.alloc o) b l ∧ Step b w (w.alloc o) ∧ Foreign (w.alloc o) b w.heap.size := by
  obtain ⟨ho, hst⟩ := h.later (w' := w.alloc o) ((Below.refl _ _).alloc (Nat.le_refl _) _)
  refine ⟨ho, hst, by have := h.lt; omega, fun v hv e => ?_⟩
  obtain ⟨ao, c, hc, hown⟩ := h.cell
  rw [World.cell?_of_block (w := w) (a := ⟨b, 0, none⟩) (Below.heap_alloc _ _ _ h.lt), hc] at hv
  injection hv with hv
  subst hv
  have := (hown.lt _ e).2
  omega

theorem outI_two (b : Nat) (l : List UInt8) (x y : Int) (w : World) (h : OutAt w b l) (hl : l.length ≤ 1024) (hx : -9223372036854775808 ≤ x ∧ x ≤ 9223372036854775807) (hy : -9223372036854775808 ≤ y ∧ y ≤ 9223372036854775807) :
    Calls Tryd.prog 42 #[.pointer (some ⟨b, 0, none⟩), .slice (some ⟨w.heap.size, 0, none⟩) 2 2] (w.alloc (.cells #[.int .i64 x, .int .i64 y] 2)) fun e w' =>
      e = .returned (.pointer (some ⟨b, 0, none⟩)) ∧ OutAt w' b (l ++ (Codec.enc (Codec.fold x) ++ Codec.enc (Codec.fold y))) ∧ Step b w w' := by
  obtain ⟨ho, hst, hfor⟩ := h.arg (.cells #[.int .i64 x, .int .i64 y] 2)
  have hN := outI_any b l [x, y] (some ⟨w.heap.size, 0, none⟩) 2 2 _ ho rfl (by simp) (by omega)
    (by intro i hi; simp at hi; obtain rfl | rfl : i = 0 ∨ i = 1 := by omega
        · exact hx
        · exact hy)
    (by
      intro i hi
      simp at hi
      refine ⟨_, _, rfl, by simp, hfor, ?_⟩
      obtain rfl | rfl : i = 0 ∨ i = 1 := by omega
      all_goals simp)
  refine hN.mono ?_
  rintro e w' ⟨rfl, h1, h2⟩
  have e : encI [x, y] = Codec.enc (Codec.fold x) ++ Codec.enc (Codec.fold y) := by simp [encI]
  rw [e] at h1
  exact ⟨rfl, h1, hst.trans h2⟩

theorem outN_int (b : Nat) (l : List UInt8) (x : Int) (w : World) (h : OutAt w b l) (hl : l.length ≤ 1024) (hx : -9223372036854775808 ≤ x ∧ x ≤ 9223372036854775807) :
    Calls Tryd.prog 41 #[.pointer (some ⟨b, 0, none⟩), .slice (some ⟨w.heap.size, 0, none⟩) 1 1] (w.alloc (.cells #[.int .i64 x] 3)) fun e w' =>
      e = .returned (.pointer (some ⟨b, 0, none⟩)) ∧ OutAt w' b (l ++ Codec.enc (max x 0).toNat) ∧ Step b w w' := by
  obtain ⟨ho, hst, hfor⟩ := h.arg (.cells #[.int .i64 x] 3)
  have hN := outN_any b l [x] (some ⟨w.heap.size, 0, none⟩) 1 1 _ ho rfl (by simp) (by omega)
    (by intro i hi; simp at hi; subst hi; exact hx)
    (by
      intro i hi
      simp at hi
      subst hi
      refine ⟨_, _, rfl, by simp, hfor, ?_⟩
      simp)
  refine hN.mono ?_
  rintro e w' ⟨rfl, h1, h2⟩
  have e : encN [x] = Codec.enc (max x 0).toNat := by simp [encN]
  rw [e] at h1
  exact ⟨rfl, h1, hst.trans h2⟩

theorem outS_two (b : Nat) (l x y : List UInt8) (w : World) (h : OutAt w b l) (hl : l.length ≤ 1024) (hx : x.length ≤ 40) (hy : y.length ≤ 40) :
    Calls Tryd.prog 43 #[.pointer (some ⟨b, 0, none⟩), .slice (some ⟨w.heap.size, 0, none⟩) 2 2] (w.alloc (.cells #[.string (S x), .string (S y)] 9)) fun e w' =>
      e = .returned (.pointer (some ⟨b, 0, none⟩)) ∧ OutAt w' b (l ++ (Codec.encS x ++ Codec.encS y)) ∧ Step b w w' := by
  obtain ⟨ho, hst, hfor⟩ := h.arg (.cells #[.string (S x), .string (S y)] 9)
  have hN := outS_any b l [x, y] (some ⟨w.heap.size, 0, none⟩) 2 2 _ ho rfl (by simp) (by omega)
    (by intro i hi; simp at hi; obtain rfl | rfl : i = 0 ∨ i = 1 := by omega
        all_goals simp; omega)
    (by
      intro i hi
      simp at hi
      refine ⟨_, _, rfl, by simp, hfor, ?_⟩
      obtain rfl | rfl : i = 0 ∨ i = 1 := by omega
      all_goals simp)
  refine hN.mono ?_
  rintro e w' ⟨rfl, h1, h2⟩
  have e : encT [x, y] = Codec.encS x ++ Codec.encS y := by simp [encT]
  rw [e] at h1
  exact ⟨rfl, h1, hst.trans h2⟩

theorem enc7 : Codec.enc 7 = [1, 7] := by decide +kernel

theorem putsT (n : Nat) (k kk : Int) (c : Nat) (x y : List UInt8) :
    Codec.enc n ++ Codec.enc 7 ++ (Codec.enc (Codec.fold k) ++ Codec.enc (Codec.fold kk)) ++ Codec.enc c ++ (Codec.encS x ++ Codec.encS y) =
      Codec.enc n ++ Codec.enc 7 ++ Codec.enc (Codec.fold k) ++ Codec.enc (Codec.fold kk) ++ Codec.enc c ++ Codec.encS x ++ Codec.encS y := by
  simp only [List.append_assoc]

/- Takes in a row. -/
theorem u_takes (b n : Nat) (r : List UInt8) (w : World) (hn : n < 18446744073709551616) (h : InAt w b (Codec.enc n ++ r, 0)) :
    Calls Tryd.prog 56 #[.pointer (some ⟨b, 0, none⟩)] w fun e w' => e = .returned (.int .u64 (n : Int)) ∧ InAt w' b (r, 0) ∧ But b w.heap.size w w' := by
  have h1 := u_any b _ w h
  rw [Codec.takeU_enc n r hn] at h1
  exact h1
theorem i_takes (b : Nat) (k : Int) (r : List UInt8) (w : World) (hk : -9223372036854775808 ≤ k ∧ k ≤ 9223372036854775807) (h : InAt w b (Codec.enc (Codec.fold k) ++ r, 0)) :
    Calls Tryd.prog 38 #[.pointer (some ⟨b, 0, none⟩)] w fun e w' => e = .returned (.int .i64 k) ∧ InAt w' b (r, 0) ∧ But b w.heap.size w w' := by
  have h1 := i_any b _ w h
  rw [Codec.takeI_enc k r hk.1 hk.2] at h1
  exact h1
theorem s_takes (b : Nat) (s r : List UInt8) (w : World) (hs : s.length ≤ 40) (h : InAt w b (Codec.encS s ++ r, 0)) :
    Calls Tryd.prog 39 #[.pointer (some ⟨b, 0, none⟩), .int .i64 40] w fun e w' => e = .returned (.string (S s)) ∧ InAt w' b (r, 0) ∧ But b w.heap.size w w' := by
  have h1 := s_any b 40 _ w h (by omega) (by omega)
  rw [Codec.takeS_enc s r hs] at h1
  exact h1

end Go.Proofs.YtlanogkijgapdaaDoor
/- An Out's calls seen from their arguments, wherever these lie; what stays behind any of them. -/
namespace Go.Proofs.YtlanogkijgapdaaDoor
open Go.RowKit
set_option linter.unusedVariables false
set_option maxRecDepth 100000

/- Blocks of other types are foreign to an Out. -/
theorem Foreign.of_type {w : World} {b q : Nat} {l : List UInt8} {cs : Array Value} {t : TypeId} (h : OutAt w b l) (hq : w.heap[q]? = some (.cells cs t (0, 0))) (ht : t ≠ 5) (hcs : ∀ a n c, cs[0]? ≠ some (.slice a n c)) : Foreign w b q := by
  obtain ⟨ao, c, hc, ho⟩ := h.cell
  refine ⟨fun e => ?_, fun v hv e => ?_⟩
  · subst e
    rw [block_cell hq] at hc
    exact hcs _ _ _ hc
  rw [hc] at hv
  cases hv
  rcases ho.2 with ⟨e1, _⟩ | ⟨g, cap, cur, e1, _, hh, _⟩
  · rw [e1] at e; cases e
  · rw [e1] at e
    simp [Value.ownBlock] at e
    subst e
    rw [hh] at hq
    injection hq with hq
    injection hq with _ hq
    exact ht hq.symm
/- Such blocks stay. -/
def Keeps (b : Nat) (w w' : World) : Prop := ∀ (q : Nat) (cs : Array Value) (t : TypeId), t ≠ 5 → (∀ a n c, cs[0]? ≠ some (.slice a n c)) → w.heap[q]? = some (.cells cs t (0, 0)) → w'.heap[q]? = some (.cells cs t (0, 0))
theorem Keeps.of_step {w w' : World} {b : Nat} {l : List UInt8} (h : OutAt w b l) (hs : Step b w w') : Keeps b w w' := fun q cs t ht hcs hq => by
  rw [(hs.keep q (block_lt hq) (Foreign.of_type h hq ht hcs)).1]; exact hq
/- An Out's call, seen from its argument. -/
theorem vN_any {w : World} {b q : Nat} {l : List UInt8} {x : Int} (h : OutAt w b l) (hl : l.length ≤ 1024) (hx : -9223372036854775808 ≤ x ∧ x ≤ 9223372036854775807) (hq : w.heap[q]? = some (.cells #[.int .i64 x] 3 (0, 0))) :
    Calls Tryd.prog 41 #[.pointer (some ⟨b, 0, none⟩), .slice (some ⟨q, 0, none⟩) 1 1] w fun e w' =>
      e = .returned (.pointer (some ⟨b, 0, none⟩)) ∧ OutAt w' b (l ++ Codec.enc (max x 0).toNat) ∧ Step b w w' ∧ Keeps b w w' := by
  have hN := outN_any b l [x] (some ⟨q, 0, none⟩) 1 1 w h rfl (by simp) (by omega) (by intro i hi; simp at hi; subst hi; exact hx)
    (by
      intro i hi
      simp at hi
      subst hi
      refine ⟨q, 0, rfl, block_lt hq, Foreign.of_type h hq (by decide) (by simp), ?_⟩
      rw [block_cell hq]; rfl)
  refine hN.mono ?_
  rintro e w' ⟨rfl, h1, h2⟩
  have e : encN [x] = Codec.enc (max x 0).toNat := by simp [encN]
  rw [e] at h1
  exact ⟨rfl, h1, h2, Keeps.of_step h h2⟩
theorem vI_any {w : World} {b q : Nat} {l : List UInt8} {x : Int} (h : OutAt w b l) (hl : l.length ≤ 1024) (hx : -9223372036854775808 ≤ x ∧ x ≤ 9223372036854775807) (hq : w.heap[q]? = some (.cells #[.int .i64 x] 2 (0, 0))) :
    Calls Tryd.prog 42 #[.pointer (some ⟨b, 0, none⟩), .slice (some ⟨q, 0, none⟩) 1 1] w fun e w' =>
      e = .returned (.pointer (some ⟨b, 0, none⟩)) ∧ OutAt w' b (l ++ Codec.enc (Codec.fold x)) ∧ Step b w w' ∧ Keeps b w w' := by
  have hN := outI_any b l [x] (some ⟨q, 0, none⟩) 1 1 w h rfl (by simp) (by omega) (by intro i hi; simp at hi; subst hi; exact hx)
    (by
      intro i hi
      simp at hi
      subst hi
      refine ⟨q, 0, rfl, block_lt hq, Foreign.of_type h hq (by decide) (by simp), ?_⟩
      rw [block_cell hq]; rfl)
  refine hN.mono ?_
  rintro e w' ⟨rfl, h1, h2⟩
  have e : encI [x] = Codec.enc (Codec.fold x) := by simp [encI]
  rw [e] at h1
  exact ⟨rfl, h1, h2, Keeps.of_step h h2⟩

theorem vS2_any {w : World} {b q : Nat} {l x y : List UInt8} (h : OutAt w b l) (hl : l.length ≤ 1024) (hx : x.length ≤ 40) (hy : y.length ≤ 40) (hq : w.heap[q]? = some (.cells #[.string (S x), .string (S y)] 9 (0, 0))) :
    Calls Tryd.prog 43 #[.pointer (some ⟨b, 0, none⟩), .slice (some ⟨q, 0, none⟩) 2 2] w fun e w' =>
      e = .returned (.pointer (some ⟨b, 0, none⟩)) ∧ OutAt w' b (l ++ (Codec.encS x ++ Codec.encS y)) ∧ Step b w w' ∧ Keeps b w w' := by
  have hN := outS_any b l [x, y] (some ⟨q, 0, none⟩) 2 2 w h rfl (by simp) (by omega)
    (by intro i hi; simp at hi; obtain rfl | rfl : i = 0 ∨ i = 1 := by omega
        all_goals simp; omega)
    (by
      intro i hi
      simp at hi
      refine ⟨q, 0, rfl, block_lt hq, Foreign.of_type h hq (by decide) (by simp), ?_⟩
      rw [block_cell hq]
      obtain rfl | rfl : i = 0 ∨ i = 1 := by omega
      all_goals rfl)
  refine hN.mono ?_
  rintro e w' ⟨rfl, h1, h2⟩
  have e : encT [x, y] = Codec.encS x ++ Codec.encS y := by simp [encT]
  rw [e] at h1
  exact ⟨rfl, h1, h2, Keeps.of_step h h2⟩
theorem vS1_any {w : World} {b q : Nat} {l x : List UInt8} (h : OutAt w b l) (hl : l.length ≤ 1024) (hx : x.length ≤ 40) (hq : w.heap[q]? = some (.cells #[.string (S x)] 9 (0, 0))) :
    Calls Tryd.prog 43 #[.pointer (some ⟨b, 0, none⟩), .slice (some ⟨q, 0, none⟩) 1 1] w fun e w' =>
      e = .returned (.pointer (some ⟨b, 0, none⟩)) ∧ OutAt w' b (l ++ Codec.encS x) ∧ Step b w w' ∧ Keeps b w w' := by
  have hN := outS_any b l [x] (some ⟨q, 0, none⟩) 1 1 w h rfl (by simp) (by omega)
    (by intro i hi; simp at hi; subst hi; simp; omega)
    (by
      intro i hi
      simp at hi
      subst hi
      refine ⟨q, 0, rfl, block_lt hq, Foreign.of_type h hq (by decide) (by simp), ?_⟩
      rw [block_cell hq]; rfl)
  refine hN.mono ?_
  rintro e w' ⟨rfl, h1, h2⟩
  have e : encT [x] = Codec.encS x := by simp [encT]
  rw [e] at h1
  exact ⟨rfl, h1, h2, Keeps.of_step h h2⟩
/- Behind W, an Out's calls: it is one still; the rest stays. -/
def OR (W : World) (B : Nat) (w' : World) : Prop := (∃ l, OutAt w' B l) ∧ Step B W w'
section
variable {W w w' : World} {B : Nat}
theorem OR.below (h : OR W B w) (hb : Below w.heap.size w w') : OR W B w' := by
  obtain ⟨⟨l, ho⟩, hs⟩ := h
  obtain ⟨ho', hs'⟩ := ho.later hb
  exact ⟨⟨l, ho'⟩, hs.trans hs'⟩
theorem OR.alloc (h : OR W B w) (o : Obj) : OR W B (w.alloc o) := h.below (under_box o)
theorem OR.drew (h : OR W B w) : OR W B w.drew := h.below (Below.refl _ _).drew
theorem OR.undrew (h : OR W B w.drew) : OR W B w := h.below ⟨rfl, rfl, rfl, Nat.le_refl _, fun k hk => rfl⟩
theorem OR.step (h : OR W B w) {l : List UInt8} (ho : OutAt w' B l) (hs : Step B w w') : OR W B w' := ⟨⟨l, ho⟩, h.2.trans hs⟩
end
theorem valloc1 {w : World} {o : Obj} {k : Nat} (h : w.heap.size = k) : (w.alloc o).heap[k]? = some o := by subst h; exact heap_alloc_new w o
theorem valloc2 {w : World} {o : Obj} {k : Nat} {x : Obj} (hx : w.heap[k]? = some x) : (w.alloc o).heap[k]? = some x := (Below.heap_alloc w o k (block_lt hx)).trans hx
theorem nest1 {w : World} (o : Obj) : Below w.heap.size w (w.alloc o) := under_box o
theorem nest2 {w : World} (o o' : Obj) : Below w.heap.size w ((w.alloc o).alloc o') := under_two w o o'
theorem nest3 {w : World} (o o' o'' : Obj) : Below w.heap.size w (((w.alloc o).alloc o').alloc o'') := (under_two w o o').alloc (by simp; omega) _
end Go.Proofs.YtlanogkijgapdaaDoor
