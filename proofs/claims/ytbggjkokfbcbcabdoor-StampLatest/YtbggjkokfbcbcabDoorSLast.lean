/- The contract of stamp's Latest. -/
import Derived.Test.YtbggjkokfbcbcabDoorSDev
namespace Go.Proofs.YtbggjkokfbcbcabDoor
open Go.RowKit
set_option linter.unusedVariables false
set_option maxRecDepth 100000

def newer (x y : Codec.Sec) (i j : Int) : Codec.Sec × Int := if x.stamp < y.stamp then (y, j) else if 0 < x.stamp then (x, i) else (⟨0, 0, []⟩, -1)

/- The place of the result, and the two sectors' boxes. -/
structure LS (w wr : World) (B1 B2 : Nat) (x y : Codec.Sec) : Prop where
  res : wr.heap[w.heap.size]? = some (.cells #[.int .i64 0, .int .u8 0, .string ⟨#[]⟩] 23 (0, 0))
  one : wr.heap[B1]? = some (.cells #[.int .i64 (x.stamp : Int), .int .u8 (x.mark : Int), .string (S x.data)] 23 (0, 0))
  two : wr.heap[B2]? = some (.cells #[.int .i64 (y.stamp : Int), .int .u8 (y.mark : Int), .string (S y.data)] 23 (0, 0))
  bel : Below w.heap.size w wr

set_option maxHeartbeats 3200000 in
theorem slatest_ok {base : Nat} {w : World} {b : Nat} {D : Dev} (h : DevAt base w b D) (i j : Int) (hlen : D.W.length ≤ 1099511627776) (hx : (D.read i).length ≤ 1000) (hy : (D.read j).length ≤ 1000) (hi : D.readE i = 0) (hj : D.readE j = 0) :
    Calls Tryd.prog 17 #[.pointer (some ⟨b, 0, none⟩), .int .i64 i, .int .i64 j] w fun e w' => e = .returned (.tuple #[SV (newer (Codec.parse (D.read i)).1 (Codec.parse (D.read j)).1 i j).1, .int .i64 (newer (Codec.parse (D.read i)).1 (Codec.parse (D.read j)).1 i j).2, .int .i64 0]) ∧ Below w.heap.size w w' := by
  obtain ⟨W, hW⟩ : ∃ W, w.alloc (.cells #[.int .i64 0, .int .u8 0, .string ⟨#[]⟩] 23) = W := ⟨_, rfl⟩
  have hbW : Below w.heap.size w W := by rw [← hW]; exact (Below.refl _ _).alloc (Nat.le_refl _) _
  have hrW : W.heap[w.heap.size]? = some (.cells #[.int .i64 0, .int .u8 0, .string ⟨#[]⟩] 23 (0, 0)) := by rw [← hW]; exact heap_alloc_new w _
  have hAW := (h.later hbW).1
  have HR := hide (sread_ok hAW i hlen hx hi)
  have HR2 := hide (fun wy (hb : Below W.heap.size W wy) => sread_ok (hAW.later hb).1 j hlen hy hj)
  have HW := hide hW
  have HBW := hide hbW
  have HRW := hide hrW
  clear hW hbW hrW h hAW
  generalize Codec.parse (D.read i) = P at *
  generalize Codec.parse (D.read j) = Q at *
  obtain ⟨⟨n, mk, t⟩, pe⟩ := P
  obtain ⟨⟨n2, mk2, t2⟩, pe2⟩ := Q
  unfold SV at HR HR2
  dsimp only at *
  go_enter Tryd.func17, Tryd.ntmps17
  go_wp2_with fail
  rw [unhide HW]
  refine (unhide HR).mono ?_
  rintro e w1 ⟨rfl, hb1⟩
  obtain ⟨W1, hW1⟩ : ∃ W1, w1.alloc (.cells #[.int .i64 (n : Int), .int .u8 (mk : Int), .string (S t)] 23) = W1 := ⟨_, rfl⟩
  have hbW1 : Below W.heap.size W W1 := by rw [← hW1]; exact hb1.alloc hb1.size _
  have hone1 : W1.heap[w1.heap.size]? = some (.cells #[.int .i64 (n : Int), .int .u8 (mk : Int), .string (S t)] 23 (0, 0)) := by rw [← hW1]; exact heap_alloc_new w1 _
  have HBW1 := hide hbW1
  have HW1 := hide hW1
  have HONE := hide hone1
  clear hb1 hbW1 hW1 hone1 HR
  go_wp2_with (rw [unhide HW1])
  refine (unhide HR2 _ (unhide HBW1)).mono ?_
  rintro e w2 ⟨rfl, hb2⟩
  obtain ⟨W2, hW2⟩ : ∃ W2, w2.alloc (.cells #[.int .i64 (n2 : Int), .int .u8 (mk2 : Int), .string (S t2)] 23) = W2 := ⟨_, rfl⟩
  have hLS : LS w W2 w1.heap.size w2.heap.size ⟨n, mk, t⟩ ⟨n2, mk2, t2⟩ := by
    have hb12 : Below W1.heap.size W1 W2 := by rw [← hW2]; exact hb2.alloc hb2.size _
    have hbw := (unhide HBW).trans ((unhide HBW1).mono (unhide HBW).size)
    exact ⟨(hb12.block w.heap.size (by have := (unhide HBW1).size; have := blt (unhide HRW); omega)).trans (((unhide HBW1).block w.heap.size (blt (unhide HRW))).trans (unhide HRW)), (hb12.block _ (blt (unhide HONE))).trans (unhide HONE), by rw [← hW2]; exact heap_alloc_new w2 _, hbw.trans (hb12.mono hbw.size)⟩
  have r0 := bcell hLS.res 0
  have r1 := bcell hLS.res 1
  have r2 := bcell hLS.res 2
  have f0 := bfroz hLS.res 0
  have f1 := bfroz hLS.res 1
  have f2 := bfroz hLS.res 2
  have x0 := bcell hLS.one 0
  have x1 := bcell hLS.one 1
  have x2 := bcell hLS.one 2
  have y0 := bcell hLS.two 0
  have y1 := bcell hLS.two 1
  have y2 := bcell hLS.two 2
  simp only [List.getElem?_toArray, List.getElem?_cons_zero, List.getElem?_cons_succ] at r0 r1 r2 x0 x1 x2 y0 y1 y2
  have HLS := hide hLS
  have HW2 := hide hW2
  clear hb2 hW2 hLS HR2 HW HBW HRW HW1 HBW1 HONE
  have HN : Hid (newer ⟨n, mk, t⟩ ⟨n2, mk2, t2⟩ i j = if n < n2 then (⟨n2, mk2, t2⟩, j) else if 0 < n then (⟨n, mk, t⟩, i) else (⟨0, 0, []⟩, -1)) := rfl
  by_cases hlt : n < n2
  · rw [if_pos hlt] at HN
    have hg : (n2 : Int) > (n : Int) := by omega
    go_wp2_with (rw [unhide HW2])
    have h9 := set3 (unhide HLS).res (.int .i64 (n2 : Int)) (.int .u8 (mk2 : Int)) (.string (S t2))
    have c0 := bcell h9 0
    have c1 := bcell h9 1
    have c2 := bcell h9 2
    simp only [List.getElem?_toArray, List.getElem?_cons_zero, List.getElem?_cons_succ] at c0 c1 c2
    rw [unhide HN]
    exact bodyPost_ret (v := .tuple #[SV ⟨n2, mk2, t2⟩, .int .i64 j, .int .i64 0]) (by simp [results, Tryd.results17, go_sem, c0, c1, c2, SV]) rfl ⟨rfl, below3 (unhide HLS).bel _ _ _⟩
  · rw [if_neg hlt] at HN
    have hg : ¬ ((n2 : Int) > (n : Int)) := by omega
    by_cases h0 : 0 < n
    · rw [if_pos h0] at HN
      have hg0 : (n : Int) > 0 := by omega
      go_wp2_with (rw [unhide HW2])
      have h9 := set3 (unhide HLS).res (.int .i64 (n : Int)) (.int .u8 (mk : Int)) (.string (S t))
      have c0 := bcell h9 0
      have c1 := bcell h9 1
      have c2 := bcell h9 2
      simp only [List.getElem?_toArray, List.getElem?_cons_zero, List.getElem?_cons_succ] at c0 c1 c2
      rw [unhide HN]
      exact bodyPost_ret (v := .tuple #[SV ⟨n, mk, t⟩, .int .i64 i, .int .i64 0]) (by simp [results, Tryd.results17, go_sem, c0, c1, c2, SV]) rfl ⟨rfl, below3 (unhide HLS).bel _ _ _⟩
    · rw [if_neg h0] at HN
      have hg0 : ¬ ((n : Int) > 0) := by omega
      go_wp2_with (rw [unhide HW2])
      have h9 := set3 (unhide HLS).res (.int .i64 0) (.int .u8 0) (.string ⟨#[]⟩)
      have c0 := bcell h9 0
      have c1 := bcell h9 1
      have c2 := bcell h9 2
      simp only [List.getElem?_toArray, List.getElem?_cons_zero, List.getElem?_cons_succ] at c0 c1 c2
      rw [unhide HN]
      exact bodyPost_ret (v := .tuple #[SV ⟨0, 0, []⟩, .int .i64 (-1), .int .i64 0]) (by simp [results, Tryd.results17, go_sem, c0, c1, c2, SV, S]) rfl ⟨rfl, below3 (unhide HLS).bel _ _ _⟩

set_option maxHeartbeats 3200000 in
theorem slatest_no {base : Nat} {w : World} {b : Nat} {D : Dev} (h : DevAt base w b D) (i j : Int) (hlen : D.W.length ≤ 1099511627776) (hx : (D.read i).length ≤ 1000) (hi : D.readE i = 0) (hj : D.readE j ≠ 0) :
    Calls Tryd.prog 17 #[.pointer (some ⟨b, 0, none⟩), .int .i64 i, .int .i64 j] w fun e w' => e = .returned (.tuple #[SV ⟨0, 0, []⟩, .int .i64 (-1), .int .i64 (D.readE j)]) ∧ Below w.heap.size w w' := by
  obtain ⟨W, hW⟩ : ∃ W, w.alloc (.cells #[.int .i64 0, .int .u8 0, .string ⟨#[]⟩] 23) = W := ⟨_, rfl⟩
  have hbW : Below w.heap.size w W := by rw [← hW]; exact (Below.refl _ _).alloc (Nat.le_refl _) _
  have hrW : W.heap[w.heap.size]? = some (.cells #[.int .i64 0, .int .u8 0, .string ⟨#[]⟩] 23 (0, 0)) := by rw [← hW]; exact heap_alloc_new w _
  have hAW := (h.later hbW).1
  have HR := hide (sread_ok hAW i hlen hx hi)
  have HR2 := hide (fun wy (hb : Below W.heap.size W wy) => sread_no (hAW.later hb).1 j hlen hj)
  have HW := hide hW
  have HBW := hide hbW
  have HRW := hide hrW
  clear hW hbW hrW h hAW
  generalize Codec.parse (D.read i) = P at *
  generalize D.readE j = c at *
  obtain ⟨⟨n, mk, t⟩, pe⟩ := P
  unfold SV at HR HR2
  dsimp only at *
  go_enter Tryd.func17, Tryd.ntmps17
  go_wp2_with fail
  rw [unhide HW]
  refine (unhide HR).mono ?_
  rintro e w1 ⟨rfl, hb1⟩
  obtain ⟨W1, hW1⟩ : ∃ W1, w1.alloc (.cells #[.int .i64 (n : Int), .int .u8 (mk : Int), .string (S t)] 23) = W1 := ⟨_, rfl⟩
  have hbW1 : Below W.heap.size W W1 := by rw [← hW1]; exact hb1.alloc hb1.size _
  have HBW1 := hide hbW1
  have HW1 := hide hW1
  clear hb1 hbW1 hW1 HR
  go_wp2_with (rw [unhide HW1])
  refine (unhide HR2 _ (unhide HBW1)).mono ?_
  rintro e w2 ⟨rfl, hb2⟩
  have hS0 : S [] = (⟨#[]⟩ : ByteArray) := rfl
  have hb12 : Below W1.heap.size W1 (w2.alloc (.cells #[.int .i64 0, .int .u8 0, .string ⟨#[]⟩] 23)) := hb2.alloc hb2.size _
  have hbw := (unhide HBW).trans ((unhide HBW1).mono (unhide HBW).size)
  have HBEL := hide (hbw.trans (hb12.mono hbw.size))
  have hres : (w2.alloc (.cells #[.int .i64 0, .int .u8 0, .string ⟨#[]⟩] 23)).heap[w.heap.size]? = some (.cells #[.int .i64 0, .int .u8 0, .string ⟨#[]⟩] 23 (0, 0)) := (hb12.block w.heap.size (by have := (unhide HBW1).size; have := blt (unhide HRW); omega)).trans (((unhide HBW1).block w.heap.size (blt (unhide HRW))).trans (unhide HRW))
  have r0 := bcell hres 0
  have r1 := bcell hres 1
  have r2 := bcell hres 2
  have f0 := bfroz hres 0
  have f1 := bfroz hres 1
  have f2 := bfroz hres 2
  simp only [List.getElem?_toArray, List.getElem?_cons_zero, List.getElem?_cons_succ] at r0 r1 r2
  have HRES := hide hres
  rw [hS0]
  clear hb2 hres HR2 HW HBW HRW HW1 HBW1 hb12 hbw hS0
  go_wp2_with fail
  have h9 := set3 (unhide HRES) (.int .i64 0) (.int .u8 0) (.string (⟨#[]⟩ : ByteArray))
  have c0 := bcell h9 0
  have c1 := bcell h9 1
  have c2 := bcell h9 2
  simp only [List.getElem?_toArray, List.getElem?_cons_zero, List.getElem?_cons_succ] at c0 c1 c2
  exact bodyPost_ret (v := .tuple #[SV ⟨0, 0, []⟩, .int .i64 (-1), .int .i64 c]) (by simp [results, Tryd.results17, go_sem, c0, c1, c2, SV, S]) rfl ⟨rfl, below3 (unhide HBEL) _ _ _⟩
end Go.Proofs.YtbggjkokfbcbcabDoor
