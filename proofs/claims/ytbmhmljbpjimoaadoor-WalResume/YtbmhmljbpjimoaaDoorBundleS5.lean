/- The contracts of stamp's calls on a device. -/
import Derived.Test.YtbmhmljbpjimoaaDoorBundleS3
import Derived.Test.YtbmhmljbpjimoaaDoorBundleD4
namespace Go.Proofs.YtbmhmljbpjimoaaDoor
open Go.RowKit
set_option linter.unusedVariables false
set_option maxRecDepth 100000

theorem chk_ok (st : Nat) (t : List UInt8) (h1 : 1 ≤ st) (h2 : st ≤ 1099511627776) (h44 : t.length ≤ 44) : chk (st : Int) t = 0 := by
  unfold chk
  rw [if_neg (by omega), if_neg (by omega)]

set_option maxHeartbeats 1600000 in
theorem swrite_no {base : Nat} {w : World} {b : Nat} {D : Dev} (h : DevAt base w b D) (i st : Int) (mk : Int) (t : List UInt8) (hc : chk st t ≠ 0) :
    Calls Tryd.prog 20 #[.pointer (some ⟨b, 0, none⟩), .int .i64 i, .agg #[.int .i64 st, .int .u8 mk, .string (S t)]] w fun e w' => e = .returned (.int .i64 (chk st t)) ∧ DevAt base w' b D ∧ DStep b w w' := by
  have HC := hide (fun wy => check_any st mk t wy)
  generalize chk st t = c at *
  go_enter Tryd.func20, Tryd.ntmps20
  go_wp2_with fail
  refine (unhide HC _).mono ?_
  rintro e w1 ⟨rfl, hb1⟩
  have HB := hide (((Below.refl _ w).alloc (Nat.le_refl _) (.cells #[.int .i64 st, .int .u8 mk, .string (S t)] 48)).trans (hb1.mono (by simp)))
  clear hb1
  go_wp2_with fail
  go_ret
  exact ⟨rfl, h.later (unhide HB)⟩

set_option maxHeartbeats 1600000 in
theorem swrite_ok {base : Nat} {w : World} {b : Nat} {D : Dev} (h : DevAt base w b D) (i : Int) (s : Codec.Sec) (hs : s.Ok) (h44 : s.data.length ≤ 44) (h1 : 1 ≤ s.stamp) (hl : D.left < 9223372036854775808) (hc : D.calls < 4611686018427387904) (hn : D.W.length ≤ 1099511627776) (hB : base ≤ w.heap.size) :
    Calls Tryd.prog 20 #[.pointer (some ⟨b, 0, none⟩), .int .i64 i, SV s] w fun e w' => e = .returned (.int .i64 (D.writeE i (Codec.secText s))) ∧ DevAt base w' b (D.write i (Codec.secText s)) ∧ DStep b w w' := by
  obtain ⟨st, mk, t⟩ := s
  have hok0 := chk_ok st t h1 hs.st h44
  have HC := hide (fun wy => check_any (st : Int) (mk : Int) t wy)
  rw [hok0] at HC
  have HT := hide (fun wy => stext_any ⟨st, mk, t⟩ wy hs h44)
  have HW := hide (fun wy (hb : DevAt base wy b D) (hBy : base ≤ wy.heap.size) => write_any hb i (Codec.secText ⟨st, mk, t⟩) hl hc hn hBy)
  generalize Codec.secText ⟨st, mk, t⟩ = T at *
  unfold SV at HT ⊢
  dsimp only at *
  clear hok0 hs h44 h1 hl hc hn
  go_enter Tryd.func20, Tryd.ntmps20
  go_wp2_with fail
  refine (unhide HC _).mono ?_
  rintro e w1 ⟨rfl, hb1⟩
  have hbox : w1.heap[w.heap.size]? = some (.cells #[.int .i64 (st : Int), .int .u8 (mk : Int), .string (S t)] 48 (0, 0)) := (hb1.block w.heap.size (by simp)).trans (heap_alloc_new w _)
  have HB := hide (((Below.refl _ w).alloc (Nat.le_refl _) (.cells #[.int .i64 (st : Int), .int .u8 (mk : Int), .string (S t)] 48)).trans (hb1.mono (by simp)))
  have x0 := bcell hbox 0
  have x1 := bcell hbox 1
  have x2 := bcell hbox 2
  simp only [List.getElem?_toArray, List.getElem?_cons_zero, List.getElem?_cons_succ] at x0 x1 x2
  clear hb1 HC hbox
  go_wp2_with fail
  refine (unhide HT _).mono ?_
  rintro e w2 ⟨rfl, hb2⟩
  have HB2 := hide ((unhide HB).trans (hb2.mono (unhide HB).size))
  clear hb2 x0 x1 x2
  go_wp2_with fail
  refine (unhide HW _ (h.later (unhide HB2)).1 (by have := (unhide HB2).size; omega)).mono ?_
  rintro e w3 ⟨rfl, hd3, hs3⟩
  have HE := hide (show DevAt base w3 b (D.write i T) ∧ DStep b w w3 from ⟨hd3, (h.later (unhide HB2)).2.trans hs3⟩)
  clear hd3 hs3
  go_wp2_with fail
  go_ret
  exact ⟨rfl, unhide HE⟩

set_option maxHeartbeats 1600000 in
theorem sread_no {base : Nat} {w : World} {b : Nat} {D : Dev} (h : DevAt base w b D) (i : Int) (hlen : D.W.length ≤ 1099511627776) (hc : D.readE i ≠ 0) :
    Calls Tryd.prog 15 #[.pointer (some ⟨b, 0, none⟩), .int .i64 i] w fun e w' => e = .returned (.tuple #[SV ⟨0, 0, []⟩, .bool false, .int .i64 (D.readE i)]) ∧ Below w.heap.size w w' := by
  obtain ⟨W, hW⟩ : ∃ W, w.alloc (.cells #[.int .i64 0, .int .u8 0, .string ⟨#[]⟩] 48) = W := ⟨_, rfl⟩
  have hbW : Below w.heap.size w W := by rw [← hW]; exact (Below.refl _ _).alloc (Nat.le_refl _) _
  have hrW : W.heap[w.heap.size]? = some (.cells #[.int .i64 0, .int .u8 0, .string ⟨#[]⟩] 48 (0, 0)) := by rw [← hW]; exact heap_alloc_new w _
  have HR := hide (dread_any (h.later hbW).1 i hlen)
  have HW := hide hW
  have HBW := hide hbW
  have HRW := hide hrW
  clear hW hbW hrW h
  generalize D.readE i = c at *
  generalize D.read i = x at *
  go_enter Tryd.func15, Tryd.ntmps15
  go_wp2_with fail
  rw [unhide HW]
  refine (unhide HR).mono ?_
  rintro e w1 ⟨rfl, hb1⟩
  have hres := (hb1.block w.heap.size (blt (unhide HRW))).trans (unhide HRW)
  have HB := hide ((unhide HBW).trans (hb1.mono (unhide HBW).size))
  have r0 := bcell hres 0
  have r1 := bcell hres 1
  have r2 := bcell hres 2
  have f0 := bfroz hres 0
  have f1 := bfroz hres 1
  have f2 := bfroz hres 2
  simp only [List.getElem?_toArray, List.getElem?_cons_zero, List.getElem?_cons_succ] at r0 r1 r2
  have HRES := hide hres
  clear hb1 hres HR HW HBW HRW
  go_wp2_with fail
  have h9 := set3 (unhide HRES) (.int .i64 0) (.int .u8 0) (.string ⟨#[]⟩)
  have c0 := bcell h9 0
  have c1 := bcell h9 1
  have c2 := bcell h9 2
  simp only [List.getElem?_toArray, List.getElem?_cons_zero, List.getElem?_cons_succ] at c0 c1 c2
  exact bodyPost_ret (v := .tuple #[SV ⟨0, 0, []⟩, .bool false, .int .i64 c]) (by simp [results, Tryd.results15, go_sem, c0, c1, c2, SV, S]) rfl ⟨rfl, below3 (unhide HB) _ _ _⟩

set_option maxHeartbeats 1600000 in
theorem sread_ok {base : Nat} {w : World} {b : Nat} {D : Dev} (h : DevAt base w b D) (i : Int) (hlen : D.W.length ≤ 1099511627776) (hx : (D.read i).length ≤ 1000) (hc : D.readE i = 0) :
    Calls Tryd.prog 15 #[.pointer (some ⟨b, 0, none⟩), .int .i64 i] w fun e w' => e = .returned (.tuple #[SV (Codec.parse (D.read i)).1, .bool ((Codec.parse (D.read i)).2 == 0), .int .i64 0]) ∧ Below w.heap.size w w' := by
  obtain ⟨W, hW⟩ : ∃ W, w.alloc (.cells #[.int .i64 0, .int .u8 0, .string ⟨#[]⟩] 48) = W := ⟨_, rfl⟩
  have hbW : Below w.heap.size w W := by rw [← hW]; exact (Below.refl _ _).alloc (Nat.le_refl _) _
  have hrW : W.heap[w.heap.size]? = some (.cells #[.int .i64 0, .int .u8 0, .string ⟨#[]⟩] 48 (0, 0)) := by rw [← hW]; exact heap_alloc_new w _
  have HR := hide (dread_any (h.later hbW).1 i hlen)
  rw [hc] at HR
  have HP := hide (fun wy => sparse_any (D.read i) wy hx)
  have HW := hide hW
  have HBW := hide hbW
  have HRW := hide hrW
  clear hW hbW hrW h hc hlen
  generalize Codec.parse (D.read i) = P at *
  generalize D.read i = x at *
  obtain ⟨⟨n, mk, t⟩, pe⟩ := P
  unfold SV at HP ⊢
  dsimp only at *
  go_enter Tryd.func15, Tryd.ntmps15
  go_wp2_with fail
  rw [unhide HW]
  refine (unhide HR).mono ?_
  rintro e w1 ⟨rfl, hb1⟩
  have HRES := hide ((hb1.block w.heap.size (blt (unhide HRW))).trans (unhide HRW))
  have HB := hide ((unhide HBW).trans (hb1.mono (unhide HBW).size))
  clear hb1 HR HW HBW HRW
  go_wp2_with fail
  refine (unhide HP _).mono ?_
  rintro e w2 ⟨rfl, hb2⟩
  have hlt2 : w.heap.size < w2.heap.size := Nat.lt_of_lt_of_le (blt (unhide HRES)) hb2.size
  have hres2 := (hb2.block w.heap.size (blt (unhide HRES))).trans (unhide HRES)
  have HB2 := hide ((unhide HB).trans (hb2.mono (unhide HB).size))
  obtain ⟨W3, hW3⟩ : ∃ W3, w2.alloc (.cells #[.int .i64 (n : Int), .int .u8 (mk : Int), .string (S t)] 48) = W3 := ⟨_, rfl⟩
  have hres3 : W3.heap[w.heap.size]? = some (.cells #[.int .i64 0, .int .u8 0, .string ⟨#[]⟩] 48 (0, 0)) := by rw [← hW3]; exact (Below.heap_alloc w2 _ _ hlt2).trans hres2
  have hbox3 : W3.heap[w2.heap.size]? = some (.cells #[.int .i64 (n : Int), .int .u8 (mk : Int), .string (S t)] 48 (0, 0)) := by rw [← hW3]; exact heap_alloc_new w2 _
  have HB3 : Hid (Below w.heap.size w W3) := by rw [← hW3]; exact (unhide HB2).alloc (unhide HB2).size _
  have r0 := bcell hres3 0
  have r1 := bcell hres3 1
  have r2 := bcell hres3 2
  have f0 := bfroz hres3 0
  have f1 := bfroz hres3 1
  have f2 := bfroz hres3 2
  have x0 := bcell hbox3 0
  have x1 := bcell hbox3 1
  have x2 := bcell hbox3 2
  simp only [List.getElem?_toArray, List.getElem?_cons_zero, List.getElem?_cons_succ] at r0 r1 r2 x0 x1 x2
  have HRES3 := hide hres3
  have HW3 := hide hW3
  clear hb2 hres2 hres3 hbox3 hW3 HP HRES HB HB2
  go_wp2_with (rw [unhide HW3])
  have h9 := set3 (unhide HRES3) (.int .i64 (n : Int)) (.int .u8 (mk : Int)) (.string (S t))
  have c0 := bcell h9 0
  have c1 := bcell h9 1
  have c2 := bcell h9 2
  simp only [List.getElem?_toArray, List.getElem?_cons_zero, List.getElem?_cons_succ] at c0 c1 c2
  exact bodyPost_ret (v := .tuple #[.agg #[.int .i64 (n : Int), .int .u8 (mk : Int), .string (S t)], .bool (pe == 0), .int .i64 0]) (by simp [results, Tryd.results15, go_sem, c0, c1, c2]) rfl ⟨rfl, below3 (unhide HB3) _ _ _⟩
end Go.Proofs.YtbmhmljbpjimoaaDoor
