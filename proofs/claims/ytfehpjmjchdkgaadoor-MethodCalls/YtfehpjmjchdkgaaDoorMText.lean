/- A call's bytes, an answer's: the document's. -/
import Derived.Test.YtfehpjmjchdkgaaDoorMChange
import Derived.Test.YtfehpjmjchdkgaaDoorMBm
import Derived.Test.YtfehpjmjchdkgaaDoorCPuts
import Derived.Test.YtfehpjmjchdkgaaDoorCOne
import Derived.Sort.AtCall
namespace Go.Proofs.YtfehpjmjchdkgaaDoor
open Go.RowKit
set_option linter.unusedVariables false
set_option maxRecDepth 100000

set_option maxHeartbeats 6400000 in
theorem rtext12_any {w : World} (c : MC) (hop : I64 c.op) (hn : I64 c.n) (ha : c.a.length ≤ 40) (hb : c.b.length ≤ 40) :
    Calls Tryd.prog 17 #[mcV c] w fun e w' => e = .returned (.string (S c.text)) ∧ Below w.heap.size w w' := by
  obtain ⟨op, x, y, n⟩ := c
  unfold mcV
  dsimp only at *
  obtain ⟨W, hW⟩ : ∃ W, w.alloc (.cells #[.int .i64 op, .string (S x), .string (S y), .int .i64 n] 28) = W := ⟨_, rfl⟩
  have hlow : Below w.heap.size w W := by rw [← hW]; exact under_box _
  have hq0 : W.heap[w.heap.size]? = some (.cells #[.int .i64 op, .string (S x), .string (S y), .int .i64 n] 28 (0, 0)) := by rw [← hW]; exact heap_alloc_new w _
  have c0 : ∀ w1, Bm W w1 → w1.cell? ⟨w.heap.size, 0, none⟩ = some (.int .i64 op) := fun w1 h1 => (h1.cells4 hq0).1
  have c1 : ∀ w1, Bm W w1 → w1.cell? ⟨w.heap.size, 1, none⟩ = some (.string (S x)) := fun w1 h1 => (h1.cells4 hq0).2.1
  have c2 : ∀ w1, Bm W w1 → w1.cell? ⟨w.heap.size, 2, none⟩ = some (.string (S y)) := fun w1 h1 => (h1.cells4 hq0).2.2.1
  have c3 : ∀ w1, Bm W w1 → w1.cell? ⟨w.heap.size, 3, none⟩ = some (.int .i64 n) := fun w1 h1 => (h1.cells4 hq0).2.2.2
  have hst : Bm W W.drew := (Below.refl _ _).drew
  have HLOW : Hid (∀ w1, Bm W w1 → Below w.heap.size w w1) := fun w1 h => hlow.trans (h.low.mono hlow.size)
  have HN1 := hide (fun (w1 : World) => refN_any op w1 hop.1 hop.2)
  have HI1 := hide (fun (w1 : World) => refI_any n w1 hn.1 hn.2)
  have HS1 := hide (fun (w1 : World) => refS_any x w1 (by omega))
  have HS2 := hide (fun (w1 : World) => refS_any y w1 (by omega))
  obtain ⟨T, hT⟩ : ∃ T, MC.text ⟨op, x, y, n⟩ = T := ⟨_, rfl⟩
  have HT : Hid (T = Codec.enc (max op 0).toNat ++ Codec.encS x ++ Codec.encS y ++ Codec.enc (Codec.fold n)) := by rw [← hT]; rfl
  rw [hT]
  have hA9 := Codec.enc_short (max op 0).toNat (by have := hop.2; omega)
  have hN9 := Codec.enc_short (Codec.fold n) (Codec.fold_lt n hn.1 hn.2)
  have hX : (Codec.encS x).length ≤ 49 := by
    have := Codec.enc_short x.length (by omega)
    simp only [Codec.encS, List.length_append]; omega
  have hY : (Codec.encS y).length ≤ 49 := by
    have := Codec.enc_short y.length (by omega)
    simp only [Codec.encS, List.length_append]; omega
  generalize Codec.enc (max op 0).toNat = A at *
  generalize Codec.enc (Codec.fold n) = N at *
  generalize Codec.encS x = X at *
  generalize Codec.encS y = Y at *
  have z1 : (S A).size = A.length := S_size A
  have z2 : (S X).size = X.length := S_size X
  have z3 : (S Y).size = Y.length := S_size Y
  have z4 : (S N).size = N.length := S_size N
  obtain ⟨AX, hAX⟩ : ∃ t, A ++ X = t := ⟨_, rfl⟩
  obtain ⟨AXY, hAXY⟩ : ∃ t, AX ++ Y = t := ⟨_, rfl⟩
  have l5 : AX.length ≤ 58 := by rw [← hAX]; simp; omega
  have l6 : AXY.length ≤ 107 := by rw [← hAXY]; simp; omega
  have ap1 : S A ++ S X = S AX := by rw [← hAX]; exact S_append A X
  have ap2 : S AX ++ S Y = S AXY := by rw [← hAXY]; exact S_append AX Y
  have hfin : AXY ++ N = T := by rw [← hAXY, ← hAX, unhide HT]
  have ap3 : S AXY ++ S N = S T := by rw [← hfin]; exact S_append AXY N
  have z5 : (S AX).size = AX.length := S_size AX
  have z6 : (S AXY).size = AXY.length := S_size AXY
  have n1 : ¬ 9223372036854775807 < A.length + X.length := by omega
  have n2 : ¬ 9223372036854775807 < AX.length + Y.length := by omega
  have n3 : ¬ 9223372036854775807 < AXY.length + N.length := by omega
  have HWW := hide hW
  clear hAX hAXY hfin hT HT hW hq0 hlow
  go_enter Tryd.func17, Tryd.ntmps17
  go_wp2_with fail
  rw [unhide HWW]
  clear HWW
  go_region_held3 (fun w' => Bm W w') (with_reducible (first | exact hst | (refine Bm.below ?_ (by assumption) <;> assumption)))
    (first
      | (go_at_call 42; refine (unhide HN1 _).mono ?_; rintro e wa ⟨rfl, hba⟩)
      | (go_at_call 44; refine (unhide HI1 _).mono ?_; rintro e wb ⟨rfl, hbb⟩)
      | (go_at_call_has 43 (Value.string (S x)); refine (unhide HS1 _).mono ?_; rintro e wc ⟨rfl, hbc⟩)
      | (go_at_call 43; refine (unhide HS2 _).mono ?_; rintro e wd ⟨rfl, hbd⟩)
      | fail)
  all_goals
    have HFIN := hide (unhide HLOW _ (by assumption))
    go_wp2_with fail
    go_ret
    exact ⟨rfl, unhide HFIN⟩

set_option maxHeartbeats 6400000 in
theorem rbytes12_any {w : World} (c : MR) (hop : I64 c.code) (hn : I64 c.n) (ha : c.text.length ≤ 40) :
    Calls Tryd.prog 23 #[mrV c] w fun e w' => e = .returned (.string (S c.bytes)) ∧ Below w.heap.size w w' := by
  obtain ⟨op, x, n⟩ := c
  unfold mrV
  dsimp only at *
  obtain ⟨W, hW⟩ : ∃ W, w.alloc (.cells #[.int .i64 op, .string (S x), .int .i64 n] 48) = W := ⟨_, rfl⟩
  have hlow : Below w.heap.size w W := by rw [← hW]; exact under_box _
  have hq0 : W.heap[w.heap.size]? = some (.cells #[.int .i64 op, .string (S x), .int .i64 n] 48 (0, 0)) := by rw [← hW]; exact heap_alloc_new w _
  have c0 : ∀ w1, Bm W w1 → w1.cell? ⟨w.heap.size, 0, none⟩ = some (.int .i64 op) := fun w1 h1 => (h1.cells3 hq0).1
  have c1 : ∀ w1, Bm W w1 → w1.cell? ⟨w.heap.size, 1, none⟩ = some (.string (S x)) := fun w1 h1 => (h1.cells3 hq0).2.1
  have c2 : ∀ w1, Bm W w1 → w1.cell? ⟨w.heap.size, 2, none⟩ = some (.int .i64 n) := fun w1 h1 => (h1.cells3 hq0).2.2
  have hst : Bm W W.drew := (Below.refl _ _).drew
  have HLOW : Hid (∀ w1, Bm W w1 → Below w.heap.size w w1) := fun w1 h => hlow.trans (h.low.mono hlow.size)
  have HN1 := hide (fun (w1 : World) => refN_any op w1 hop.1 hop.2)
  have HI1 := hide (fun (w1 : World) => refI_any n w1 hn.1 hn.2)
  have HS1 := hide (fun (w1 : World) => refS_any x w1 (by omega))
  obtain ⟨T, hT⟩ : ∃ T, MR.bytes ⟨op, x, n⟩ = T := ⟨_, rfl⟩
  have HT : Hid (T = Codec.enc (max op 0).toNat ++ Codec.encS x ++ Codec.enc (Codec.fold n)) := by rw [← hT]; rfl
  rw [hT]
  have hA9 := Codec.enc_short (max op 0).toNat (by have := hop.2; omega)
  have hN9 := Codec.enc_short (Codec.fold n) (Codec.fold_lt n hn.1 hn.2)
  have hX : (Codec.encS x).length ≤ 49 := by
    have := Codec.enc_short x.length (by omega)
    simp only [Codec.encS, List.length_append]; omega
  generalize Codec.enc (max op 0).toNat = A at *
  generalize Codec.enc (Codec.fold n) = N at *
  generalize Codec.encS x = X at *
  have z1 : (S A).size = A.length := S_size A
  have z2 : (S X).size = X.length := S_size X
  have z4 : (S N).size = N.length := S_size N
  obtain ⟨AX, hAX⟩ : ∃ t, A ++ X = t := ⟨_, rfl⟩
  have l5 : AX.length ≤ 58 := by rw [← hAX]; simp; omega
  have ap1 : S A ++ S X = S AX := by rw [← hAX]; exact S_append A X
  have hfin : AX ++ N = T := by rw [← hAX, unhide HT]
  have ap3 : S AX ++ S N = S T := by rw [← hfin]; exact S_append AX N
  have z5 : (S AX).size = AX.length := S_size AX
  have n1 : ¬ 9223372036854775807 < A.length + X.length := by omega
  have n2 : ¬ 9223372036854775807 < AX.length + N.length := by omega
  have HWW := hide hW
  clear hAX hfin hT HT hW hq0 hlow
  go_enter Tryd.func23, Tryd.ntmps23
  go_wp2_with fail
  rw [unhide HWW]
  clear HWW
  go_region_held3 (fun w' => Bm W w') (with_reducible (first | exact hst | (refine Bm.below ?_ (by assumption) <;> assumption)))
    (first
      | (go_at_call 42; refine (unhide HN1 _).mono ?_; rintro e wa ⟨rfl, hba⟩)
      | (go_at_call 44; refine (unhide HI1 _).mono ?_; rintro e wb ⟨rfl, hbb⟩)
      | (go_at_call 43; refine (unhide HS1 _).mono ?_; rintro e wc ⟨rfl, hbc⟩)
      | fail)
  all_goals
    have HFIN := hide (unhide HLOW _ (by assumption))
    go_wp2_with fail
    go_ret
    exact ⟨rfl, unhide HFIN⟩
end Go.Proofs.YtfehpjmjchdkgaaDoor
