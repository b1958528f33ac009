/- A call's bytes, an answer's, behind those of an Out. -/
import Derived.Test.YtfehpjmjchdkgaaDoorMChange
import Derived.Test.YtfehpjmjchdkgaaDoorCOutAny
namespace Go.Proofs.YtfehpjmjchdkgaaDoor
open Go.RowKit
set_option linter.unusedVariables false
set_option maxRecDepth 100000

set_option maxHeartbeats 6400000 in
theorem mput_any {w : World} {b : Nat} {l : List UInt8} (c : MC) (h : OutAt w b l) (hl : l.length ≤ 512) (hop : I64 c.op) (hn : I64 c.n) (ha : c.a.length ≤ 40) (hb : c.b.length ≤ 40) :
    Calls Tryd.prog 13 #[mcV c, .pointer (some ⟨b, 0, none⟩)] w fun e w' => e = .returned (.tuple #[]) ∧ OutAt w' b (l ++ c.text) ∧ Step b w w' := by
  obtain ⟨op, x, y, n⟩ := c
  unfold mcV
  dsimp only at *
  obtain ⟨W, hW⟩ : ∃ W, w.alloc (.cells #[.int .i64 op, .string (S x), .string (S y), .int .i64 n] 24) = W := ⟨_, rfl⟩
  have hlow : Below w.heap.size w W := by rw [← hW]; exact under_box _
  have hbl := h.lt
  obtain ⟨hO, hS⟩ := h.later hlow
  have hq0 : W.heap[w.heap.size]? = some (.cells #[.int .i64 op, .string (S x), .string (S y), .int .i64 n] 24 (0, 0)) := by rw [← hW]; exact heap_alloc_new w _
  have hkeep : ∀ w1, OR W b w1 → w1.heap[w.heap.size]? = some (.cells #[.int .i64 op, .string (S x), .string (S y), .int .i64 n] 24 (0, 0)) := fun w1 h1 => by
    rw [(h1.2.keep w.heap.size (block_lt hq0) (Foreign.of_type hO hq0 (by decide) (by simp))).1]; exact hq0
  have c0 : ∀ w1, OR W b w1 → w1.cell? ⟨w.heap.size, 0, none⟩ = some (.int .i64 op) := fun w1 h1 => by rw [block_cell (hkeep w1 h1)]; rfl
  have c1 : ∀ w1, OR W b w1 → w1.cell? ⟨w.heap.size, 1, none⟩ = some (.string (S x)) := fun w1 h1 => by rw [block_cell (hkeep w1 h1)]; rfl
  have c2 : ∀ w1, OR W b w1 → w1.cell? ⟨w.heap.size, 2, none⟩ = some (.string (S y)) := fun w1 h1 => by rw [block_cell (hkeep w1 h1)]; rfl
  have c3 : ∀ w1, OR W b w1 → w1.cell? ⟨w.heap.size, 3, none⟩ = some (.int .i64 n) := fun w1 h1 => by rw [block_cell (hkeep w1 h1)]; rfl
  have hst : OR W b W.drew := OR.drew ⟨⟨l, hO⟩, Step.refl _ _⟩
  have HO := hide hO
  have HS := hide hS
  have HW := hide hW
  obtain ⟨A, hA⟩ : ∃ A, Codec.enc (max op 0).toNat = A := ⟨_, rfl⟩
  obtain ⟨X, hX⟩ : ∃ X, Codec.encS x ++ Codec.encS y = X := ⟨_, rfl⟩
  obtain ⟨N, hN⟩ : ∃ N, Codec.enc (Codec.fold n) = N := ⟨_, rfl⟩
  have hA9 : A.length ≤ 9 := by rw [← hA]; exact Codec.enc_short _ (by have := hop.2; omega)
  have hX98 : X.length ≤ 98 := by
    have h4 := Codec.enc_short x.length (by omega)
    have h5 := Codec.enc_short y.length (by omega)
    rw [← hX]
    simp only [Codec.encS, List.length_append]
    omega
  have HC1 := hide (fun (w1 : World) (h1 : OutAt w1 b l) (q : Nat) hq => vN_any (q := q) (x := op) h1 (by omega) hop hq)
  have HC2 := hide (fun (w1 : World) (h1 : OutAt w1 b (l ++ A)) (q : Nat) hq => vS2_any (q := q) (x := x) (y := y) h1 (by rw [List.length_append]; omega) ha hb hq)
  have HC3 := hide (fun (w1 : World) (h1 : OutAt w1 b (l ++ A ++ X)) (q : Nat) hq => vI_any (q := q) (x := n) h1 (by simp only [List.length_append]; omega) hn hq)
  rw [hN] at HC3
  rw [hX] at HC2
  rw [hA] at HC1
  have HT : Hid (l ++ MC.text ⟨op, x, y, n⟩ = l ++ A ++ X ++ N) := by
    show _ = _
    unfold MC.text
    dsimp only
    rw [hA, hN, ← hX]
    simp only [List.append_assoc]
  clear hA hN hX hW hO hq0 hkeep hlow h hS hl ha hb hop hn
  go_enter Tryd.func13, Tryd.ntmps13
  go_wp2_with fail
  rw [unhide HW]
  clear HW
  go_region_held3 (fun w' => OR W b w') (with_reducible (first | exact hst | (refine OR.step ?_ (by assumption) (by assumption); assumption) | (refine OR.alloc ?_ _; assumption) | (refine OR.drew (OR.alloc (OR.undrew ?_) _); assumption)))
      (first
        | (go_at_call 37; refine (unhide HC3 _ (by first | exact hO2 | exact (hO2.later (nest1 _)).1) _ (by first | exact valloc1 (by simp) | exact hk2 _ _ _ (by decide) (by simp) (valloc1 (by simp)) | exact hk2 _ _ _ (by decide) (by simp) (valloc2 (valloc1 (by simp))) | exact hk2 _ _ _ (by decide) (by simp) (hk1 _ _ _ (by decide) (by simp) (valloc1 (by simp))) | exact hk2 _ _ _ (by decide) (by simp) (hk1 _ _ _ (by decide) (by simp) (valloc2 (valloc1 (by simp))))  | exact hk2 _ _ _ (by decide) (by simp) (hk1 _ _ _ (by decide) (by simp) (valloc2 (valloc2 (valloc1 (by simp))))) | exact hk2 _ _ _ (by decide) (by simp) (valloc2 (hk1 _ _ _ (by decide) (by simp) (valloc1 (by simp)))) | exact hk2 _ _ _ (by decide) (by simp) (valloc2 (hk1 _ _ _ (by decide) (by simp) (valloc2 (valloc1 (by simp))))))).mono ?_; rintro e w3 ⟨rfl, hO3, hs3, hk3⟩)
        | (go_at_call 36; refine (unhide HC2 _ (by first | exact hO1 | exact (hO1.later (nest1 _)).1 | exact (hO1.later (nest2 _ _)).1) _ (by first | exact valloc1 (by simp) | exact valloc2 (valloc1 (by simp)) | exact hk1 _ _ _ (by decide) (by simp) (valloc1 (by simp)) | exact hk1 _ _ _ (by decide) (by simp) (valloc2 (valloc1 (by simp))) | exact hk1 _ _ _ (by decide) (by simp) (valloc2 (valloc2 (valloc1 (by simp)))) | exact valloc2 (hk1 _ _ _ (by decide) (by simp) (valloc1 (by simp))) | exact valloc2 (hk1 _ _ _ (by decide) (by simp) (valloc2 (valloc1 (by simp)))))).mono ?_; rintro e w2 ⟨rfl, hO2, hs2, hk2⟩)
        | (go_at_call 35; refine (unhide HC1 _ (by first | exact ((unhide HO).later (nest1 _).drew).1 | exact ((unhide HO).later (nest2 _ _).drew).1 | exact ((unhide HO).later (nest3 _ _ _).drew).1) _ (by first | exact valloc1 (by simp) | exact valloc2 (valloc1 (by simp)) | exact valloc2 (valloc2 (valloc1 (by simp))))).mono ?_; rintro e w1 ⟨rfl, hO1, hs1, hk1⟩)
        | fail)
  all_goals
    have hor : OR W b w3 := by assumption
    have HST := hide hor.2
    clear hor
    go_wp2_with fail
    go_end0
    exact ⟨rfl, by rw [unhide HT]; exact hO3, (unhide HS).trans (unhide HST)⟩
set_option maxHeartbeats 6400000 in
theorem mrput_any {w : World} {b : Nat} {l : List UInt8} (c : MR) (h : OutAt w b l) (hl : l.length ≤ 512) (hop : I64 c.code) (hn : I64 c.n) (ha : c.text.length ≤ 40) :
    Calls Tryd.prog 21 #[mrV c, .pointer (some ⟨b, 0, none⟩)] w fun e w' => e = .returned (.tuple #[]) ∧ OutAt w' b (l ++ c.bytes) ∧ Step b w w' := by
  obtain ⟨op, x, n⟩ := c
  unfold mrV
  dsimp only at *
  obtain ⟨W, hW⟩ : ∃ W, w.alloc (.cells #[.int .i64 op, .string (S x), .int .i64 n] 46) = W := ⟨_, rfl⟩
  have hlow : Below w.heap.size w W := by rw [← hW]; exact under_box _
  have hbl := h.lt
  obtain ⟨hO, hS⟩ := h.later hlow
  have hq0 : W.heap[w.heap.size]? = some (.cells #[.int .i64 op, .string (S x), .int .i64 n] 46 (0, 0)) := by rw [← hW]; exact heap_alloc_new w _
  have hkeep : ∀ w1, OR W b w1 → w1.heap[w.heap.size]? = some (.cells #[.int .i64 op, .string (S x), .int .i64 n] 46 (0, 0)) := fun w1 h1 => by
    rw [(h1.2.keep w.heap.size (block_lt hq0) (Foreign.of_type hO hq0 (by decide) (by simp))).1]; exact hq0
  have c0 : ∀ w1, OR W b w1 → w1.cell? ⟨w.heap.size, 0, none⟩ = some (.int .i64 op) := fun w1 h1 => by rw [block_cell (hkeep w1 h1)]; rfl
  have c1 : ∀ w1, OR W b w1 → w1.cell? ⟨w.heap.size, 1, none⟩ = some (.string (S x)) := fun w1 h1 => by rw [block_cell (hkeep w1 h1)]; rfl
  have c2 : ∀ w1, OR W b w1 → w1.cell? ⟨w.heap.size, 2, none⟩ = some (.int .i64 n) := fun w1 h1 => by rw [block_cell (hkeep w1 h1)]; rfl
  have hst : OR W b W.drew := OR.drew ⟨⟨l, hO⟩, Step.refl _ _⟩
  have HO := hide hO
  have HS := hide hS
  have HW := hide hW
  obtain ⟨A, hA⟩ : ∃ A, Codec.enc (max op 0).toNat = A := ⟨_, rfl⟩
  obtain ⟨X, hX⟩ : ∃ X, Codec.encS x = X := ⟨_, rfl⟩
  obtain ⟨N, hN⟩ : ∃ N, Codec.enc (Codec.fold n) = N := ⟨_, rfl⟩
  have hA9 : A.length ≤ 9 := by rw [← hA]; exact Codec.enc_short _ (by have := hop.2; omega)
  have hX98 : X.length ≤ 98 := by
    have h4 := Codec.enc_short x.length (by omega)
    rw [← hX]
    simp only [Codec.encS, List.length_append]
    omega
  have HC1 := hide (fun (w1 : World) (h1 : OutAt w1 b l) (q : Nat) hq => vN_any (q := q) (x := op) h1 (by omega) hop hq)
  have HC2 := hide (fun (w1 : World) (h1 : OutAt w1 b (l ++ A)) (q : Nat) hq => vS1_any (q := q) (x := x) h1 (by rw [List.length_append]; omega) ha hq)
  have HC3 := hide (fun (w1 : World) (h1 : OutAt w1 b (l ++ A ++ X)) (q : Nat) hq => vI_any (q := q) (x := n) h1 (by simp only [List.length_append]; omega) hn hq)
  rw [hN] at HC3
  rw [hX] at HC2
  rw [hA] at HC1
  have HT : Hid (l ++ MR.bytes ⟨op, x, n⟩ = l ++ A ++ X ++ N) := by
    show _ = _
    unfold MR.bytes
    dsimp only
    rw [hA, hN, ← hX]
    simp only [List.append_assoc]
  clear hA hN hX hW hO hq0 hkeep hlow h hS hl ha hop hn
  go_enter Tryd.func21, Tryd.ntmps21
  go_wp2_with fail
  rw [unhide HW]
  clear HW
  go_region_held3 (fun w' => OR W b w') (with_reducible (first | exact hst | (refine OR.step ?_ (by assumption) (by assumption); assumption) | (refine OR.alloc ?_ _; assumption) | (refine OR.drew (OR.alloc (OR.undrew ?_) _); assumption)))
      (first
        | (go_at_call 37; refine (unhide HC3 _ (by first | exact hO2 | exact (hO2.later (nest1 _)).1) _ (by first | exact valloc1 (by simp) | exact hk2 _ _ _ (by decide) (by simp) (valloc1 (by simp)) | exact hk2 _ _ _ (by decide) (by simp) (valloc2 (valloc1 (by simp))) | exact hk2 _ _ _ (by decide) (by simp) (hk1 _ _ _ (by decide) (by simp) (valloc1 (by simp))) | exact hk2 _ _ _ (by decide) (by simp) (hk1 _ _ _ (by decide) (by simp) (valloc2 (valloc1 (by simp))))  | exact hk2 _ _ _ (by decide) (by simp) (hk1 _ _ _ (by decide) (by simp) (valloc2 (valloc2 (valloc1 (by simp))))) | exact hk2 _ _ _ (by decide) (by simp) (valloc2 (hk1 _ _ _ (by decide) (by simp) (valloc1 (by simp)))) | exact hk2 _ _ _ (by decide) (by simp) (valloc2 (hk1 _ _ _ (by decide) (by simp) (valloc2 (valloc1 (by simp))))))).mono ?_; rintro e w3 ⟨rfl, hO3, hs3, hk3⟩)
        | (go_at_call 36; refine (unhide HC2 _ (by first | exact hO1 | exact (hO1.later (nest1 _)).1 | exact (hO1.later (nest2 _ _)).1) _ (by first | exact valloc1 (by simp) | exact valloc2 (valloc1 (by simp)) | exact hk1 _ _ _ (by decide) (by simp) (valloc1 (by simp)) | exact hk1 _ _ _ (by decide) (by simp) (valloc2 (valloc1 (by simp))) | exact hk1 _ _ _ (by decide) (by simp) (valloc2 (valloc2 (valloc1 (by simp)))) | exact valloc2 (hk1 _ _ _ (by decide) (by simp) (valloc1 (by simp))) | exact valloc2 (hk1 _ _ _ (by decide) (by simp) (valloc2 (valloc1 (by simp)))))).mono ?_; rintro e w2 ⟨rfl, hO2, hs2, hk2⟩)
        | (go_at_call 35; refine (unhide HC1 _ (by first | exact ((unhide HO).later (nest1 _).drew).1 | exact ((unhide HO).later (nest2 _ _).drew).1 | exact ((unhide HO).later (nest3 _ _ _).drew).1) _ (by first | exact valloc1 (by simp) | exact valloc2 (valloc1 (by simp)) | exact valloc2 (valloc2 (valloc1 (by simp))))).mono ?_; rintro e w1 ⟨rfl, hO1, hs1, hk1⟩)
        | fail)
  all_goals
    have hor : OR W b w3 := by assumption
    have HST := hide hor.2
    clear hor
    go_wp2_with fail
    go_end0
    exact ⟨rfl, by rw [unhide HT]; exact hO3, (unhide HS).trans (unhide HST)⟩
end Go.Proofs.YtfehpjmjchdkgaaDoor
