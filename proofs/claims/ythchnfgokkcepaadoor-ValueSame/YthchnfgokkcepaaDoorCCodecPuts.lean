/- The walk of the law CodecPuts: for every number, whole numbers, number from 0 on and two texts the call returns true, and nothing that was there has turned. -/
import Derived.Test.YthchnfgokkcepaaDoorCPuts
import Derived.OpenShut
namespace Go.Proofs.YthchnfgokkcepaaDoor
open Go.RowKit
set_option linter.unusedVariables false
set_option maxRecDepth 100000

/- A block that was made just ahead is foreign to an Out. -/
theorem OutAt.arg {w : World} {b : Nat} {l : List UInt8} (h : OutAt w b l) (o : Obj) : OutAt (w.alloc o) b l ∧ Step b w (w.alloc o) ∧ Foreign (w.alloc o) b w.heap.size := by
  obtain ⟨ho, hst⟩ := h.later (w' := w.alloc o) ((Below.refl _ _).alloc (Nat.le_refl _) _)
  refine ⟨ho, hst, by have := h.lt; omega, fun v hv e => ?_⟩
  obtain ⟨ao, c, hc, hown⟩ := h.cell
  rw [World.cell?_of_block (w := w) (a := ⟨b, 0, none⟩) (Below.heap_alloc _ _ _ h.lt), hc] at hv
  injection hv with hv
  subst hv
  have := (hown.lt _ e).2
  omega

theorem outI_two (b : Nat) (l : List UInt8) (x y : Int) (w : World) (h : OutAt w b l) (hl : l.length ≤ 1024) (hx : -9223372036854775808 ≤ x ∧ x ≤ 9223372036854775807) (hy : -9223372036854775808 ≤ y ∧ y ≤ 9223372036854775807) :
    Calls Tryd.prog 42 #[.pointer (some ⟨b, 0, none⟩), .slice (some ⟨w.heap.size, 0, none⟩) 2 2] (w.alloc (.cells #[.int .i64 x, .int .i64 y] 2)) fun e w' =>
      e = .returned (.pointer (some ⟨b, 0, none⟩)) ∧ OutAt w' b (l ++ (Codec.enc (Codec.fold x) ++ Codec.enc (Codec.fold y))) ∧ Step b w w' := by
  obtain ⟨ho, hst, hfor⟩ := h.arg (.cells #[.int .i64 x, .int .i64 y] 2)
  have hN := outI_any b l [x, y] (some ⟨w.heap.size, 0, none⟩) 2 2 _ ho rfl (by simp) (by omega)
    (by intro i hi; simp at hi; obtain rfl | rfl : i = 0 ∨ i = 1 := by omega
        · exact hx
        · exact hy)
    (by
      intro i hi
      simp at hi
      refine ⟨_, _, rfl, by simp, hfor, ?_⟩
      obtain rfl | rfl : i = 0 ∨ i = 1 := by omega
      all_goals simp)
  refine hN.mono ?_
  rintro e w' ⟨rfl, h1, h2⟩
  have e : encI [x, y] = Codec.enc (Codec.fold x) ++ Codec.enc (Codec.fold y) := by simp [encI]
  rw [e] at h1
  exact ⟨rfl, h1, hst.trans h2⟩

theorem outN_int (b : Nat) (l : List UInt8) (x : Int) (w : World) (h : OutAt w b l) (hl : l.length ≤ 1024) (hx : -9223372036854775808 ≤ x ∧ x ≤ 9223372036854775807) :
    Calls Tryd.prog 41 #[.pointer (some ⟨b, 0, none⟩), .slice (some ⟨w.heap.size, 0, none⟩) 1 1] (w.alloc (.cells #[.int .i64 x] 3)) fun e w' =>
      e = .returned (.pointer (some ⟨b, 0, none⟩)) ∧ OutAt w' b (l ++ Codec.enc (max x 0).toNat) ∧ Step b w w' := by
  obtain ⟨ho, hst, hfor⟩ := h.arg (.cells #[.int .i64 x] 3)
  have hN := outN_any b l [x] (some ⟨w.heap.size, 0, none⟩) 1 1 _ ho rfl (by simp) (by omega)
    (by intro i hi; simp at hi; subst hi; exact hx)
    (by
      intro i hi
      simp at hi
      subst hi
      refine ⟨_, _, rfl, by simp, hfor, ?_⟩
      simp)
  refine hN.mono ?_
  rintro e w' ⟨rfl, h1, h2⟩
  have e : encN [x] = Codec.enc (max x 0).toNat := by simp [encN]
  rw [e] at h1
  exact ⟨rfl, h1, hst.trans h2⟩

theorem outS_two (b : Nat) (l x y : List UInt8) (w : World) (h : OutAt w b l) (hl : l.length ≤ 1024) (hx : x.length ≤ 40) (hy : y.length ≤ 40) :
    Calls Tryd.prog 43 #[.pointer (some ⟨b, 0, none⟩), .slice (some ⟨w.heap.size, 0, none⟩) 2 2] (w.alloc (.cells #[.string (S x), .string (S y)] 9)) fun e w' =>
      e = .returned (.pointer (some ⟨b, 0, none⟩)) ∧ OutAt w' b (l ++ (Codec.encS x ++ Codec.encS y)) ∧ Step b w w' := by
  obtain ⟨ho, hst, hfor⟩ := h.arg (.cells #[.string (S x), .string (S y)] 9)
  have hN := outS_any b l [x, y] (some ⟨w.heap.size, 0, none⟩) 2 2 _ ho rfl (by simp) (by omega)
    (by intro i hi; simp at hi; obtain rfl | rfl : i = 0 ∨ i = 1 := by omega
        all_goals simp; omega)
    (by
      intro i hi
      simp at hi
      refine ⟨_, _, rfl, by simp, hfor, ?_⟩
      obtain rfl | rfl : i = 0 ∨ i = 1 := by omega
      all_goals simp)
  refine hN.mono ?_
  rintro e w' ⟨rfl, h1, h2⟩
  have e : encT [x, y] = Codec.encS x ++ Codec.encS y := by simp [encT]
  rw [e] at h1
  exact ⟨rfl, h1, hst.trans h2⟩

theorem enc7 : Codec.enc 7 = [1, 7] := by decide +kernel

theorem putsT (n : Nat) (k kk : Int) (c : Nat) (x y : List UInt8) :
    Codec.enc n ++ Codec.enc 7 ++ (Codec.enc (Codec.fold k) ++ Codec.enc (Codec.fold kk)) ++ Codec.enc c ++ (Codec.encS x ++ Codec.encS y) =
      Codec.enc n ++ Codec.enc 7 ++ Codec.enc (Codec.fold k) ++ Codec.enc (Codec.fold kk) ++ Codec.enc c ++ Codec.encS x ++ Codec.encS y := by
  simp only [List.append_assoc]

/- Takes in a row. -/
theorem u_takes (b n : Nat) (r : List UInt8) (w : World) (hn : n < 18446744073709551616) (h : InAt w b (Codec.enc n ++ r, 0)) :
    Calls Tryd.prog 56 #[.pointer (some ⟨b, 0, none⟩)] w fun e w' => e = .returned (.int .u64 (n : Int)) ∧ InAt w' b (r, 0) ∧ But b w.heap.size w w' := by
  have h1 := u_any b _ w h
  rw [Codec.takeU_enc n r hn] at h1
  exact h1
theorem i_takes (b : Nat) (k : Int) (r : List UInt8) (w : World) (hk : -9223372036854775808 ≤ k ∧ k ≤ 9223372036854775807) (h : InAt w b (Codec.enc (Codec.fold k) ++ r, 0)) :
    Calls Tryd.prog 38 #[.pointer (some ⟨b, 0, none⟩)] w fun e w' => e = .returned (.int .i64 k) ∧ InAt w' b (r, 0) ∧ But b w.heap.size w w' := by
  have h1 := i_any b _ w h
  rw [Codec.takeI_enc k r hk.1 hk.2] at h1
  exact h1
theorem s_takes (b : Nat) (s r : List UInt8) (w : World) (hs : s.length ≤ 40) (h : InAt w b (Codec.encS s ++ r, 0)) :
    Calls Tryd.prog 39 #[.pointer (some ⟨b, 0, none⟩), .int .i64 40] w fun e w' => e = .returned (.string (S s)) ∧ InAt w' b (r, 0) ∧ But b w.heap.size w w' := by
  have h1 := s_any b 40 _ w h (by omega) (by omega)
  rw [Codec.takeS_enc s r hs] at h1
  exact h1

end Go.Proofs.YthchnfgokkcepaaDoor
