/- The contract of the law's take: the same step on both sides, and the answers are alike. -/
import Derived.Test.YtphcbnbpbgmplaaCRefTakeR
namespace Go.Proofs.Ytphcbnbpbgmplaa
open Go.RowKit
set_option linter.unusedVariables false

theorem But.setOther {b B : Nat} {u w : World} (h : But b B u w) {p : Addr} (hp : B ≤ p.block) (x : Value) : But b B u (w.setCell p x) :=
  h.trans (But.of_below ((Below.refl _ _).setCell hp x))
theorem InAt.setOther {w : World} {b : Nat} {s : Codec.St} (h : InAt w b s) {p : Addr} (hp : p.block ≠ b) (x : Value) : InAt (w.setCell p x) b s :=
  ⟨by simpa using h.lt, by rw [World.cell?_setCell_other _ _ _ _ (by intro e; rw [e] at hp; exact hp rfl)]; exact h.c0, by rw [World.cell?_setCell_other _ _ _ _ (by intro e; rw [e] at hp; exact hp rfl)]; exact h.c1, by rw [World.frozen?_setCell]; exact h.f0, by rw [World.frozen?_setCell]; exact h.f1, h.len⟩

/- Three boxes of two cells behind what came in, and an In that came in. -/
structure Tri (w w1 : World) (b : Nat) (s : Codec.St) (a0 a1 p0 p1 b0 b1 : Value) : Prop where
  lt : b < w.heap.size
  inat : InAt w1 b s
  but : But b w.heap.size w w1
  c0 : w1.cell? ⟨w.heap.size, 0, none⟩ = some a0
  c1 : w1.cell? ⟨w.heap.size, 1, none⟩ = some a1
  e0 : w1.cell? ⟨w.heap.size + 1, 0, none⟩ = some p0
  e1 : w1.cell? ⟨w.heap.size + 1, 1, none⟩ = some p1
  d0 : w1.cell? ⟨w.heap.size + 1 + 1, 0, none⟩ = some b0
  d1 : w1.cell? ⟨w.heap.size + 1 + 1, 1, none⟩ = some b1
  g0 : w1.frozen? ⟨w.heap.size + 1 + 1, 0, none⟩ = false
  g1 : w1.frozen? ⟨w.heap.size + 1 + 1, 1, none⟩ = false
  size : w.heap.size + 3 ≤ w1.heap.size
theorem new_two (w : World) (x y : Value) (t : TypeId) : (w.alloc (Obj.cells #[x, y] t)).cell? ⟨w.heap.size, 0, none⟩ = some x ∧ (w.alloc (Obj.cells #[x, y] t)).cell? ⟨w.heap.size, 1, none⟩ = some y ∧ (w.alloc (Obj.cells #[x, y] t)).frozen? ⟨w.heap.size, 0, none⟩ = false ∧ (w.alloc (Obj.cells #[x, y] t)).frozen? ⟨w.heap.size, 1, none⟩ = false := by
  refine ⟨?_, ?_, ?_, ?_⟩ <;> simp
theorem Tri.start {w : World} {b : Nat} {s : Codec.St} (h : InAt w b s) (a0 a1 p0 p1 b0 b1 : Value) (t u v : TypeId) :
    Tri w (((w.alloc (Obj.cells #[a0, a1] t)).alloc (Obj.cells #[p0, p1] u)).alloc (Obj.cells #[b0, b1] v)) b s a0 a1 p0 p1 b0 b1 := by
  have hb : Below w.heap.size w (((w.alloc (Obj.cells #[a0, a1] t)).alloc (Obj.cells #[p0, p1] u)).alloc (Obj.cells #[b0, b1] v)) :=
    (((Below.refl _ _).alloc (Nat.le_refl _) _).alloc (by simp) _).alloc (by simp; omega) _
  have s1 : (w.alloc (Obj.cells #[a0, a1] t)).heap.size = w.heap.size + 1 := by simp
  have s2 : ((w.alloc (Obj.cells #[a0, a1] t)).alloc (Obj.cells #[p0, p1] u)).heap.size = w.heap.size + 1 + 1 := by simp
  have b3 := (Below.refl ((w.alloc (Obj.cells #[a0, a1] t)).alloc (Obj.cells #[p0, p1] u)).heap.size ((w.alloc (Obj.cells #[a0, a1] t)).alloc (Obj.cells #[p0, p1] u))).alloc (Nat.le_refl _) (Obj.cells #[b0, b1] v)
  have b2 := (Below.refl (w.alloc (Obj.cells #[a0, a1] t)).heap.size (w.alloc (Obj.cells #[a0, a1] t))).alloc (Nat.le_refl _) (Obj.cells #[p0, p1] u)
  have n3 := new_two ((w.alloc (Obj.cells #[a0, a1] t)).alloc (Obj.cells #[p0, p1] u)) b0 b1 v
  have n2 := new_two (w.alloc (Obj.cells #[a0, a1] t)) p0 p1 u
  rw [s2] at n3
  rw [s1] at n2
  refine ⟨h.lt, h.later hb, But.of_below hb, ?_, ?_, ?_, ?_, ?_, ?_, ?_, ?_, ?_⟩
  · rw [b3.cell (p := ⟨w.heap.size, 0, none⟩) (by rw [s2]; simp; omega), b2.cell (p := ⟨w.heap.size, 0, none⟩) (by rw [s1]; simp)]; simp
  · rw [b3.cell (p := ⟨w.heap.size, 1, none⟩) (by rw [s2]; simp; omega), b2.cell (p := ⟨w.heap.size, 1, none⟩) (by rw [s1]; simp)]; simp
  · rw [b3.cell (p := ⟨w.heap.size + 1, 0, none⟩) (by rw [s2]; simp)]; exact n2.1
  · rw [b3.cell (p := ⟨w.heap.size + 1, 1, none⟩) (by rw [s2]; simp)]; exact n2.2.1
  · exact n3.1
  · exact n3.2.1
  · exact n3.2.2.1
  · exact n3.2.2.2
  · simp
theorem Tri.call {w w1 w2 : World} {b : Nat} {s s' : Codec.St} {a0 a1 p0 p1 b0 b1 : Value} (h : Tri w w1 b s a0 a1 p0 p1 b0 b1) (hin : InAt w2 b s') (hb : But b w1.heap.size w1 w2) : Tri w w2 b s' a0 a1 p0 p1 b0 b1 := by
  have hs := h.size
  have hl := h.lt
  refine ⟨h.lt, hin, h.but.trans (hb.mono (by omega)), ?_, ?_, ?_, ?_, ?_, ?_, ?_, ?_, ?_⟩
  · rw [hb.cell (p := ⟨w.heap.size, 0, none⟩) (by simp; omega) (by simp; omega)]; exact h.c0
  · rw [hb.cell (p := ⟨w.heap.size, 1, none⟩) (by simp; omega) (by simp; omega)]; exact h.c1
  · rw [hb.cell (p := ⟨w.heap.size + 1, 0, none⟩) (by simp; omega) (by simp; omega)]; exact h.e0
  · rw [hb.cell (p := ⟨w.heap.size + 1, 1, none⟩) (by simp; omega) (by simp; omega)]; exact h.e1
  · rw [hb.cell (p := ⟨w.heap.size + 1 + 1, 0, none⟩) (by simp; omega) (by simp; omega)]; exact h.d0
  · rw [hb.cell (p := ⟨w.heap.size + 1 + 1, 1, none⟩) (by simp; omega) (by simp; omega)]; exact h.d1
  · rw [hb.frozen (p := ⟨w.heap.size + 1 + 1, 0, none⟩) (by simp; omega) (by simp; omega)]; exact h.g0
  · rw [hb.frozen (p := ⟨w.heap.size + 1 + 1, 1, none⟩) (by simp; omega) (by simp; omega)]; exact h.g1
  · have := hb.size; omega
theorem Tri.quiet {w w1 w2 : World} {b : Nat} {s : Codec.St} {a0 a1 p0 p1 b0 b1 : Value} (h : Tri w w1 b s a0 a1 p0 p1 b0 b1) (hb : Below w1.heap.size w1 w2) : Tri w w2 b s a0 a1 p0 p1 b0 b1 :=
  h.call (h.inat.later hb) (But.of_below hb)
theorem Tri.set {w w1 : World} {b : Nat} {s : Codec.St} {a0 a1 p0 p1 b0 b1 : Value} (h : Tri w w1 b s a0 a1 p0 p1 b0 b1) {p : Addr} (hp : w.heap.size + 3 ≤ p.block) (x : Value) : Tri w (w1.setCell p x) b s a0 a1 p0 p1 b0 b1 := by
  have hs := h.size
  have hl := h.lt
  have ne : ∀ k o, k < w.heap.size + 3 → p ≠ ⟨k, o, none⟩ := by
    intro k o hk e
    rw [e] at hp
    simp only at hp
    omega
  refine ⟨h.lt, h.inat.setOther (by omega) x, h.but.setOther (by omega) x, ?_, ?_, ?_, ?_, ?_, ?_, ?_, ?_, ?_⟩
  · rw [World.cell?_setCell_other _ _ _ _ (ne _ _ (by omega))]; exact h.c0
  · rw [World.cell?_setCell_other _ _ _ _ (ne _ _ (by omega))]; exact h.c1
  · rw [World.cell?_setCell_other _ _ _ _ (ne _ _ (by omega))]; exact h.e0
  · rw [World.cell?_setCell_other _ _ _ _ (ne _ _ (by omega))]; exact h.e1
  · rw [World.cell?_setCell_other _ _ _ _ (ne _ _ (by omega))]; exact h.d0
  · rw [World.cell?_setCell_other _ _ _ _ (ne _ _ (by omega))]; exact h.d1
  · rw [World.frozen?_setCell]; exact h.g0
  · rw [World.frozen?_setCell]; exact h.g1
  · simpa using hs
theorem Tri.out {w w1 : World} {b : Nat} {s : Codec.St} {a0 a1 p0 p1 b0 b1 : Value} (h : Tri w w1 b s a0 a1 p0 p1 b0 b1) (x y : Value) : Tri w ((w1.setCell ⟨w.heap.size + 1 + 1, 0, none⟩ x).setCell ⟨w.heap.size + 1 + 1, 1, none⟩ y) b s a0 a1 p0 p1 x y := by
  have hs := h.size
  have hl := h.lt
  have d0 := h.d0
  have d1 := h.d1
  refine ⟨h.lt, (h.inat.setOther (p := ⟨w.heap.size + 1 + 1, 0, none⟩) (by simp; omega) x).setOther (p := ⟨w.heap.size + 1 + 1, 1, none⟩) (by simp; omega) y, (h.but.setOther (p := ⟨w.heap.size + 1 + 1, 0, none⟩) (by simp; omega) x).setOther (p := ⟨w.heap.size + 1 + 1, 1, none⟩) (by simp; omega) y, ?_, ?_, ?_, ?_, ?_, ?_, ?_, ?_, ?_⟩
  · rw [World.cell?_setCell_other _ _ _ _ (by simp), World.cell?_setCell_other _ _ _ _ (by simp)]; exact h.c0
  · rw [World.cell?_setCell_other _ _ _ _ (by simp), World.cell?_setCell_other _ _ _ _ (by simp)]; exact h.c1
  · rw [World.cell?_setCell_other _ _ _ _ (by simp), World.cell?_setCell_other _ _ _ _ (by simp)]; exact h.e0
  · rw [World.cell?_setCell_other _ _ _ _ (by simp), World.cell?_setCell_other _ _ _ _ (by simp)]; exact h.e1
  · simp [World.cell?_setCell_same _ _ _ d0, World.cell?_setCell_other]
  · have k1 : (w1.setCell ⟨w.heap.size + 1 + 1, 0, none⟩ x).cell? ⟨w.heap.size + 1 + 1, 1, none⟩ = some b1 := by rw [World.cell?_setCell_other _ _ _ _ (by simp)]; exact d1
    rw [World.cell?_setCell_same _ _ _ k1]
  · rw [World.frozen?_setCell, World.frozen?_setCell]; exact h.g0
  · rw [World.frozen?_setCell, World.frozen?_setCell]; exact h.g1
  · simpa using hs

def step (k n : Int) (s : Codec.St) : Codec.St :=
  if k = 1 then (Codec.takeU s).2 else if k = 2 then (Codec.takeI s).2 else if k = 3 then (Codec.takeN n s).2 else if k = 4 then (Codec.takeS n s).2 else if k = 5 then Codec.fail (n % 8) s else s
theorem Inv.step {s : Codec.St} (h : Inv s) (k n : Int) : Inv (step k n s) := by
  unfold Go.Proofs.Ytphcbnbpbgmplaa.step
  split
  · exact h.takeU
  · split
    · exact h.takeI
    · split
      · exact h.takeN n
      · split
        · exact h.takeS n
        · split
          · exact h.fail _
          · exact h

set_option maxHeartbeats 800000 in
theorem ltake1_any (b : Nat) (s : Codec.St) (n : Int) (w : World) (h : InAt w b s) (hi : Inv s) :
    Calls Try.prog 21 #[.pointer (some ⟨b, 0, none⟩), InV s, .agg #[.int .i64 1, .int .i64 n]] w fun e w' => e = .returned (.tuple #[InV (Codec.takeU s).2, .bool true]) ∧ InAt w' b (Codec.takeU s).2 ∧ But b w.heap.size w w' := by
  have HU := hide (fun wx hx => u_any b s wx hx)
  have HR := hide (fun wx => rtakeU_any s wx hi h.len)
  have HS := hide (fun a0 a1 p0 p1 b0 b1 t u v => Tri.start h a0 a1 p0 p1 b0 b1 t u v)
  have hlt := h.lt
  clear h hi
  generalize Codec.takeU s = p at *
  obtain ⟨u, sl, se⟩ := p
  obtain ⟨l, er⟩ := s
  unfold InV at *
  simp only at HU HR ⊢
  go_enter Try.func21, Try.ntmps21
  go_wp2_with fail
  refine (unhide HU _ (unhide HS _ _ _ _ _ _ _ _ _).inat).mono ?_
  rintro e w1 ⟨rfl, hin, hbut⟩
  have T1 := hide ((unhide HS _ _ _ _ _ _ _ _ _).call hin hbut)
  obtain ⟨_, _, _, c0, c1, e0, e1, d0, d1, g0, g1, hsz⟩ := unhide T1
  clear hin hbut
  go_wp2_with fail
  refine (unhide HR _).mono ?_
  rintro e w2 ⟨rfl, hb2⟩
  have T2 := hide ((unhide T1).quiet hb2)
  clear c0 c1 e0 e1 d0 d1 g0 g1 hsz
  obtain ⟨_, _, _, c0, c1, e0, e1, d0, d1, g0, g1, hsz⟩ := unhide T2
  clear hb2
  have A0 := fun o => ((unhide T2).quiet ((Below.refl _ _).alloc (Nat.le_refl _) o)).d0
  have A1 := fun o => ((unhide T2).quiet ((Below.refl _ _).alloc (Nat.le_refl _) o)).d1
  have A2 := fun o => ((unhide T2).quiet ((Below.refl _ _).alloc (Nat.le_refl _) o)).g0
  have A3 := fun o => ((unhide T2).quiet ((Below.refl _ _).alloc (Nat.le_refl _) o)).g1
  go_wp2
  have T3 := ((unhide T2).quiet ((Below.refl _ _).alloc (Nat.le_refl _) (Obj.cells #[.string (S sl), .int .i64 se] 45))).out (.string (S sl)) (.int .i64 se)
  exact bodyPost_ret (v := .tuple #[.agg #[.string (S sl), .int .i64 se], .bool true]) (by have t0 := T3.d0; have t1 := T3.d1; simp [results, Try.results21, go_sem, t0, t1]) rfl ⟨rfl, T3.inat, T3.but⟩

set_option maxHeartbeats 800000 in
theorem ltake2_any (b : Nat) (s : Codec.St) (n : Int) (w : World) (h : InAt w b s) (hi : Inv s) :
    Calls Try.prog 21 #[.pointer (some ⟨b, 0, none⟩), InV s, .agg #[.int .i64 2, .int .i64 n]] w fun e w' => e = .returned (.tuple #[InV (Codec.takeI s).2, .bool true]) ∧ InAt w' b (Codec.takeI s).2 ∧ But b w.heap.size w w' := by
  have HU := hide (fun wx hx => i_any b s wx hx)
  have HR := hide (fun wx => rtakeI_any s wx hi h.len)
  have HS := hide (fun a0 a1 p0 p1 b0 b1 t u v => Tri.start h a0 a1 p0 p1 b0 b1 t u v)
  have hlt := h.lt
  clear h hi
  generalize Codec.takeI s = p at *
  obtain ⟨u, sl, se⟩ := p
  obtain ⟨l, er⟩ := s
  unfold InV at *
  simp only at HU HR ⊢
  go_enter Try.func21, Try.ntmps21
  go_wp2_with fail
  refine (unhide HU _ (unhide HS _ _ _ _ _ _ _ _ _).inat).mono ?_
  rintro e w1 ⟨rfl, hin, hbut⟩
  have T1 := hide ((unhide HS _ _ _ _ _ _ _ _ _).call hin hbut)
  obtain ⟨_, _, _, c0, c1, e0, e1, d0, d1, g0, g1, hsz⟩ := unhide T1
  clear hin hbut
  go_wp2_with fail
  refine (unhide HR _).mono ?_
  rintro e w2 ⟨rfl, hb2⟩
  have T2 := hide ((unhide T1).quiet hb2)
  clear c0 c1 e0 e1 d0 d1 g0 g1 hsz
  obtain ⟨_, _, _, c0, c1, e0, e1, d0, d1, g0, g1, hsz⟩ := unhide T2
  clear hb2
  have A0 := fun o => ((unhide T2).quiet ((Below.refl _ _).alloc (Nat.le_refl _) o)).d0
  have A1 := fun o => ((unhide T2).quiet ((Below.refl _ _).alloc (Nat.le_refl _) o)).d1
  have A2 := fun o => ((unhide T2).quiet ((Below.refl _ _).alloc (Nat.le_refl _) o)).g0
  have A3 := fun o => ((unhide T2).quiet ((Below.refl _ _).alloc (Nat.le_refl _) o)).g1
  go_wp2
  have T3 := ((unhide T2).quiet ((Below.refl _ _).alloc (Nat.le_refl _) (Obj.cells #[.string (S sl), .int .i64 se] 45))).out (.string (S sl)) (.int .i64 se)
  exact bodyPost_ret (v := .tuple #[.agg #[.string (S sl), .int .i64 se], .bool true]) (by have t0 := T3.d0; have t1 := T3.d1; simp [results, Try.results21, go_sem, t0, t1]) rfl ⟨rfl, T3.inat, T3.but⟩

set_option maxHeartbeats 800000 in
theorem ltake3_any (b : Nat) (s : Codec.St) (n : Int) (w : World) (h : InAt w b s) (hi : Inv s) (h1 : -9223372036854775808 ≤ n) (h2 : n ≤ 9223372036854775807) :
    Calls Try.prog 21 #[.pointer (some ⟨b, 0, none⟩), InV s, .agg #[.int .i64 3, .int .i64 n]] w fun e w' => e = .returned (.tuple #[InV (Codec.takeN n s).2, .bool true]) ∧ InAt w' b (Codec.takeN n s).2 ∧ But b w.heap.size w w' := by
  have HU := hide (fun wx hx => n_any b n s wx hx h1 h2)
  have HR := hide (fun wx => rtakeN_any s n wx hi h.len h1 h2)
  have HS := hide (fun a0 a1 p0 p1 b0 b1 t u v => Tri.start h a0 a1 p0 p1 b0 b1 t u v)
  have hlt := h.lt
  clear h hi
  generalize Codec.takeN n s = p at *
  obtain ⟨u, sl, se⟩ := p
  obtain ⟨l, er⟩ := s
  unfold InV at *
  simp only at HU HR ⊢
  go_enter Try.func21, Try.ntmps21
  go_wp2_with fail
  refine (unhide HU _ (unhide HS _ _ _ _ _ _ _ _ _).inat).mono ?_
  rintro e w1 ⟨rfl, hin, hbut⟩
  have T1 := hide ((unhide HS _ _ _ _ _ _ _ _ _).call hin hbut)
  obtain ⟨_, _, _, c0, c1, e0, e1, d0, d1, g0, g1, hsz⟩ := unhide T1
  clear hin hbut
  go_wp2_with fail
  refine (unhide HR _).mono ?_
  rintro e w2 ⟨rfl, hb2⟩
  have T2 := hide ((unhide T1).quiet hb2)
  clear c0 c1 e0 e1 d0 d1 g0 g1 hsz
  obtain ⟨_, _, _, c0, c1, e0, e1, d0, d1, g0, g1, hsz⟩ := unhide T2
  clear hb2
  have A0 := fun o => ((unhide T2).quiet ((Below.refl _ _).alloc (Nat.le_refl _) o)).d0
  have A1 := fun o => ((unhide T2).quiet ((Below.refl _ _).alloc (Nat.le_refl _) o)).d1
  have A2 := fun o => ((unhide T2).quiet ((Below.refl _ _).alloc (Nat.le_refl _) o)).g0
  have A3 := fun o => ((unhide T2).quiet ((Below.refl _ _).alloc (Nat.le_refl _) o)).g1
  go_wp2
  have T3 := ((unhide T2).quiet ((Below.refl _ _).alloc (Nat.le_refl _) (Obj.cells #[.string (S sl), .int .i64 se] 45))).out (.string (S sl)) (.int .i64 se)
  exact bodyPost_ret (v := .tuple #[.agg #[.string (S sl), .int .i64 se], .bool true]) (by have t0 := T3.d0; have t1 := T3.d1; simp [results, Try.results21, go_sem, t0, t1]) rfl ⟨rfl, T3.inat, T3.but⟩

set_option maxHeartbeats 800000 in
theorem ltake4_any (b : Nat) (s : Codec.St) (n : Int) (w : World) (h : InAt w b s) (hi : Inv s) (h1 : -9223372036854775808 ≤ n) (h2 : n ≤ 9223372036854775807) :
    Calls Try.prog 21 #[.pointer (some ⟨b, 0, none⟩), InV s, .agg #[.int .i64 4, .int .i64 n]] w fun e w' => e = .returned (.tuple #[InV (Codec.takeS n s).2, .bool true]) ∧ InAt w' b (Codec.takeS n s).2 ∧ But b w.heap.size w w' := by
  have HU := hide (fun wx hx => s_any b n s wx hx h1 h2)
  have HR := hide (fun wx => rtakeS_any s n wx hi h.len h1 h2)
  have HS := hide (fun a0 a1 p0 p1 b0 b1 t u v => Tri.start h a0 a1 p0 p1 b0 b1 t u v)
  have hlt := h.lt
  clear h hi
  generalize Codec.takeS n s = p at *
  obtain ⟨u, sl, se⟩ := p
  obtain ⟨l, er⟩ := s
  unfold InV at *
  simp only at HU HR ⊢
  go_enter Try.func21, Try.ntmps21
  go_wp2_with fail
  refine (unhide HU _ (unhide HS _ _ _ _ _ _ _ _ _).inat).mono ?_
  rintro e w1 ⟨rfl, hin, hbut⟩
  have T1 := hide ((unhide HS _ _ _ _ _ _ _ _ _).call hin hbut)
  obtain ⟨_, _, _, c0, c1, e0, e1, d0, d1, g0, g1, hsz⟩ := unhide T1
  clear hin hbut
  go_wp2_with fail
  refine (unhide HR _).mono ?_
  rintro e w2 ⟨rfl, hb2⟩
  have T2 := hide ((unhide T1).quiet hb2)
  clear c0 c1 e0 e1 d0 d1 g0 g1 hsz
  obtain ⟨_, _, _, c0, c1, e0, e1, d0, d1, g0, g1, hsz⟩ := unhide T2
  clear hb2
  have A0 := fun o => ((unhide T2).quiet ((Below.refl _ _).alloc (Nat.le_refl _) o)).d0
  have A1 := fun o => ((unhide T2).quiet ((Below.refl _ _).alloc (Nat.le_refl _) o)).d1
  have A2 := fun o => ((unhide T2).quiet ((Below.refl _ _).alloc (Nat.le_refl _) o)).g0
  have A3 := fun o => ((unhide T2).quiet ((Below.refl _ _).alloc (Nat.le_refl _) o)).g1
  go_wp2
  have T3 := ((unhide T2).quiet ((Below.refl _ _).alloc (Nat.le_refl _) (Obj.cells #[.string (S sl), .int .i64 se] 45))).out (.string (S sl)) (.int .i64 se)
  exact bodyPost_ret (v := .tuple #[.agg #[.string (S sl), .int .i64 se], .bool true]) (by have t0 := T3.d0; have t1 := T3.d1; simp [results, Try.results21, go_sem, t0, t1]) rfl ⟨rfl, T3.inat, T3.but⟩

theorem and7 (n : Int) : bits .and .i64 n 7 = n % 8 := by
  have h7 : (BitVec.ofInt 64 7).toNat = 2 ^ 3 - 1 := by decide
  have key : (BitVec.ofInt 64 n &&& BitVec.ofInt 64 7).toNat = (n % ((2 ^ 64 : Nat) : Int)).toNat % 2 ^ 3 := by
    rw [BitVec.toNat_and, BitVec.toNat_ofInt, h7, Nat.and_two_pow_sub_one_eq_mod]
  show IntKind.i64.wrap ((BitVec.ofInt 64 n &&& BitVec.ofInt 64 7).toNat : Nat) = n % 8
  rw [key, IntKind.wrap_i64]
  omega

set_option maxHeartbeats 800000 in
theorem ltake5_any (b : Nat) (s : Codec.St) (n : Int) (w : World) (h : InAt w b s) :
    Calls Try.prog 21 #[.pointer (some ⟨b, 0, none⟩), InV s, .agg #[.int .i64 5, .int .i64 n]] w fun e w' => e = .returned (.tuple #[InV (Codec.fail (n % 8) s), .bool true]) ∧ InAt w' b (Codec.fail (n % 8) s) ∧ But b w.heap.size w w' := by
  have HU := hide (fun wx hx => fail_any b (n % 8) s wx hx)
  have HR := hide (fun wx => rfail_any s (n % 8) wx)
  have HS := hide (fun a0 a1 p0 p1 b0 b1 t u v => Tri.start h a0 a1 p0 p1 b0 b1 t u v)
  have hlt := h.lt
  have h7 := and7 n
  clear h
  generalize Codec.fail (n % 8) s = p at *
  obtain ⟨sl, se⟩ := p
  obtain ⟨l, er⟩ := s
  unfold InV at *
  simp only at HU HR ⊢
  go_enter Try.func21, Try.ntmps21
  go_wp2_with fail
  refine (unhide HU _ (unhide HS _ _ _ _ _ _ _ _ _).inat).mono ?_
  rintro e w1 ⟨rfl, hin, hbut⟩
  have T1 := hide ((unhide HS _ _ _ _ _ _ _ _ _).call hin hbut)
  obtain ⟨_, _, _, c0, c1, e0, e1, d0, d1, g0, g1, hsz⟩ := unhide T1
  clear hin hbut
  go_wp2_with fail
  refine (unhide HR _).mono ?_
  rintro e w2 ⟨rfl, hb2⟩
  have T2 := hide ((unhide T1).quiet hb2)
  clear c0 c1 e0 e1 d0 d1 g0 g1 hsz
  obtain ⟨_, _, _, c0, c1, e0, e1, d0, d1, g0, g1, hsz⟩ := unhide T2
  clear hb2
  go_wp2
  have T3 := (unhide T2).out (.string (S sl)) (.int .i64 se)
  exact bodyPost_ret (v := .tuple #[.agg #[.string (S sl), .int .i64 se], .bool true]) (by have t0 := T3.d0; have t1 := T3.d1; simp [results, Try.results21, go_sem, t0, t1]) rfl ⟨rfl, T3.inat, T3.but⟩

set_option maxHeartbeats 800000 in
theorem ltake0_any (b : Nat) (s : Codec.St) (k n : Int) (w : World) (h : InAt w b s) (k1 : k ≠ 1) (k2 : k ≠ 2) (k3 : k ≠ 3) (k4 : k ≠ 4) (k5 : k ≠ 5) :
    Calls Try.prog 21 #[.pointer (some ⟨b, 0, none⟩), InV s, .agg #[.int .i64 k, .int .i64 n]] w fun e w' => e = .returned (.tuple #[InV s, .bool true]) ∧ InAt w' b s ∧ But b w.heap.size w w' := by
  have T := hide (Tri.start h (.string (S s.1)) (.int .i64 s.2) (.int .i64 k) (.int .i64 n) (.string (S s.1)) (.int .i64 s.2) 45 49 45)
  have q1 : (k == 1) = false := by rw [beq_eq_false_iff_ne]; exact k1
  have q2 : (k == 2) = false := by rw [beq_eq_false_iff_ne]; exact k2
  have q3 : (k == 3) = false := by rw [beq_eq_false_iff_ne]; exact k3
  have q4 : (k == 4) = false := by rw [beq_eq_false_iff_ne]; exact k4
  have q5 : (k == 5) = false := by rw [beq_eq_false_iff_ne]; exact k5
  clear h k1 k2 k3 k4 k5
  obtain ⟨l, er⟩ := s
  unfold InV at *
  go_enter Try.func21, Try.ntmps21
  go_wp2
  have T3 := unhide T
  exact bodyPost_ret (v := .tuple #[.agg #[.string (S l), .int .i64 er], .bool true]) (by have t0 := T3.d0; have t1 := T3.d1; simp [results, Try.results21, go_sem, t0, t1]) rfl ⟨rfl, T3.inat, T3.but⟩

/- Whatever is taken. -/
theorem ltake_any (b : Nat) (s : Codec.St) (k n : Int) (w : World) (h : InAt w b s) (hi : Inv s) (h1 : -9223372036854775808 ≤ n) (h2 : n ≤ 9223372036854775807) :
    Calls Try.prog 21 #[.pointer (some ⟨b, 0, none⟩), InV s, .agg #[.int .i64 k, .int .i64 n]] w fun e w' => e = .returned (.tuple #[InV (step k n s), .bool true]) ∧ InAt w' b (step k n s) ∧ But b w.heap.size w w' := by
  unfold step
  by_cases k1 : k = 1
  · subst k1; rw [if_pos rfl]; exact ltake1_any b s n w h hi
  rw [if_neg k1]
  by_cases k2 : k = 2
  · subst k2; rw [if_pos rfl]; exact ltake2_any b s n w h hi
  rw [if_neg k2]
  by_cases k3 : k = 3
  · subst k3; rw [if_pos rfl]; exact ltake3_any b s n w h hi h1 h2
  rw [if_neg k3]
  by_cases k4 : k = 4
  · subst k4; rw [if_pos rfl]; exact ltake4_any b s n w h hi h1 h2
  rw [if_neg k4]
  by_cases k5 : k = 5
  · subst k5; rw [if_pos rfl]; exact ltake5_any b s n w h
  rw [if_neg k5]
  exact ltake0_any b s k n w h k1 k2 k3 k4 k5
end Go.Proofs.Ytphcbnbpbgmplaa
