/- The contract of a node's Split, of two entries or kids and more. -/
import Derived.Test.YtochaiinofhdhaaNPart
import Derived.Sort.AtCall
namespace Go.Proofs.Ytochaiinofhdhaa
open Go.RowKit
set_option linter.unusedVariables false
set_option maxRecDepth 100000

theorem below_made4 {w : World} (o : Obj) (a b c d : Value) : Below w.heap.size w (put4 (w.alloc o) w.heap.size a b c d) :=
  ((((below_box o).setCell (p := ⟨w.heap.size, 0, none⟩) (Nat.le_refl _) a).setCell (p := ⟨w.heap.size, 1, none⟩) (Nat.le_refl _) b).setCell (p := ⟨w.heap.size, 2, none⟩) (Nat.le_refl _) c).setCell (p := ⟨w.heap.size, 3, none⟩) (Nat.le_refl _) d
theorem Reg.own {w0 w1 : World} {X : Nat → Prop} {base : Nat} {e : TypeId} {size : Nat} {v : Value} {n : Nat} {xs : List Value} (hr : Reg w0 X w1) (hX : ∀ k, X k → k < base) (h : w0.ownsRow base e size v n xs) : w1.ownsRow base e size v n xs :=
  ownsRow_same h fun k hk => by
    have h1 := h.lt k hk
    exact hr.keep k h1.2 (fun hx => by have := hX k hx; omega)
theorem NdOwn.reg {w0 w1 : World} {X : Nat → Prop} {base : Nat} {v : Value} {n : Nd} (h : NdOwn base w0 v n) (hr : Reg w0 X w1) (hX : ∀ k, X k → k < base) : NdOwn base w1 v n := by
  obtain ⟨k, u, d, e, h1, h2, h3⟩ := h.rows
  exact ⟨k, u, d, e, hr.own hX h1, hr.own hX h2, hr.own hX h3⟩
theorem NdOwn.later {base : Nat} {w w' : World} {v : Value} {n : Nd} (h : NdOwn base w v n) (hb : Below w.heap.size w w') : NdOwn base w' v n := by
  obtain ⟨k, u, d, e, h1, h2, h3⟩ := h.rows
  exact ⟨k, u, d, e, ownsRow_below h1 hb, ownsRow_below h2 hb, ownsRow_below h3 hb⟩
theorem NdOwn.less {base base' : Nat} {w : World} {v : Value} {n : Nd} (h : NdOwn base w v n) (hb : base' ≤ base) : NdOwn base' w v n := by
  obtain ⟨k, u, d, e, h1, h2, h3⟩ := h.rows
  exact ⟨k, u, d, e, ownsRow_less h1 hb, ownsRow_less h2 hb, ownsRow_less h3 hb⟩
theorem NdOwn.put4 {base : Nat} {w : World} {v : Value} {n : Nd} (h : NdOwn base w v n) {N : Nat} (hN : N < base) (a b c d : Value) : NdOwn base (put4 w N a b c d) v n := by
  obtain ⟨k, u, d', e, h1, h2, h3⟩ := h.rows
  exact ⟨k, u, d', e, ownsRow_put4 h1 hN _ _ _ _, ownsRow_put4 h2 hN _ _ _ _, ownsRow_put4 h3 hN _ _ _ _⟩
theorem NdOwn.shape {base : Nat} {w : World} {v : Value} {n : Nd} (h : NdOwn base w v n) : ∃ ka kc ua uc da dc, v = .agg #[.bool n.leaf, .slice ka n.keys.length kc, .slice ua n.vals.length uc, .slice da n.kids.length dc] := by
  obtain ⟨k, u, d, e, h1, h2, h3⟩ := h.rows
  obtain ⟨ka, kc, rfl, _⟩ := ownsRow_slice h1
  obtain ⟨ua, uc, rfl, _⟩ := ownsRow_slice h2
  obtain ⟨da, dc, rfl, _⟩ := ownsRow_slice h3
  exact ⟨ka, kc, ua, uc, da, dc, e⟩
theorem Reg.put2 {w0 w : World} {X : Nat → Prop} (h : Reg w0 X w) {N M : Nat} (hN : X N) (hM : X M) (hne : N ≠ M) (a b c d a' b' c' d' : Value) :
    ∃ t t', (put4 (put4 w N a b c d) M a' b' c' d').heap[N]? = some (.cells #[a, b, c, d] t (0, 0)) ∧ (put4 (put4 w N a b c d) M a' b' c' d').heap[M]? = some (.cells #[a', b', c', d'] t' (0, 0)) := by
  obtain ⟨_, a0, b0, c0, d0, t, e⟩ := h.box N hN
  obtain ⟨_, a1, b1, c1, d1, t', e'⟩ := h.box M hM
  refine ⟨t, t', ?_, ?_⟩
  · rw [put4_other _ _ _ _ hne]; exact put4_same e
  · exact put4_same (a := a1) (b := b1) (c := c1) (d := d1) (by rw [put4_other _ _ _ _ hne.symm]; exact e')
theorem cells4 {w : World} {N : Nat} {a b c d : Value} {t : TypeId} (h : w.heap[N]? = some (.cells #[a, b, c, d] t (0, 0))) : w.cell? ⟨N, 0, none⟩ = some a ∧ w.cell? ⟨N, 1, none⟩ = some b ∧ w.cell? ⟨N, 2, none⟩ = some c ∧ w.cell? ⟨N, 3, none⟩ = some d := by
  refine ⟨?_, ?_, ?_, ?_⟩ <;> rw [block_cell h] <;> rfl

def Nd.half (n : Nd) : Nat := (n.len + 1) / 2
def Nd.key (n : Nd) : List UInt8 := if n.leaf then n.keys.getD n.half [] else n.keys.getD (n.half - 1) []
/- A node whose lists are as long as they should be. -/
def Nd.fine (n : Nd) : Prop := n.small ∧ if n.leaf then n.vals.length = n.keys.length ∧ n.kids = [] else n.keys.length = n.kids.length - 1 ∧ n.vals = []
theorem Nd.whole_fine (n : Nd) (h : n.fine) : n.whole = n := by
  obtain ⟨lf, ks, vs, ds⟩ := n
  obtain ⟨_, h⟩ := h
  cases lf
  · simp only [Bool.false_eq_true, if_false] at h
    unfold Nd.whole
    simp only [Bool.false_eq_true, if_false]
    rw [← h.1, fitL_self, h.2]
  · simp only [if_true] at h
    unfold Nd.whole
    simp only [if_true]
    rw [← h.1, fitL_self, h.2]

theorem three_low (w : World) (o1 o2 o3 : Obj) : Below w.heap.size w (((w.alloc o1).alloc o2).alloc o3) := (((Below.refl _ _).alloc (Nat.le_refl _) _).alloc (by simp) _).alloc (by simp; omega) _

theorem three_blocks (w : World) (o1 o2 o3 : Obj) : (((w.alloc o1).alloc o2).alloc o3).heap[w.heap.size]? = some o1 ∧ (((w.alloc o1).alloc o2).alloc o3).heap[w.heap.size + 1]? = some o2 ∧ (((w.alloc o1).alloc o2).alloc o3).heap[w.heap.size + 1 + 1]? = some o3 := by
  refine ⟨?_, ?_, ?_⟩
  · exact (Below.heap_alloc _ _ _ (by simp; omega)).trans ((Below.heap_alloc _ _ _ (by simp)).trans (heap_alloc_new w _))
  · rw [Below.heap_alloc _ _ _ (by simp)]
    have := heap_alloc_new (w.alloc o1) o2
    rwa [World.size_alloc] at this
  · have := heap_alloc_new ((w.alloc o1).alloc o2) o3
    rwa [World.size_alloc, World.size_alloc] at this

set_option maxHeartbeats 12800000 in
theorem split_any {w : World} {v : Value} {n : Nd} (h : NdAt w v n) (hf : n.fine) (hl : 2 ≤ n.len) :
    Calls Try.prog 33 #[v] w fun e w' => ∃ va vb, e = .returned (.tuple #[va, .string (S n.key), vb]) ∧ NdOwn w.heap.size w' va (n.part 0 n.half) ∧ NdOwn w.heap.size w' vb (n.part n.half n.len) ∧ Below w.heap.size w w' := by
  have HW := hide (fun (o1 o2 o3 : Obj) => by
    have := whole_any (h.later (three_low w o1 o2 o3)) hf.1
    rw [n.whole_fine hf] at this
    exact this)
  obtain ⟨k, u, d, rfl, h1, h2, h3⟩ := h.rows
  obtain ⟨ka0, kc0, rfl, _⟩ := h1.shape
  obtain ⟨ua0, uc0, rfl, _⟩ := h2.shape
  obtain ⟨da0, dc0, rfl, _⟩ := h3.shape
  rw [T9_length, T9_length, I9_length] at HW ⊢
  clear h h1 h2 h3
  obtain ⟨H, hH⟩ : ∃ H, n.half = H := ⟨_, rfl⟩
  obtain ⟨A, hA⟩ : ∃ A, n.part 0 H = A := ⟨_, rfl⟩
  obtain ⟨C, hC⟩ : ∃ C, n.part H n.len = C := ⟨_, rfl⟩
  obtain ⟨x, hx⟩ : ∃ x, n.key = x := ⟨_, rfl⟩
  rw [hH, hA, hC, hx]
  go_enter Try.func33, Try.ntmps33
  go_wp2_with fail
  refine (unhide HW _ _ _).mono ?_
  rintro e w1 ⟨v1, rfl, ho1, hb1⟩
  obtain ⟨ka, kc, ua, uc, da, dc, rfl⟩ := ho1.shape
  have HO1 := hide ho1
  have HB1 := hide hb1
  have HALL : Hid (∀ wq, Below (w1.heap.size + 1) (w1.alloc (.cells #[.bool n.leaf, .slice ka n.keys.length kc, .slice ua n.vals.length uc, .slice da n.kids.length dc] 25)) wq →
      (wq.heap[w1.heap.size]? = some (.cells #[.bool n.leaf, .slice ka n.keys.length kc, .slice ua n.vals.length uc, .slice da n.kids.length dc] 25 (0, 0))) ∧ wq.cell? ⟨w.heap.size, 0, none⟩ = some (.bool n.leaf) ∧
      (∃ a b c d t, wq.heap[w.heap.size + 1]? = some (.cells #[a, b, c, d] t (0, 0))) ∧ (∃ a b c d t, wq.heap[w.heap.size + 1 + 1]? = some (.cells #[a, b, c, d] t (0, 0))) ∧
      NdOwn (w.heap.size + 3) wq (.agg #[.bool n.leaf, .slice ka n.keys.length kc, .slice ua n.vals.length uc, .slice da n.kids.length dc]) n ∧ Below w.heap.size w wq) := fun wq hq => by
    have hsz := hb1.size
    simp only [World.size_alloc] at hsz
    have hbb := below_box (w := w1) (.cells #[.bool n.leaf, .slice ka n.keys.length kc, .slice ua n.vals.length uc, .slice da n.kids.length dc] 25)
    have hq1 : Below w1.heap.size w1 wq := hbb.trans (hq.mono (by omega))
    have hk : ∀ k, k < w.heap.size + 1 + 1 + 1 → wq.heap[k]? = (((w.alloc (.cells #[.bool n.leaf, .slice ka0 n.keys.length kc0, .slice ua0 n.vals.length uc0, .slice da0 n.kids.length dc0] 25)).alloc (.cells #[.bool false, .slice none 0 0, .slice none 0 0, .slice none 0 0] 25)).alloc (.cells #[.bool false, .slice none 0 0, .slice none 0 0, .slice none 0 0] 25)).heap[k]? := fun k hk => (hq1.block k (by omega)).trans (hb1.block k (by simp only [World.size_alloc]; omega))
    refine ⟨?_, ?_, ?_, ?_, ?_, ?_⟩
    · exact (hq.block w1.heap.size (by omega)).trans (heap_alloc_new w1 _)
    · have h0 := (hk w.heap.size (by omega)).trans (three_blocks w _ _ _).1
      rw [block_cell h0]
      rfl
    · have h0 := (hk (w.heap.size + 1) (by omega)).trans (three_blocks w _ _ _).2.1
      exact ⟨_, _, _, _, _, h0⟩
    · have h0 := (hk (w.heap.size + 1 + 1) (by omega)).trans (three_blocks w _ _ _).2.2
      exact ⟨_, _, _, _, _, h0⟩
    · have h3 := (ho1.later hq1)
      simp only [World.size_alloc] at h3
      exact h3.less (by omega)
    · exact ⟨hq1.os.trans hb1.os, hq1.tape.trans hb1.tape, hq1.output.trans hb1.output, by have := hq1.size; omega, fun k hk' => (hk k (by omega)).trans (by rw [Below.heap_alloc _ _ _ (by simp; omega), Below.heap_alloc _ _ _ (by simp; omega), Below.heap_alloc _ _ _ (by omega)])⟩
  have hs1 := hb1.size
  simp only [World.size_alloc] at hs1
  clear HW ho1 hb1
  have h2 : ¬ ((n.len : Nat) : Int) < 2 := by omega
  have hH2 : H = (n.len + 1) / 2 := hH.symm
  have hlb : n.len ≤ 1000 := by
    obtain ⟨h1, h2, h3⟩ := hf.1
    unfold Nd.len
    split <;> omega
  have hw1 : IntKind.i64.wrap (((n.len : Nat) : Int) + 1) = ((n.len : Nat) : Int) + 1 := by rw [IntKind.wrap_i64]; omega
  have hq1 : (((n.len : Nat) : Int) + 1) / 2 = (H : Int) := by omega
  have hw2 : IntKind.i64.wrap ((H : Int) - 1) = ((H - 1 : Nat) : Int) := by rw [IntKind.wrap_i64]; omega
  have hkl : H - 1 < n.keys.length ∧ (n.leaf = true → H < n.keys.length) := by
    have hf2 := hf.2
    unfold Nd.len at hl hlb hH2
    cases hlf : n.leaf <;> simp only [hlf, if_true, if_false, Bool.false_eq_true] at hf2 hl hH2
    · exact ⟨by omega, by simp⟩
    · exact ⟨by omega, fun _ => by omega⟩
  have hi0 : (0 : Int) ≤ ((H - 1 : Nat) : Int) := by omega
  have hi1 : ((H - 1 : Nat) : Int) < ((n.keys.length : Nat) : Int) := by omega
  have hi2 : (0 : Int) ≤ (H : Int) := by omega
  go_wp2_with fail
  refine (nlen_any ((unhide HO1).at.later (below_box _))).mono ?_
  rintro e w3 ⟨rfl, hb3⟩
  rw [World.size_alloc] at hb3
  have hs3 := hb3.size
  rw [World.size_alloc] at hs3
  obtain ⟨hm3, hz3, _, _, ho3, _⟩ := unhide HALL w3 hb3
  obtain ⟨p0, p1, p2, p3⟩ := cells4 hm3
  have HO3 := hide ho3
  clear hm3 ho3
  go_wp2_with fail
  refine (nlen_any (unhide HO3).at).mono ?_
  rintro e w4 ⟨rfl, hb4⟩
  have hb34 := hb3.trans (hb4.mono hs3)
  obtain ⟨hm4, hz4, hx1, hx2, ho4, hlow4⟩ := unhide HALL w4 hb34
  clear p0 p1 p2 p3 hz3 hb3 hb4 hb34 HO3 HO1 HB1 HALL
  obtain ⟨p0, p1, p2, p3⟩ := cells4 hm4
  obtain ⟨kb, hkb⟩ : ∃ kb, ka = some ⟨kb, 0, none⟩ ∧ ∀ j (hj : j < n.keys.length), w4.cell? ⟨kb, j, none⟩ = some (.string (S (n.keys[j]'hj))) := by
    obtain ⟨k, u, d, e, h1, _, _⟩ := ho4.rows
    injection e with e
    injection e with e
    simp only [List.cons.injEq] at e
    obtain ⟨_, rfl, _⟩ := e
    obtain ⟨a, c, e2, _, hg⟩ : ∃ a c, Value.slice ka n.keys.length kc = .slice a n.keys.length c ∧ True ∧ (n.keys.length ≠ 0 → ∃ g, a = some ⟨g, 0, none⟩) := by
      obtain ⟨a, c, e, hg⟩ := ownsRow_slice h1
      exact ⟨a, c, e, trivial, hg⟩
    injection e2 with e2 _ e3
    subst e2 e3
    obtain ⟨g, rfl⟩ := hg (by omega)
    refine ⟨g, rfl, fun j hj => ?_⟩
    rw [h1.cellAt j (by omega)]
    simp [T9, hj]
  obtain ⟨rfl, hkc⟩ := hkb
  have hk1 := hkc (H - 1) hkl.1
  have hlen2 : n.half < n.len := by rw [hH]; omega
  have hpj : ∀ j, 0 < j → j ≤ n.len → if n.leaf then j ≤ n.keys.length ∧ j ≤ n.vals.length else j ≤ n.kids.length ∧ j - 1 ≤ n.keys.length := fun j hj0 hj => by
    have hf2 := hf.2
    unfold Nd.len at hj
    split at hj
    · rename_i hlf
      rw [if_pos hlf] at hf2 ⊢
      omega
    · rename_i hlf
      rw [if_neg hlf] at hf2 ⊢
      omega
  obtain ⟨X, hX⟩ : ∃ X : Nat → Prop, X = fun k => k = w.heap.size + 1 ∨ k = w.heap.size + 1 + 1 := ⟨_, rfl⟩
  have hX1 : X (w.heap.size + 1) := by rw [hX]; exact Or.inl rfl
  have hX2 : X (w.heap.size + 1 + 1) := by rw [hX]; exact Or.inr rfl
  have hXB : ∀ k, X k → k < w.heap.size + 3 := by rw [hX]; intro k hk; omega
  have hXL : ∀ k, X k → w.heap.size ≤ k := by rw [hX]; intro k hk; omega
  have hXM : ¬ X w1.heap.size := by
    rw [hX]
    intro hk
    omega
  have hst : Reg w4 X w4.drew := (Reg.start (by
    rw [hX]
    rintro k (rfl | rfl)
    · exact hx1
    · exact hx2)).drew
  have hw4 : w.heap.size + 3 ≤ w4.heap.size := by
    obtain ⟨a, b, c, d, t, e⟩ := hx2
    have := block_lt e
    omega
  have g0 : ∀ wr, Reg w4 X wr → wr.cell? ⟨w1.heap.size, 0, none⟩ = some (.bool n.leaf) := fun wr hr => hr.cell hXM p0
  have g1 : ∀ wr, Reg w4 X wr → wr.cell? ⟨w1.heap.size, 1, none⟩ = some (.slice (some ⟨kb, 0, none⟩) n.keys.length kc) := fun wr hr => hr.cell hXM p1
  have g2 : ∀ wr, Reg w4 X wr → wr.cell? ⟨w1.heap.size, 2, none⟩ = some (.slice ua n.vals.length uc) := fun wr hr => hr.cell hXM p2
  have g3 : ∀ wr, Reg w4 X wr → wr.cell? ⟨w1.heap.size, 3, none⟩ = some (.slice da n.kids.length dc) := fun wr hr => hr.cell hXM p3
  have a0 : ∀ wr, Reg w4 X wr → wr.cell? ⟨w.heap.size + 1, 0, none⟩ = some (valAt wr (w.heap.size + 1) 0) := fun wr hr => (hr.there hX1).1
  have a1 : ∀ wr, Reg w4 X wr → wr.cell? ⟨w.heap.size + 1, 1, none⟩ = some (valAt wr (w.heap.size + 1) 1) := fun wr hr => (hr.there hX1).2.1
  have a2 : ∀ wr, Reg w4 X wr → wr.cell? ⟨w.heap.size + 1, 2, none⟩ = some (valAt wr (w.heap.size + 1) 2) := fun wr hr => (hr.there hX1).2.2.1
  have a3 : ∀ wr, Reg w4 X wr → wr.cell? ⟨w.heap.size + 1, 3, none⟩ = some (valAt wr (w.heap.size + 1) 3) := fun wr hr => (hr.there hX1).2.2.2
  have b0 : ∀ wr, Reg w4 X wr → wr.cell? ⟨w.heap.size + 1 + 1, 0, none⟩ = some (valAt wr (w.heap.size + 1 + 1) 0) := fun wr hr => (hr.there hX2).1
  have b1 : ∀ wr, Reg w4 X wr → wr.cell? ⟨w.heap.size + 1 + 1, 1, none⟩ = some (valAt wr (w.heap.size + 1 + 1) 1) := fun wr hr => (hr.there hX2).2.1
  have b2 : ∀ wr, Reg w4 X wr → wr.cell? ⟨w.heap.size + 1 + 1, 2, none⟩ = some (valAt wr (w.heap.size + 1 + 1) 2) := fun wr hr => (hr.there hX2).2.2.1
  have b3 : ∀ wr, Reg w4 X wr → wr.cell? ⟨w.heap.size + 1 + 1, 3, none⟩ = some (valAt wr (w.heap.size + 1 + 1) 3) := fun wr hr => (hr.there hX2).2.2.2
  have f1 : ∀ wr j, Reg w4 X wr → wr.frozen? ⟨w.heap.size + 1, j, none⟩ = false := fun wr j hr => hr.frozen hX1 j
  have f2 : ∀ wr j, Reg w4 X wr → wr.frozen? ⟨w.heap.size + 1 + 1, j, none⟩ = false := fun wr j hr => hr.frozen hX2 j
  have HND : Hid (∀ wr, Reg w4 X wr → NdAt wr (.agg #[.bool n.leaf, .slice (some ⟨kb, 0, none⟩) n.keys.length kc, .slice ua n.vals.length uc, .slice da n.kids.length dc]) n) := fun wr hr => (ho4.reg hr hXB).at
  have HLOW : Hid (∀ wr, Reg w4 X wr → Below w.heap.size w wr) := fun wr hr => hr.low hlow4 hXL (by omega)
  have HPA := hide (fun (wr : World) (hr : Reg w4 X wr) => part_any (unhide HND wr hr) hf.1 0 H (by omega) (hpj H (by omega) (by omega)))
  have ez : ((0 : Nat) : Int) = 0 := rfl
  rw [ez] at HPA
  clear ez
  have HPB := hide (fun (wr : World) (hr : Reg w4 X wr) => part_any (unhide HND wr hr) hf.1 H n.len (by rw [← hH]; exact hlen2) (hpj n.len (by omega) (Nat.le_refl _)))
  have HXX : Hid (∀ N, N = w.heap.size + 1 ∨ N = w.heap.size + 1 + 1 → X N) := fun N hN => by rw [hX]; exact hN
  obtain ⟨y, hy⟩ : ∃ y, n.keys[H - 1]'hkl.1 = y := ⟨_, rfl⟩
  rw [hy] at hk1
  rw [hA] at HPA
  rw [hC] at HPB
  cases hlf : n.leaf
  · have hkey : n.key = y := by
      unfold Nd.key
      rw [hlf, hH]
      simp only [Bool.false_eq_true, if_false]
      rw [← hy]
      simp [List.getD, hkl.1]
    have hxy := hx.symm.trans hkey
    subst hxy
    rw [hlf] at hz4 p0 g0 HND HPA HPB
    clear hx hkey hy hA hC hH hkc hf hx1 hx2 ho4 hm4 hlow4 hpj hX hXB hXL hX1 hX2 hH2 hlen2 hkl
    go_wp2_with fail
    go_region_held3 (fun w' => Reg w4 X w') (with_reducible (first | exact hst | (refine Reg.below ?_ (by assumption) <;> assumption) | (refine Reg.put (by assumption) _ ?_ _ _ _ _; exact unhide HXX _ (by omega))))
      (first
        | (go_at_call 16; refine (nlen_any (unhide HND _ (by assumption))).mono ?_; rintro e wl ⟨rfl, hbl⟩)
        | (go_at_call_has 65 (Value.int .i64 0); refine (unhide HPA _ (by assumption)).mono ?_; rintro e wa ⟨va, rfl, hoa, hba⟩; obtain ⟨aka, akc, aua, auc, ada, adc, rfl⟩ := hoa.shape; have HOA := hide (hoa.less (Reg.size (by assumption))); clear hoa)
        | (go_at_call_has 65 (Value.int .i64 ((n.len : Nat) : Int)); refine (unhide HPB _ (by assumption)).mono ?_; rintro e wb ⟨vb, rfl, hob, hbb⟩; obtain ⟨bka, bkc, bua, buc, bda, bdc, rfl⟩ := hob.shape; have HOB := hide (hob.less (Reg.size (by assumption))); have hrb := Reg.below (by assumption) hbb; clear hob)
        | fail)
    all_goals
      have hfin := unhide HLOW _ (by assumption)
      go_wp2_with fail
      obtain ⟨tt, tt', e1, e2⟩ := hrb.put2 (unhide HXX _ (Or.inl rfl)) (unhide HXX _ (Or.inr rfl)) (by omega) (.bool A.leaf) (.slice aka A.keys.length akc) (.slice aua A.vals.length auc) (.slice ada A.kids.length adc) (.bool C.leaf) (.slice bka C.keys.length bkc) (.slice bua C.vals.length buc) (.slice bda C.kids.length bdc)
      obtain ⟨q0, q1, q2, q3⟩ := cells4 e1
      obtain ⟨r0, r1, r2, r3⟩ := cells4 e2
      have hra := (((((unhide HOA).later hbl).later hbb).put4 (show w.heap.size + 1 < _ by omega) (.bool A.leaf) (.slice aka A.keys.length akc) (.slice aua A.vals.length auc) (.slice ada A.kids.length adc)).put4 (show w.heap.size + 1 + 1 < _ by omega) (.bool C.leaf) (.slice bka C.keys.length bkc) (.slice bua C.vals.length buc) (.slice bda C.kids.length bdc)).less (show w.heap.size ≤ _ by omega)
      have hrc := (((unhide HOB).put4 (show w.heap.size + 1 < _ by omega) (.bool A.leaf) (.slice aka A.keys.length akc) (.slice aua A.vals.length auc) (.slice ada A.kids.length adc)).put4 (show w.heap.size + 1 + 1 < _ by omega) (.bool C.leaf) (.slice bka C.keys.length bkc) (.slice bua C.vals.length buc) (.slice bda C.kids.length bdc)).less (show w.heap.size ≤ _ by omega)
      unfold Go.Proofs.Ytochaiinofhdhaa.put4 at q0 q1 q2 q3 r0 r1 r2 r3 hra hrc
      exact bodyPost_ret (v := .tuple #[.agg #[.bool A.leaf, .slice aka A.keys.length akc, .slice aua A.vals.length auc, .slice ada A.kids.length adc], .string (S x), .agg #[.bool C.leaf, .slice bka C.keys.length bkc, .slice bua C.vals.length buc, .slice bda C.kids.length bdc]]) (by simp [results, Try.results33, go_sem, q0, q1, q2, q3, r0, r1, r2, r3]) rfl ⟨_, _, rfl, hra, hrc, hfin⟩
  · have hkH := hkl.2 hlf
    have hk2 := hkc H hkH
    obtain ⟨z, hz⟩ : ∃ z, n.keys[H]'hkH = z := ⟨_, rfl⟩
    rw [hz] at hk2
    have hi3 : (H : Int) < ((n.keys.length : Nat) : Int) := by omega
    have hkey : n.key = z := by
      unfold Nd.key
      rw [hlf, hH]
      simp only [if_true]
      rw [← hz]
      simp [List.getD, hkH]
    have hxy := hx.symm.trans hkey
    subst hxy
    rw [hlf] at hz4 p0 g0 HND HPA HPB
    clear hx hkey hy hA hC hH hkc hf hx1 hx2 ho4 hm4 hlow4 hpj hX hXB hXL hX1 hX2 hH2 hlen2 hkl hz hkH
    go_wp2_with fail
    go_region_held3 (fun w' => Reg w4 X w') (with_reducible (first | exact hst | (refine Reg.below ?_ (by assumption) <;> assumption) | (refine Reg.put (by assumption) _ ?_ _ _ _ _; exact unhide HXX _ (by omega))))
      (first
        | (go_at_call 16; refine (nlen_any (unhide HND _ (by assumption))).mono ?_; rintro e wl ⟨rfl, hbl⟩)
        | (go_at_call_has 65 (Value.int .i64 0); refine (unhide HPA _ (by assumption)).mono ?_; rintro e wa ⟨va, rfl, hoa, hba⟩; obtain ⟨aka, akc, aua, auc, ada, adc, rfl⟩ := hoa.shape; have HOA := hide (hoa.less (Reg.size (by assumption))); clear hoa)
        | (go_at_call_has 65 (Value.int .i64 ((n.len : Nat) : Int)); refine (unhide HPB _ (by assumption)).mono ?_; rintro e wb ⟨vb, rfl, hob, hbb⟩; obtain ⟨bka, bkc, bua, buc, bda, bdc, rfl⟩ := hob.shape; have HOB := hide (hob.less (Reg.size (by assumption))); have hrb := Reg.below (by assumption) hbb; clear hob)
        | fail)
    all_goals
      have hfin := unhide HLOW _ (by assumption)
      go_wp2_with fail
      obtain ⟨tt, tt', e1, e2⟩ := hrb.put2 (unhide HXX _ (Or.inl rfl)) (unhide HXX _ (Or.inr rfl)) (by omega) (.bool A.leaf) (.slice aka A.keys.length akc) (.slice aua A.vals.length auc) (.slice ada A.kids.length adc) (.bool C.leaf) (.slice bka C.keys.length bkc) (.slice bua C.vals.length buc) (.slice bda C.kids.length bdc)
      obtain ⟨q0, q1, q2, q3⟩ := cells4 e1
      obtain ⟨r0, r1, r2, r3⟩ := cells4 e2
      have hra := (((((unhide HOA).later hbl).later hbb).put4 (show w.heap.size + 1 < _ by omega) (.bool A.leaf) (.slice aka A.keys.length akc) (.slice aua A.vals.length auc) (.slice ada A.kids.length adc)).put4 (show w.heap.size + 1 + 1 < _ by omega) (.bool C.leaf) (.slice bka C.keys.length bkc) (.slice bua C.vals.length buc) (.slice bda C.kids.length bdc)).less (show w.heap.size ≤ _ by omega)
      have hrc := (((unhide HOB).put4 (show w.heap.size + 1 < _ by omega) (.bool A.leaf) (.slice aka A.keys.length akc) (.slice aua A.vals.length auc) (.slice ada A.kids.length adc)).put4 (show w.heap.size + 1 + 1 < _ by omega) (.bool C.leaf) (.slice bka C.keys.length bkc) (.slice bua C.vals.length buc) (.slice bda C.kids.length bdc)).less (show w.heap.size ≤ _ by omega)
      unfold Go.Proofs.Ytochaiinofhdhaa.put4 at q0 q1 q2 q3 r0 r1 r2 r3 hra hrc
      exact bodyPost_ret (v := .tuple #[.agg #[.bool A.leaf, .slice aka A.keys.length akc, .slice aua A.vals.length auc, .slice ada A.kids.length adc], .string (S x), .agg #[.bool C.leaf, .slice bka C.keys.length bkc, .slice bua C.vals.length buc, .slice bda C.kids.length bdc]]) (by simp [results, Try.results33, go_sem, q0, q1, q2, q3, r0, r1, r2, r3]) rfl ⟨_, _, rfl, hra, hrc, hfin⟩
end Go.Proofs.Ytochaiinofhdhaa
