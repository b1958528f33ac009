/- Texts that this proof needs, one behind the other: CRefTake, CRefTakeU, CRefTakeR. -/
import Derived.Test.YtgeibmlhmljhpaaDoorBundleC10
import Derived.Deep.RegionWith
/- The contracts of the reference's take, TakeU, TakeI, TakeN, TakeS, Fail, End: the same plain functions, as long as nothing is left beside an error. -/
namespace Go.Proofs.YtgeibmlhmljhpaaDoor
open Go.RowKit
set_option linter.unusedVariables false
set_option maxRecDepth 100000

theorem belowCells {W w1 : World} (hb : Below W.heap.size W w1) : (∀ b o, b < W.heap.size → w1.cell? ⟨b, o, none⟩ = W.cell? ⟨b, o, none⟩) ∧ (∀ b o, b < W.heap.size → w1.frozen? ⟨b, o, none⟩ = W.frozen? ⟨b, o, none⟩) :=
  ⟨fun b o h => hb.cell (p := ⟨b, o, none⟩) h, fun b o h => hb.frozen (p := ⟨b, o, none⟩) h⟩

/- Two boxes of two cells, and a call behind them that leaves them as they are. -/
structure Two (w w1 : World) (a0 a1 b0 b1 : Value) : Prop where
  c0 : w1.cell? ⟨w.heap.size, 0, none⟩ = some a0
  c1 : w1.cell? ⟨w.heap.size, 1, none⟩ = some a1
  d0 : w1.cell? ⟨w.heap.size + 1, 0, none⟩ = some b0
  d1 : w1.cell? ⟨w.heap.size + 1, 1, none⟩ = some b1
  f0 : w1.frozen? ⟨w.heap.size, 0, none⟩ = false
  f1 : w1.frozen? ⟨w.heap.size, 1, none⟩ = false
  g0 : w1.frozen? ⟨w.heap.size + 1, 0, none⟩ = false
  g1 : w1.frozen? ⟨w.heap.size + 1, 1, none⟩ = false
  size : w.heap.size + 2 ≤ w1.heap.size
  below : Below w.heap.size w w1
theorem two_boxes {w w1 : World} {a0 a1 b0 b1 : Value} {t u : TypeId} (hb : Below ((w.alloc (Obj.cells #[a0, a1] t)).alloc (Obj.cells #[b0, b1] u)).heap.size ((w.alloc (Obj.cells #[a0, a1] t)).alloc (Obj.cells #[b0, b1] u)) w1) : Two w w1 a0 a1 b0 b1 := by
  refine ⟨?_, ?_, ?_, ?_, ?_, ?_, ?_, ?_, ?_, ?_⟩
  · rw [hb.cell (p := ⟨w.heap.size, 0, none⟩) (by simp; omega)]; simp
  · rw [hb.cell (p := ⟨w.heap.size, 1, none⟩) (by simp; omega)]; simp
  · rw [hb.cell (p := ⟨w.heap.size + 1, 0, none⟩) (by simp)]; simp
  · rw [hb.cell (p := ⟨w.heap.size + 1, 1, none⟩) (by simp)]; simp
  · rw [hb.frozen (p := ⟨w.heap.size, 0, none⟩) (by simp; omega)]; simp
  · rw [hb.frozen (p := ⟨w.heap.size, 1, none⟩) (by simp; omega)]; simp
  · rw [hb.frozen (p := ⟨w.heap.size + 1, 0, none⟩) (by simp)]; simp
  · rw [hb.frozen (p := ⟨w.heap.size + 1, 1, none⟩) (by simp)]; simp
  · have := hb.size; simp at this; omega
  · exact (((Below.refl _ _).alloc (Nat.le_refl _) _).alloc (by simp) _).trans (hb.mono (by simp; omega))
theorem Two.later {w w1 w2 : World} {a0 a1 b0 b1 : Value} (h : Two w w1 a0 a1 b0 b1) (hb : Below w1.heap.size w1 w2) : Two w w2 a0 a1 b0 b1 := by
  have hs := h.size
  refine ⟨?_, ?_, ?_, ?_, ?_, ?_, ?_, ?_, ?_, ?_⟩
  · rw [hb.cell (p := ⟨w.heap.size, 0, none⟩) (by simp; omega)]; exact h.c0
  · rw [hb.cell (p := ⟨w.heap.size, 1, none⟩) (by simp; omega)]; exact h.c1
  · rw [hb.cell (p := ⟨w.heap.size + 1, 0, none⟩) (by simp; omega)]; exact h.d0
  · rw [hb.cell (p := ⟨w.heap.size + 1, 1, none⟩) (by simp; omega)]; exact h.d1
  · rw [hb.frozen (p := ⟨w.heap.size, 0, none⟩) (by simp; omega)]; exact h.f0
  · rw [hb.frozen (p := ⟨w.heap.size, 1, none⟩) (by simp; omega)]; exact h.f1
  · rw [hb.frozen (p := ⟨w.heap.size + 1, 0, none⟩) (by simp; omega)]; exact h.g0
  · rw [hb.frozen (p := ⟨w.heap.size + 1, 1, none⟩) (by simp; omega)]; exact h.g1
  · have := hb.size; omega
  · exact h.below.trans (hb.mono (by omega))
theorem Two.put {w w1 : World} {a0 a1 b0 b1 : Value} (h : Two w w1 a0 a1 b0 b1) (x y : Value) : Two w ((w1.setCell ⟨w.heap.size, 0, none⟩ x).setCell ⟨w.heap.size, 1, none⟩ y) x y b0 b1 := by
  have hs := h.size
  have c0 := h.c0
  have c1 := h.c1
  have d0 := h.d0
  have d1 := h.d1
  have f0 := h.f0
  have f1 := h.f1
  have g0 := h.g0
  have g1 := h.g1
  refine ⟨?_, ?_, ?_, ?_, ?_, ?_, ?_, ?_, ?_, ?_⟩
  · simp [World.cell?_setCell_same _ _ _ c0, World.cell?_setCell_other]
  · have k1 : (w1.setCell ⟨w.heap.size, 0, none⟩ x).cell? ⟨w.heap.size, 1, none⟩ = some a1 := by rw [World.cell?_setCell_other _ _ _ _ (by simp)]; exact c1
    rw [World.cell?_setCell_same _ _ _ k1]
  · rw [World.cell?_setCell_other _ _ _ _ (by simp), World.cell?_setCell_other _ _ _ _ (by simp)]; exact d0
  · rw [World.cell?_setCell_other _ _ _ _ (by simp), World.cell?_setCell_other _ _ _ _ (by simp)]; exact d1
  · rw [World.frozen?_setCell, World.frozen?_setCell]; exact f0
  · rw [World.frozen?_setCell, World.frozen?_setCell]; exact f1
  · rw [World.frozen?_setCell, World.frozen?_setCell]; exact g0
  · rw [World.frozen?_setCell, World.frozen?_setCell]; exact g1
  · simpa using hs
  · exact (h.below.setCell (p := ⟨w.heap.size, 0, none⟩) (Nat.le_refl _) _).setCell (p := ⟨w.heap.size, 1, none⟩) (Nat.le_refl _) _

theorem Two.out {w w1 : World} {a0 a1 b0 b1 : Value} (h : Two w w1 a0 a1 b0 b1) (x y : Value) : Two w ((w1.setCell ⟨w.heap.size + 1, 0, none⟩ x).setCell ⟨w.heap.size + 1, 1, none⟩ y) a0 a1 x y := by
  have hs := h.size
  have c0 := h.c0
  have c1 := h.c1
  have d0 := h.d0
  have d1 := h.d1
  have f0 := h.f0
  have f1 := h.f1
  have g0 := h.g0
  have g1 := h.g1
  refine ⟨?_, ?_, ?_, ?_, ?_, ?_, ?_, ?_, ?_, ?_⟩
  · rw [World.cell?_setCell_other _ _ _ _ (by simp), World.cell?_setCell_other _ _ _ _ (by simp)]; exact c0
  · rw [World.cell?_setCell_other _ _ _ _ (by simp), World.cell?_setCell_other _ _ _ _ (by simp)]; exact c1
  · simp [World.cell?_setCell_same _ _ _ d0, World.cell?_setCell_other]
  · have k1 : (w1.setCell ⟨w.heap.size + 1, 0, none⟩ x).cell? ⟨w.heap.size + 1, 1, none⟩ = some b1 := by rw [World.cell?_setCell_other _ _ _ _ (by simp)]; exact d1
    rw [World.cell?_setCell_same _ _ _ k1]
  · rw [World.frozen?_setCell, World.frozen?_setCell]; exact f0
  · rw [World.frozen?_setCell, World.frozen?_setCell]; exact f1
  · rw [World.frozen?_setCell, World.frozen?_setCell]; exact g0
  · rw [World.frozen?_setCell, World.frozen?_setCell]; exact g1
  · simpa using hs
  · exact (h.below.setCell (p := ⟨w.heap.size + 1, 0, none⟩) (Nat.le_succ _) _).setCell (p := ⟨w.heap.size + 1, 1, none⟩) (Nat.le_succ _) _
theorem Two.drew {w w1 : World} {a0 a1 b0 b1 : Value} (h : Two w w1 a0 a1 b0 b1) : Two w w1.drew a0 a1 b0 b1 := ⟨h.c0, h.c1, h.d0, h.d1, h.f0, h.f1, h.g0, h.g1, h.size, h.below.drew⟩

/- Beside an error nothing is left. -/
def Inv (s : Codec.St) : Prop := s.2 ≠ 0 → s.1 = []
def InV (s : Codec.St) : Value := .agg #[.string (S s.1), .int .i64 s.2]

set_option maxHeartbeats 400000 in
theorem rfail_any (s : Codec.St) (c : Int) (w : World) :
    Calls Tryd.prog 66 #[InV s, .int .i64 c] w fun e w' => e = .returned (InV (Codec.fail c s)) ∧ Below w.heap.size w w' := by
  obtain ⟨l, er⟩ := s
  unfold InV
  by_cases h1 : er = 0
  · by_cases h2 : c = 0
    · subst h1 h2
      have e : Codec.fail 0 (l, 0) = (l, 0) := by simp [Codec.fail]
      rw [e]
      clear e
      go_enter Tryd.func66, Tryd.ntmps66
      go_wp2
      exact bodyPost_ret (v := .agg #[.string (S l), .int .i64 0]) (by simp [results, Tryd.results66, go_sem]) rfl ⟨rfl, ((Below.refl _ _).alloc (Nat.le_refl _) _).alloc (by simp) _⟩
    · subst h1
      have e : Codec.fail c (l, 0) = ([], c) := by simp [Codec.fail, h2]
      rw [e]
      have h3 : (c != 0) = true := by rw [bne_iff_ne]; exact h2
      clear e h2
      go_enter Tryd.func66, Tryd.ntmps66
      go_wp2
      exact bodyPost_ret (v := .agg #[.string ⟨#[]⟩, .int .i64 c]) (by simp [results, Tryd.results66, go_sem]) rfl ⟨rfl, ((Below.refl _ _).alloc (Nat.le_refl _) _).alloc (by simp) _⟩
  · have e : Codec.fail c (l, er) = (l, er) := by simp [Codec.fail, h1]
    rw [e]
    have h3 : (er == 0) = false := by rw [beq_eq_false_iff_ne]; exact h1
    clear e h1
    go_enter Tryd.func66, Tryd.ntmps66
    go_wp2
    exact bodyPost_ret (v := .agg #[.string (S l), .int .i64 er]) (by simp [results, Tryd.results66, go_sem]) rfl ⟨rfl, ((Below.refl _ _).alloc (Nat.le_refl _) _).alloc (by simp) _⟩

set_option maxHeartbeats 400000 in
theorem rtake_any (s : Codec.St) (n : Nat) (w : World) (hi : Inv s) (hl : s.1.length ≤ 1099511627776) :
    Calls Tryd.prog 67 #[InV s, .int .i64 n] w fun e w' => e = .returned (.tuple #[InV (Codec.take n s).2, .string (S (Codec.take n s).1)]) ∧ Below w.heap.size w w' := by
  obtain ⟨l, er⟩ := s
  unfold InV
  have hsz : (S l).size = l.length := S_size l
  simp only at hl
  by_cases h1 : er = 0
  · subst h1
    by_cases hn : n ≤ l.length
    · have e : Codec.take n (l, 0) = (l.take n, (l.drop n, 0)) := by simp [Codec.take, hn]
      rw [e]
      clear e
      have ht := S_take l n
      have hd := S_drop l n
      rw [hsz] at hd
      go_enter Tryd.func67, Tryd.ntmps67
      go_wp2_with fail
      go_region
      go_wp2
      exact bodyPost_ret (v := .tuple #[.agg #[.string (S (l.drop n)), .int .i64 0], .string (S (l.take n))]) (by simp [results, Tryd.results67, go_sem]) rfl ⟨rfl, (((Below.refl _ _).alloc (Nat.le_refl _) _).alloc (by simp) _).drew⟩
    · have e : Codec.take n (l, 0) = ([], ([], 1)) := by simp [Codec.take, hn, Codec.fail]
      rw [e]
      clear e
      go_enter Tryd.func67, Tryd.ntmps67
      go_wp2
      exact bodyPost_ret (v := .tuple #[.agg #[.string ⟨#[]⟩, .int .i64 1], .string ⟨#[]⟩]) (by simp [results, Tryd.results67, go_sem]) rfl ⟨rfl, ((Below.refl _ _).alloc (Nat.le_refl _) _).alloc (by simp) _⟩
  · have hl0 : l = [] := hi h1
    subst hl0
    have e : Codec.take n ([], er) = ([], ([], er)) := by
      by_cases hn : n = 0
      · simp [Codec.take, hn]
      · simp [Codec.take, hn, Codec.fail, h1]
    rw [e]
    have h3 : (er != 0) = true := by rw [bne_iff_ne]; exact h1
    clear e h1 hi
    go_enter Tryd.func67, Tryd.ntmps67
    go_wp2
    exact bodyPost_ret (v := .tuple #[.agg #[.string (S []), .int .i64 er], .string ⟨#[]⟩]) (by simp [results, Tryd.results67, go_sem]) rfl ⟨rfl, ((Below.refl _ _).alloc (Nat.le_refl _) _).alloc (by simp) _⟩

/- The ways of a number's taking. -/
theorem takeU_err (er : Int) (h : er ≠ 0) : Codec.takeU ([], er) = (0, ([], er)) ∧ Codec.take 1 ([], er) = ([], ([], er)) := by
  have t1 : Codec.take 1 ([], er) = ([], ([], er)) := by simp [Codec.take, Codec.fail, h]
  have s1 : Codec.size ([], er) = (0, ([], er)) := by unfold Codec.size; rw [t1]
  have d1 : Codec.digits ([], er) = ([], ([], er)) := by unfold Codec.digits; rw [s1]; simp [Codec.take]
  exact ⟨by unfold Codec.takeU; rw [d1], t1⟩
theorem takeU_none : Codec.takeU ([], 0) = (0, ([], 1)) ∧ Codec.take 1 ([], 0) = ([], ([], 1)) := by decide
theorem takeU_first (k : UInt8) (r : List UInt8) : Codec.take 1 (k :: r, 0) = ([k], (r, 0)) := by simp [Codec.take]
theorem takeU_big (k : UInt8) (r : List UInt8) (hk : 8 < k.toNat) : Codec.takeU (k :: r, 0) = (0, ([], 2)) := by
  have s1 : Codec.size (k :: r, 0) = (0, ([], 2)) := by unfold Codec.size; rw [takeU_first]; dsimp only; rw [if_pos hk, Codec.fail_err 2 r (by decide)]
  have d1 : Codec.digits (k :: r, 0) = ([], ([], 2)) := by unfold Codec.digits; rw [s1]; rfl
  unfold Codec.takeU; rw [d1]
theorem digits_first (k : UInt8) (r : List UInt8) (hk : ¬ 8 < k.toNat) : Codec.digits (k :: r, 0) = Codec.take k.toNat (r, 0) := by
  have s1 : Codec.size (k :: r, 0) = (k.toNat, (r, 0)) := by unfold Codec.size; rw [takeU_first]; dsimp only; rw [if_neg hk]
  unfold Codec.digits; rw [s1]
theorem takeU_nil (k : UInt8) (r : List UInt8) (st : Codec.St) (hk : ¬ 8 < k.toNat) (h : Codec.take k.toNat (r, 0) = ([], st)) : Codec.takeU (k :: r, 0) = (0, st) := by
  have d1 := digits_first k r hk
  rw [h] at d1
  unfold Codec.takeU
  rw [d1]
theorem takeU_cons (k : UInt8) (r : List UInt8) (c : UInt8) (q : List UInt8) (st : Codec.St) (hk : ¬ 8 < k.toNat) (h : Codec.take k.toNat (r, 0) = (c :: q, st)) :
    Codec.takeU (k :: r, 0) = if c.toNat = 0 then (0, Codec.fail 2 st) else (Codec.val (c :: q), st) := by
  have d1 := digits_first k r hk
  rw [h] at d1
  unfold Codec.takeU
  rw [d1]

end Go.Proofs.YtgeibmlhmljhpaaDoor
/- The contract of the reference's TakeU. -/
namespace Go.Proofs.YtgeibmlhmljhpaaDoor
open Go.RowKit
set_option linter.unusedVariables false
set_option maxRecDepth 100000

theorem take_cons {n : Nat} {r q : List UInt8} {c : UInt8} {st : Codec.St} (h : Codec.take n (r, 0) = (c :: q, st)) : st.2 = 0 := by
  unfold Codec.take at h
  split at h
  · injection h with h1 h2
    rw [← h2]
  · injection h with h1 h2
    cases h1
theorem take_len {n : Nat} {s st : Codec.St} {d : List UInt8} (h : Codec.take n s = (d, st)) : d.length ≤ n ∧ st.1.length ≤ s.1.length := by
  have := Codec.take_length n s
  rw [h] at this
  exact this

theorem wrap_byte (k : UInt8) : IntKind.i64.wrap (k.toNat : Int) = (k.toNat : Int) := by
  have := k.toNat_lt
  rw [IntKind.wrap_i64]; omega

theorem wrap_join (v : Nat) (b : UInt8) (h : v < 72057594037927936) : IntKind.u64.wrap ((v : Int) * 256 + IntKind.u64.wrap (b.toNat : Int)) = ((v * 256 + b.toNat : Nat) : Int) := by
  have := b.toNat_lt
  rw [IntKind.wrap_u64, IntKind.wrap_u64]; omega

set_option maxHeartbeats 1600000 in
theorem rtakeU_any (s : Codec.St) (w : World) (hi : Inv s) (hl : s.1.length ≤ 1099511627776) :
    Calls Tryd.prog 65 #[InV s] w fun e w' => e = .returned (.tuple #[InV (Codec.takeU s).2, .int .u64 ((Codec.takeU s).1 : Nat)]) ∧ Below w.heap.size w w' := by
  have HT1 := hide (fun wx => rtake_any s 1 wx hi hl)
  obtain ⟨l, er⟩ := s
  simp only at hl
  unfold InV at *
  by_cases h1 : er = 0
  · subst h1
    clear hi
    cases l with
    | nil =>
      obtain ⟨e1, e2⟩ := takeU_none
      rw [e1]
      rw [e2] at HT1
      clear e1 e2
      go_enter Tryd.func65, Tryd.ntmps65
      go_wp2_with fail
      refine (unhide HT1 _).mono ?_
      rintro e w1 ⟨rfl, hb⟩
      have T := hide (two_boxes hb)
      obtain ⟨c0, c1, d0, d1, f0, f1, g0, g1, hsz, hbl⟩ := two_boxes hb
      clear hb hbl
      go_wp2
      have T2 := ((unhide T).put (.string (S [])) (.int .i64 1)).out (.string (S [])) (.int .i64 1)
      exact bodyPost_ret (v := .tuple #[.agg #[.string (S []), .int .i64 1], .int .u64 0]) (by have t0 := T2.d0; have t1 := T2.d1; simp [results, Tryd.results65, go_sem, t0, t1]) rfl ⟨rfl, T2.below⟩
    | cons k r =>
      rw [takeU_first] at HT1
      have hsz1 : (S [k]).size = 1 := rfl
      have h0 : ∀ h, (S [k])[0]'h = k := fun h => rfl
      by_cases hk : 8 < k.toNat
      · rw [takeU_big k r hk]
        go_enter Tryd.func65, Tryd.ntmps65
        go_wp2_with fail
        refine (unhide HT1 _).mono ?_
        rintro e w1 ⟨rfl, hb⟩
        have T := hide (two_boxes hb)
        obtain ⟨c0, c1, d0, d1, f0, f1, g0, g1, hsz, hbl⟩ := two_boxes hb
        clear hb hbl
        go_wp2
        have T2 := ((unhide T).put (.string (S r)) (.int .i64 0)).out (.string ⟨#[]⟩) (.int .i64 2)
        exact bodyPost_ret (v := .tuple #[.agg #[.string ⟨#[]⟩, .int .i64 2], .int .u64 0]) (by have t0 := T2.d0; have t1 := T2.d1; simp [results, Tryd.results65, go_sem, t0, t1]) rfl ⟨rfl, T2.below⟩
      · have HT2 := hide (fun wx => rtake_any (r, 0) k.toNat wx (by intro h; exact absurd rfl h) (by simp at hl ⊢; omega))
        generalize hp : Codec.take k.toNat (r, 0) = p at HT2
        obtain ⟨d, st⟩ := p
        have hd8 := (take_len hp).1
        rw [← wrap_byte k] at HT2
        cases d with
        | nil =>
          rw [takeU_nil k r st hk hp]
          clear hp
          obtain ⟨sl, se⟩ := st
          unfold InV at HT2
          have hse : (S []).size = 0 := rfl
          by_cases hz : se = 0
          · subst hz
            go_enter Tryd.func65, Tryd.ntmps65
            go_wp2_with fail
            refine (unhide HT1 _).mono ?_
            rintro e w1 ⟨rfl, hb⟩
            have T := hide (two_boxes hb)
            obtain ⟨c0, c1, d0, d1, f0, f1, g0, g1, hsz, hbl⟩ := two_boxes hb
            clear hb hbl
            go_wp2_with fail
            go_region_with (go_at_call 67; refine (unhide HT2 _).mono ?_; rintro e w2 ⟨rfl, hb2⟩; have T2 := hide ((((unhide T).put (.string (S r)) (.int .i64 0)).drew).later hb2); obtain ⟨c20, c21, d20, d21, f20, f21, g20, g21, hsz2, hbl2⟩ := unhide T2; clear hb2 hbl2)
            all_goals go_wp2_with fail
            all_goals
              go_loop [6, 7] (fun x i => x = .int .u64 0 ∧ i = .int .i64 0) (fun _ _ => 0)
              case atStart => exact ⟨rfl, rfl⟩
              case round =>
                obtain ⟨rfl, rfl⟩ := hrel
                go_wp2
                have T3 := ((unhide T2).put (.string (S sl)) (.int .i64 0)).out (.string (S sl)) (.int .i64 0)
                exact bodyPost_ret (v := .tuple #[.agg #[.string (S sl), .int .i64 0], .int .u64 0]) (by have t0 := T3.d0; have t1 := T3.d1; simp [results, Tryd.results65, go_sem, t0, t1]) rfl ⟨rfl, T3.below⟩
          · have hz2 : (se == 0) = false := by rw [beq_eq_false_iff_ne]; exact hz
            go_enter Tryd.func65, Tryd.ntmps65
            go_wp2_with fail
            refine (unhide HT1 _).mono ?_
            rintro e w1 ⟨rfl, hb⟩
            have T := hide (two_boxes hb)
            obtain ⟨c0, c1, d0, d1, f0, f1, g0, g1, hsz, hbl⟩ := two_boxes hb
            clear hb hbl
            go_wp2_with fail
            go_region_with (go_at_call 67; refine (unhide HT2 _).mono ?_; rintro e w2 ⟨rfl, hb2⟩; have T2 := hide ((((unhide T).put (.string (S r)) (.int .i64 0)).drew).later hb2); obtain ⟨c20, c21, d20, d21, f20, f21, g20, g21, hsz2, hbl2⟩ := unhide T2; clear hb2 hbl2)
            all_goals go_wp2_with fail
            all_goals
              go_loop [6, 7] (fun x i => x = .int .u64 0 ∧ i = .int .i64 0) (fun _ _ => 0)
              case atStart => exact ⟨rfl, rfl⟩
              case round =>
                obtain ⟨rfl, rfl⟩ := hrel
                go_wp2
                have T3 := ((unhide T2).put (.string (S sl)) (.int .i64 se)).out (.string (S sl)) (.int .i64 se)
                exact bodyPost_ret (v := .tuple #[.agg #[.string (S sl), .int .i64 se], .int .u64 0]) (by have t0 := T3.d0; have t1 := T3.d1; simp [results, Tryd.results65, go_sem, t0, t1]) rfl ⟨rfl, T3.below⟩
        | cons c q =>
          have hst := take_cons hp
          rw [takeU_cons k r c q st hk hp]
          clear hp
          obtain ⟨sl, se⟩ := st
          simp only at hst
          subst hst
          unfold InV at HT2
          have hse : (S (c :: q)).size = q.length + 1 := rfl
          have hc0 : ∀ h, (S (c :: q))[0]'h = c := fun h => rfl
          by_cases hc : c.toNat = 0
          · rw [if_pos hc]
            have hf2 : Codec.fail 2 (sl, 0) = ([], 2) := by simp [Codec.fail]
            rw [hf2]
            have hcz : ((c.toNat : Int) == 0) = true := by rw [beq_iff_eq]; omega
            go_enter Tryd.func65, Tryd.ntmps65
            go_wp2_with fail
            refine (unhide HT1 _).mono ?_
            rintro e w1 ⟨rfl, hb⟩
            have T := hide (two_boxes hb)
            obtain ⟨c0, c1, d0, d1, f0, f1, g0, g1, hsz, hbl⟩ := two_boxes hb
            clear hb hbl
            go_wp2_with fail
            go_region_with (go_at_call 67; refine (unhide HT2 _).mono ?_; rintro e w2 ⟨rfl, hb2⟩; have T2 := hide ((((unhide T).put (.string (S r)) (.int .i64 0)).drew).later hb2); obtain ⟨c20, c21, d20, d21, f20, f21, g20, g21, hsz2, hbl2⟩ := unhide T2; clear hb2 hbl2)
            all_goals go_wp2
            all_goals
              have T3 := ((unhide T2).put (.string (S sl)) (.int .i64 0)).out (.string ⟨#[]⟩) (.int .i64 2)
              exact bodyPost_ret (v := .tuple #[.agg #[.string ⟨#[]⟩, .int .i64 2], .int .u64 0]) (by have t0 := T3.d0; have t1 := T3.d1; simp [results, Tryd.results65, go_sem, t0, t1]) rfl ⟨rfl, T3.below⟩
          · rw [if_neg hc]
            have hcz : ((c.toNat : Int) == 0) = false := by rw [beq_eq_false_iff_ne]; omega
            generalize hn : q.length = n1 at *
            have hdl : (c :: q).length = n1 + 1 := by rw [← hn]; rfl
            clear hn
            generalize c :: q = d at *
            go_enter Tryd.func65, Tryd.ntmps65
            go_wp2_with fail
            refine (unhide HT1 _).mono ?_
            rintro e w1 ⟨rfl, hb⟩
            have T := hide (two_boxes hb)
            obtain ⟨c0, c1, d0, d1, f0, f1, g0, g1, hsz, hbl⟩ := two_boxes hb
            clear hb hbl
            go_wp2_with fail
            go_region_with (go_at_call 67; refine (unhide HT2 _).mono ?_; rintro e w2 ⟨rfl, hb2⟩; have T2 := hide ((((unhide T).put (.string (S r)) (.int .i64 0)).drew).later hb2); obtain ⟨c20, c21, d20, d21, f20, f21, g20, g21, hsz2, hbl2⟩ := unhide T2; clear hb2 hbl2)
            all_goals go_wp2_with fail
            all_goals
              clear hc0 hcz hc HT1 HT2
              go_loop [6, 7] (fun x i => ∃ k : Nat, k ≤ n1 + 1 ∧ i = .int .i64 k ∧ x = .int .u64 (Codec.val (d.take k) : Nat)) (fun _ i => n1 + 1 - (intOf i).toNat)
              case atStart => exact ⟨0, by omega, rfl, rfl⟩
              case round =>
                obtain ⟨j, hj, rfl, rfl⟩ := hrel
                by_cases hlt : j < n1 + 1
                · have hkd : j < d.length := by omega
                  have HV := hide (val_take d j hkd)
                  have hvs := val_small d j (by omega) hkd
                  have HW := hide (wrap_join (Codec.val (d.take j)) d[j] hvs)
                  generalize Codec.val (d.take j) = v at *
                  go_wp2
                  exact ⟨⟨j + 1, by omega, by go_num, by rw [unhide HV]; exact congrArg (Value.int .u64) (unhide HW)⟩, by simp [intOf]; omega⟩
                · have hjd : j = d.length := by omega
                  subst hjd
                  rw [List.take_length]
                  go_wp2
                  have T3 := ((unhide T2).put (.string (S sl)) (.int .i64 0)).out (.string (S sl)) (.int .i64 0)
                  exact bodyPost_ret (v := .tuple #[.agg #[.string (S sl), .int .i64 0], .int .u64 (Codec.val d : Nat)]) (by have t0 := T3.d0; have t1 := T3.d1; simp [results, Tryd.results65, go_sem, t0, t1]) rfl ⟨rfl, T3.below⟩
  · have hl0 : l = [] := hi h1
    subst hl0
    obtain ⟨e1, e2⟩ := takeU_err er h1
    rw [e1]
    rw [e2] at HT1
    have h3 : (er != 0) = true := by rw [bne_iff_ne]; exact h1
    clear e1 e2 h1 hi
    go_enter Tryd.func65, Tryd.ntmps65
    go_wp2_with fail
    refine (unhide HT1 _).mono ?_
    rintro e w1 ⟨rfl, hb⟩
    have T := hide (two_boxes hb)
    obtain ⟨c0, c1, d0, d1, f0, f1, g0, g1, hsz, hbl⟩ := two_boxes hb
    clear hb hbl
    go_wp2
    have T2 := ((unhide T).put (.string (S [])) (.int .i64 er)).out (.string (S [])) (.int .i64 er)
    exact bodyPost_ret (v := .tuple #[.agg #[.string (S []), .int .i64 er], .int .u64 0]) (by have t0 := T2.d0; have t1 := T2.d1; simp [results, Tryd.results65, go_sem, t0, t1]) rfl ⟨rfl, T2.below⟩
end Go.Proofs.YtgeibmlhmljhpaaDoor
/- The contracts of the reference's TakeI, TakeN, TakeS, End; and that nothing is left beside an error, behind any of them. -/
namespace Go.Proofs.YtgeibmlhmljhpaaDoor
open Go.RowKit
set_option linter.unusedVariables false
set_option maxRecDepth 100000

theorem Inv.fail {s : Codec.St} (h : Inv s) (c : Int) : Inv (Codec.fail c s) := by
  unfold Codec.fail
  split
  · intro _; rfl
  · exact h
theorem Inv.take {s : Codec.St} (h : Inv s) (n : Nat) : Inv (Codec.take n s).2 := by
  unfold Codec.take
  split
  · intro he
    have := h he
    simp [this]
  · exact h.fail 1
theorem Inv.size {s : Codec.St} (h : Inv s) : Inv (Codec.size s).2 := by
  unfold Codec.size
  split
  · exact h.take 1
  · split
    · exact (h.take 1).fail 2
    · exact h.take 1
theorem Inv.digits {s : Codec.St} (h : Inv s) : Inv (Codec.digits s).2 := by
  unfold Codec.digits
  exact h.size.take _
theorem Inv.takeU {s : Codec.St} (h : Inv s) : Inv (Codec.takeU s).2 := by
  unfold Codec.takeU
  split
  · exact h.digits
  · split
    · exact h.digits.fail 2
    · exact h.digits
theorem Inv.takeI {s : Codec.St} (h : Inv s) : Inv (Codec.takeI s).2 := h.takeU
theorem Inv.takeN {s : Codec.St} (h : Inv s) (m : Int) : Inv (Codec.takeN m s).2 := by
  unfold Codec.takeN
  split
  · exact h.takeU
  · exact h.takeU.fail 3
theorem Inv.takeS {s : Codec.St} (h : Inv s) (m : Int) : Inv (Codec.takeS m s).2 := (h.takeN m).take _
theorem takeN_length (m : Int) (s : Codec.St) : (Codec.takeN m s).2.1.length ≤ s.1.length := by
  have h := Codec.takeU_length s
  unfold Codec.takeN
  split
  · exact h
  · exact Nat.le_trans (Codec.fail_length 3 _) h
theorem takeS_length (m : Int) (s : Codec.St) : (Codec.takeS m s).2.1.length ≤ s.1.length := Nat.le_trans (Codec.take_length _ _).2 (takeN_length m s)

set_option maxHeartbeats 800000 in
theorem rtakeI_any (s : Codec.St) (w : World) (hi : Inv s) (hl : s.1.length ≤ 1099511627776) :
    Calls Tryd.prog 50 #[InV s] w fun e w' => e = .returned (.tuple #[InV (Codec.takeI s).2, .int .i64 (Codec.takeI s).1]) ∧ Below w.heap.size w w' := by
  have HU := hide (fun wx => rtakeU_any s wx hi hl)
  have hul := Codec.takeU_lt s
  have hsp : Codec.takeI s = (Codec.unfold (Codec.takeU s).1, (Codec.takeU s).2) := rfl
  rw [hsp]
  clear hsp hi
  obtain ⟨l, er⟩ := s
  generalize Codec.takeU (l, er) = p at *
  obtain ⟨u, sl, se⟩ := p
  simp only at hul ⊢
  unfold InV at *
  simp only at HU ⊢
  by_cases hu : u % 2 = 1
  · have e : Codec.unfold u = -((u / 2 : Nat) : Int) - 1 := by unfold Codec.unfold; rw [if_pos hu]
    rw [e]
    have hd : ((u : Int) % 2 == 1) = true := by rw [beq_iff_eq]; omega
    clear e
    go_enter Tryd.func50, Tryd.ntmps50
    go_wp2_with fail
    refine (unhide HU _).mono ?_
    rintro e w1 ⟨rfl, hb⟩
    have T := hide (two_boxes hb)
    obtain ⟨c0, c1, d0, d1, f0, f1, g0, g1, hsz, hbl⟩ := two_boxes hb
    clear hb hbl
    go_wp2
    have T3 := ((unhide T).put (.string (S sl)) (.int .i64 se)).out (.string (S sl)) (.int .i64 se)
    exact bodyPost_ret (v := .tuple #[.agg #[.string (S sl), .int .i64 se], .int .i64 (-((u / 2 : Nat) : Int) - 1)]) (by have t0 := T3.d0; have t1 := T3.d1; simp [results, Tryd.results50, go_sem, t0, t1]) rfl ⟨rfl, T3.below⟩
  · have e : Codec.unfold u = ((u / 2 : Nat) : Int) := by unfold Codec.unfold; rw [if_neg hu]
    rw [e]
    have hd : ((u : Int) % 2 == 1) = false := by rw [beq_eq_false_iff_ne]; omega
    clear e
    go_enter Tryd.func50, Tryd.ntmps50
    go_wp2_with fail
    refine (unhide HU _).mono ?_
    rintro e w1 ⟨rfl, hb⟩
    have T := hide (two_boxes hb)
    obtain ⟨c0, c1, d0, d1, f0, f1, g0, g1, hsz, hbl⟩ := two_boxes hb
    clear hb hbl
    go_wp2
    have T3 := ((unhide T).put (.string (S sl)) (.int .i64 se)).out (.string (S sl)) (.int .i64 se)
    exact bodyPost_ret (v := .tuple #[.agg #[.string (S sl), .int .i64 se], .int .i64 ((u / 2 : Nat) : Int)]) (by have t0 := T3.d0; have t1 := T3.d1; simp [results, Tryd.results50, go_sem, t0, t1]) rfl ⟨rfl, T3.below⟩

set_option maxHeartbeats 800000 in
theorem rtakeN_any (s : Codec.St) (m : Int) (w : World) (hi : Inv s) (hl : s.1.length ≤ 1099511627776) (h1 : -9223372036854775808 ≤ m) (h2 : m ≤ 9223372036854775807) :
    Calls Tryd.prog 49 #[InV s, .int .i64 m] w fun e w' => e = .returned (.tuple #[InV (Codec.takeN m s).2, .int .i64 ((Codec.takeN m s).1 : Nat)]) ∧ Below w.heap.size w w' := by
  have HU := hide (fun wx => rtakeU_any s wx hi hl)
  have hul := Codec.takeU_lt s
  have HF := hide (fun wx => rfail_any (Codec.takeU s).2 3 wx)
  have hmx : (max m 0).toNat ≤ 9223372036854775807 := by omega
  unfold Codec.takeN
  clear hi
  obtain ⟨l, er⟩ := s
  generalize Codec.takeU (l, er) = p at *
  obtain ⟨u, st⟩ := p
  simp only at hul HU HF ⊢
  by_cases hc : u ≤ (max m 0).toNat
  · rw [if_pos hc]
    obtain ⟨sl, se⟩ := st
    unfold InV at *
    have hci : (u : Int) ≤ if m < 0 then 0 else m := by split <;> omega
    clear hc
    go_enter Tryd.func49, Tryd.ntmps49
    go_wp2_with fail
    refine (unhide HU _).mono ?_
    rintro e w1 ⟨rfl, hb⟩
    have T := hide (two_boxes hb)
    obtain ⟨c0, c1, d0, d1, f0, f1, g0, g1, hsz, hbl⟩ := two_boxes hb
    clear hb hbl
    go_wp2
    all_goals
      have T3 := ((unhide T).put (.string (S sl)) (.int .i64 se)).out (.string (S sl)) (.int .i64 se)
      exact bodyPost_ret (v := .tuple #[.agg #[.string (S sl), .int .i64 se], .int .i64 (u : Int)]) (by have t0 := T3.d0; have t1 := T3.d1; simp [results, Tryd.results49, go_sem, t0, t1]) rfl ⟨rfl, T3.below⟩
  · rw [if_neg hc]
    have hci : (if m < 0 then 0 else m) < (u : Int) := by split <;> omega
    clear hc
    generalize Codec.fail 3 st = sf at *
    obtain ⟨sl, se⟩ := st
    obtain ⟨fl, fe⟩ := sf
    unfold InV at *
    go_enter Tryd.func49, Tryd.ntmps49
    go_wp2_with fail
    refine (unhide HU _).mono ?_
    rintro e w1 ⟨rfl, hb⟩
    have T := hide (two_boxes hb)
    obtain ⟨c0, c1, d0, d1, f0, f1, g0, g1, hsz, hbl⟩ := two_boxes hb
    clear hb hbl
    go_wp2_with fail
    all_goals
      refine (unhide HF _).mono ?_
      rintro e w2 ⟨rfl, hb2⟩
      have T2 := hide (((unhide T).put (.string (S sl)) (.int .i64 se)).later hb2)
      obtain ⟨c20, c21, d20, d21, f20, f21, g20, g21, hsz2, hbl2⟩ := unhide T2
      clear hb2 hbl2
      go_wp2
      have T3 := (unhide T2).out (.string (S fl)) (.int .i64 fe)
      exact bodyPost_ret (v := .tuple #[.agg #[.string (S fl), .int .i64 fe], .int .i64 0]) (by have t0 := T3.d0; have t1 := T3.d1; simp [results, Tryd.results49, go_sem, t0, t1]) rfl ⟨rfl, T3.below⟩

set_option maxHeartbeats 800000 in
theorem rtakeS_any (s : Codec.St) (m : Int) (w : World) (hi : Inv s) (hl : s.1.length ≤ 1099511627776) (h1 : -9223372036854775808 ≤ m) (h2 : m ≤ 9223372036854775807) :
    Calls Tryd.prog 51 #[InV s, .int .i64 m] w fun e w' => e = .returned (.tuple #[InV (Codec.takeS m s).2, .string (S (Codec.takeS m s).1)]) ∧ Below w.heap.size w w' := by
  have HN := hide (fun wx => rtakeN_any s m wx hi hl h1 h2)
  have HT : Hid (∀ wx, Calls Tryd.prog 67 #[InV (Codec.takeN m s).2, .int .i64 ((Codec.takeN m s).1 : Nat)] wx fun e w' => e = .returned (.tuple #[InV (Codec.takeS m s).2, .string (S (Codec.takeS m s).1)]) ∧ Below wx.heap.size wx w') :=
    fun wx => rtake_any _ _ wx (hi.takeN m) (Nat.le_trans (takeN_length m s) hl)
  clear hi
  obtain ⟨l, er⟩ := s
  generalize Codec.takeN m (l, er) = p at *
  generalize Codec.takeS m (l, er) = q at *
  obtain ⟨n, sl, se⟩ := p
  obtain ⟨d, tl, te⟩ := q
  unfold InV at *
  simp only at HN HT ⊢
  go_enter Tryd.func51, Tryd.ntmps51
  go_wp2_with fail
  refine (unhide HN _).mono ?_
  rintro e w1 ⟨rfl, hb⟩
  have T := hide (two_boxes hb)
  obtain ⟨c0, c1, d0, d1, f0, f1, g0, g1, hsz, hbl⟩ := two_boxes hb
  clear hb hbl
  go_wp2_with fail
  refine (unhide HT _).mono ?_
  rintro e w2 ⟨rfl, hb2⟩
  have T2 := hide (((unhide T).put (.string (S sl)) (.int .i64 se)).later hb2)
  obtain ⟨c20, c21, d20, d21, f20, f21, g20, g21, hsz2, hbl2⟩ := unhide T2
  clear hb2 hbl2
  go_wp2
  have T3 := (unhide T2).out (.string (S tl)) (.int .i64 te)
  exact bodyPost_ret (v := .tuple #[.agg #[.string (S tl), .int .i64 te], .string (S d)]) (by have t0 := T3.d0; have t1 := T3.d1; simp [results, Tryd.results51, go_sem, t0, t1]) rfl ⟨rfl, T3.below⟩

set_option maxHeartbeats 800000 in
theorem rend_any (s : Codec.St) (w : World) (hi : Inv s) :
    Calls Tryd.prog 52 #[InV s] w fun e w' => e = .returned (.int .i64 (Codec.endOf s).2) ∧ Below w.heap.size w w' := by
  obtain ⟨l, er⟩ := s
  unfold InV
  by_cases h1 : er = 0
  · subst h1
    cases l with
    | nil =>
      have hb : (S []).toList.isEmpty = true := S_isEmpty []
      go_enter Tryd.func52, Tryd.ntmps52
      go_wp2
      go_ret
      exact ⟨rfl, (Below.refl _ _).alloc (Nat.le_refl _) _⟩
    | cons c q =>
      have e : Codec.endOf (c :: q, 0) = ([], 2) := by simp [Codec.endOf, Codec.fail]
      rw [e]
      have hb : (S (c :: q)).toList.isEmpty = false := S_isEmpty (c :: q)
      go_enter Tryd.func52, Tryd.ntmps52
      go_wp2
      go_ret
      exact ⟨rfl, (Below.refl _ _).alloc (Nat.le_refl _) _⟩
  · have hl0 : l = [] := hi h1
    subst hl0
    have hz : (er == 0) = false := by rw [beq_eq_false_iff_ne]; exact h1
    clear hi
    go_enter Tryd.func52, Tryd.ntmps52
    go_wp2
    go_ret
    exact ⟨rfl, (Below.refl _ _).alloc (Nat.le_refl _) _⟩
end Go.Proofs.YtgeibmlhmljhpaaDoor
